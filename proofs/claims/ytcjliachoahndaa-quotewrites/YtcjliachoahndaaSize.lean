/-
  Contract of quote.Size. Conditions: texts of at most 100000 bytes.
-/
import Derived.Test.YtcjliachoahndaaSmall
import Derived.ScopeJumps
import Derived.WalkMore
namespace Go.Proofs.Ytcjliachoahndaa
open Go.RowKit
set_option linter.unusedVariables false

/-- A scope whose label is jumped back to: the round is walked once. -/
theorem wp_scope_goto {P : Program} {a : Act} {w : World} {Q : Exit → Act → World → Prop} {c rest : Code} (l : Nat) (J : Act → World → Prop) (μ : Act → World → Nat) (hf : findLabel c l = some (Code.skip.seq rest))
    (round : ∀ a w, J a w → rest.wp P (Exit.jump l (fun a' w' => J a' w' ∧ μ a' w' < μ a w) Q) a w)
    (first : (∀ a w, J a w → rest.wp P (Exit.jump l J Q) a w) → c.wp P (Exit.jump l J Q) a w) : (Code.scope c).wp P Q a w :=
  wp_scope_jumps l J μ hf (first fun a w h => wp_mono (round a w h) fun e a' w' h' => by
    cases e with
    | goto => exact ⟨h'.1, h'.2.1⟩
    | _ => exact h') fun a w h => wp_seq (wp_skip (round a w h))

theorem body_take (s : ByteArray) (k : Nat) (h : k < s.size) : body (s.data.toList.take (k + 1)) = body (s.data.toList.take k) ++ esc s[k] := by
  rw [take_snoc s k h, body_snoc]

theorem body_le (s : ByteArray) (k : Nat) (h : k ≤ s.size) (hs : s.size ≤ 100000) : (body (s.data.toList.take k)).length ≤ 400000 := by
  have := body_len (s.data.toList.take k)
  rw [List.length_take, size_list] at this
  omega

def JSize (s : ByteArray) (w : World) (a' : Act) (w' : World) : Prop :=
  ∃ k : Nat, (w' = w ∧ k ≤ s.size) ∧ ∃ u5 u6 u7 u8 u9 u10 u11 u12 u13 u14 u15 u16 u17 : Value, a' = { tmps := #[.string s, undef, .int .i64 0, .int .i64 ((body (s.data.toList.take k)).length + 2 : Nat), .int .i64 k, u5, u6, u7, u8, u9, u10, u11, u12, u13, u14, u15, u16, u17], defers := [] }

set_option maxHeartbeats 400000 in
theorem size_any (s : ByteArray) (w : World) (hs : s.size ≤ 100000) : Calls Try.prog 11 #[.string s] w fun e w' => e = .returned (.int .i64 ((lit s.data.toList).length : Nat)) ∧ w = w' := by
  go_enter Try.func11, Try.ntmps11
  go_wp2
  refine wp_scope_goto 0 (JSize s w) (fun a' _ => s.size - (intOf (a'.tmps.getD 4 undef)).toNat) rfl ?_ ?_
  · rintro a' w' ⟨k, ⟨rfl, hk⟩, u5, u6, u7, u8, u9, u10, u11, u12, u13, u14, u15, u16, u17, rfl⟩
    have hz := body_le s k hk hs
    by_cases hlt : k < s.size
    · have HE := Lib.hid (fun w => sizeOf_any s[k] w)
      have h4 := (esc_all s[k]).2.2.2.1
      have HB := Lib.hid (show (body (s.data.toList.take (k + 1))).length + 2 = (body (s.data.toList.take k)).length + 2 + (esc s[k]).length by rw [body_take s k hlt]; simp; omega)
      obtain ⟨m, hm⟩ : ∃ m, (body (s.data.toList.take k)).length + 2 = m := ⟨_, rfl⟩
      obtain ⟨p, hp⟩ : ∃ p, (esc s[k]).length = p := ⟨_, rfl⟩
      have hm2 : m ≤ 400002 := by omega
      have hp2 : p ≤ 4 := by omega
      rw [hm] at HB
      rw [hp] at HB HE
      rw [hm]
      clear hm hp h4 hz
      go_wp2_with fail
      refine (HE.out _).mono ?_
      rintro e w1 ⟨rfl, rfl⟩
      go_wp2
      go_step3
      refine ⟨rfl, ⟨k + 1, ⟨rfl, hlt⟩, ?_⟩, ?_⟩
      · rw [HB.out]
        exact ⟨_, _, _, _, _, _, _, _, _, _, _, _, _, rfl⟩
      · simp [intOf]
        omega
    · obtain rfl : k = s.size := by omega
      have HB := Lib.hid (show (((body (s.data.toList.take s.size)).length + 2 : Nat) : Int) = (lit s.data.toList).length by rw [List.take_of_length_le (by rw [size_list]; omega), lit_len])
      go_wp2
      simp only [Exit.jump]
      go_ret
      exact ⟨ret_int HB.out, rfl⟩
  · intro F
    go_wp2
    go_step3
    rename_i hK
    apply hK
    exact F _ _ ⟨0, ⟨rfl, Nat.zero_le _⟩, _, _, _, _, _, _, _, _, _, _, _, _, _, rfl⟩

end Go.Proofs.Ytcjliachoahndaa
