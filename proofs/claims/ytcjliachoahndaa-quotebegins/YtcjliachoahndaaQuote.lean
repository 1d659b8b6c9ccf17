/-
  Contract of quote.Quote. Conditions: texts of at most 100000 bytes.
-/
import Derived.Test.YtcjliachoahndaaApp
namespace Go.Proofs.Ytcjliachoahndaa
open Go.RowKit
set_option linter.unusedVariables false

theorem wpList_make0 {ops : Array Oper} {rest : List Oper} {o : Oper} {a : Act} {Q : Exit → Act → World → Prop} {w : World} (hgd : o.guard = none) (l c : Operand) (ho : o.op = Op.makeSlice 34 l c)
    (B n : Nat) (C : Int) (hl : a.eval l = .int .i64 0) (hc : a.eval c = .int .i64 C) (hC : C = (n : Int)) (hn : n ≤ 100000000) (hB : B ≤ w.heap.size)
    (h : ∀ v' w', Own w' B v' [] → Below B w w' → wpList Try.prog ops Q rest (a.put o.dst v') w') : wpList Try.prog ops Q (o :: rest) a w := by
  obtain ⟨i0, hi0, hz0, hz1, hz2⟩ := info_parts Try.info5
  refine wpList_make_own w hgd l c 34 ho B 5 i0 (.int .u8 0) 1 Try.underlying34 hi0 hz0 hz1 .i64 .i64 C n hl hc hC (by rw [hz2]; omega) (by unfold maxLen; omega) hB ?_
  intro w' h1 h2
  exact h _ w' h1 ((Below.refl B w).grown h2 hB fun r hr => by cases hr)

theorem own_len {w : World} {B : Nat} {v : Value} {l : List UInt8} (h : Own w B v l) (m : List UInt8) (e : l = m) : Own w B v m := e ▸ h

def JQuote (s : ByteArray) (w : World) (a' : Act) (w' : World) : Prop :=
  ∃ (k : Nat) (v : Value), (k ≤ s.size ∧ Own w' w.heap.size v (34 :: body (s.data.toList.take k)) ∧ Below w.heap.size w w') ∧ ∃ u5 u6 u7 u8 u9 u10 u11 u12 u13 u14 u15 u16 u17 u18 u19 u20 u21 u22 u23 u24 u25 : Value, a' = { tmps := #[.string s, undef, .string { data := #[] }, v, .int .i64 k, u5, u6, u7, u8, u9, u10, u11, u12, u13, u14, u15, u16, u17, u18, u19, u20, u21, u22, u23, u24, u25], defers := [] }

set_option maxHeartbeats 1000000 in
theorem quote_any (s : ByteArray) (w : World) (hs : s.size ≤ 100000) : Calls Try.prog 8 #[.string s] w fun e w' => e = .returned (.string (bs (lit s.data.toList))) ∧ Below w.heap.size w w' := by
  have HS := Lib.hid (fun w => size_any s w hs)
  obtain ⟨N, hN⟩ : ∃ N, (lit s.data.toList).length = N := ⟨_, rfl⟩
  have hN2 : N ≤ 400002 := by
    have := body_len s.data.toList
    rw [size_list] at this
    rw [lit_len] at hN
    omega
  rw [hN] at HS
  clear hN
  go_enter Try.func8, Try.ntmps8
  go_wp2
  refine wp_scope_goto 0 (JQuote s w) (fun a' _ => s.size - (intOf (a'.tmps.getD 4 undef)).toNat) rfl ?_ ?_
  · rintro a' w' ⟨k, v, ⟨hk, ho, hb⟩, u5, u6, u7, u8, u9, u10, u11, u12, u13, u14, u15, u16, u17, u18, u19, u20, u21, u22, u23, u24, u25, rfl⟩
    have hz := body_le s k hk hs
    by_cases hlt : k < s.size
    · have HE := Lib.hid (app_any s[k] w.heap.size v _ w' ho hb.size (by simp; omega))
      have HB := Lib.hid (show 34 :: body (s.data.toList.take k) ++ esc s[k] = 34 :: body (s.data.toList.take (k + 1)) by rw [body_take s k hlt]; rfl)
      replace hb := Lib.hid hb
      clear hz ho
      go_wp2_with fail
      refine HE.out.mono ?_
      rintro e w1 ⟨v1, rfl, ho1, hb1⟩
      replace ho1 := Lib.hid (own_len ho1 _ HB.out)
      replace hb1 := Lib.hid (hb.out.trans hb1)
      go_wp2
      go_step3
      refine ⟨rfl, ⟨k + 1, v1, ⟨hlt, ho1.out, hb1.out⟩, ?_⟩, ?_⟩
      · exact ⟨_, _, _, _, _, _, _, _, _, _, _, _, _, _, _, _, _, _, _, _, _, rfl⟩
      · simp [intOf]
        omega
    · obtain rfl : k = s.size := by omega
      have HB := Lib.hid (show 34 :: body (s.data.toList.take s.size) ++ [34] = lit s.data.toList by rw [List.take_of_length_le (by rw [size_list]; omega)]; rfl)
      obtain ⟨l, hl⟩ : ∃ l, 34 :: body (s.data.toList.take s.size) = l := ⟨_, rfl⟩
      have hl2 : l.length ≤ 400001 := by rw [← hl]; simp; omega
      rw [hl] at ho HB
      have hbs := hb.size
      replace hb := Lib.hid hb
      replace ho := Lib.hid ho
      clear hl hz
      go_wp2_with (at_builtin; refine wpList_app rfl _ _ rfl w.heap.size v l [34] 1 rfl rfl rfl rfl ho.out hbs (by omega) ?_; intro v2 w2 ho2 hb2; have hcv := own_text ho2; replace ho2 := Lib.hid ho2; replace hb2 := Lib.hid hb2)
      simp only [Exit.jump]
      go_ret
      rw [HB.out]
      exact ⟨rfl, hb.out.trans hb2.out⟩
  · intro F
    go_wp2_with fail
    refine (HS.out _).mono ?_
    rintro e w1 ⟨rfl, rfl⟩
    go_wp2_with (first
      | (at_make; refine wpList_make0 rfl _ _ rfl w.heap.size N N rfl rfl rfl (by omega) (Nat.le_refl _) ?_; intro v1 w1 ho1 hb1; have hz1 := hb1.size; replace ho1 := Lib.hid ho1; replace hb1 := Lib.hid hb1)
      | (at_builtin; refine wpList_app rfl _ _ rfl w.heap.size v1 [] [34] 1 rfl rfl rfl rfl ho1.out hz1 (by decide) ?_; intro v2 w2 ho2 hb2; replace ho2 := Lib.hid ho2; replace hb2 := Lib.hid hb2))
    go_step3
    rename_i hK
    apply hK
    exact F _ _ ⟨0, v2, ⟨Nat.zero_le _, ho2.out, hb1.out.trans hb2.out⟩, _, _, _, _, _, _, _, _, _, _, _, _, _, _, _, _, _, _, _, _, _, rfl⟩

end Go.Proofs.Ytcjliachoahndaa
