/-
 Contracts and plain facts on the way to PrettyTerms. Conditions: as each says.
-/
import Derived.ScopeJumps
import Derived.WalkMore
import Derived.Test.YtoaplbljflhheaaGreatTai
import Derived.Test.YtoaplbljflhheaaGreatTab
set_option maxHeartbeats 40000000
set_option maxRecDepth 100000
set_option linter.unusedVariables false
set_option linter.unusedSimpArgs false
namespace Go.Proofs.YtoaplbljflhheaaGreat
open Go.RowKit
theorem Qp (s : ByteArray) (k : Nat) (h : k < s.size) : body (s.data.toList.take (k + 1)) = body (s.data.toList.take k) ++ esc s[k] := by
 rw [Dh s k h, a1c]
theorem a1d (s : ByteArray) (k : Nat) (h : k ≤ s.size) (hs : s.size ≤ 100000) : (body (s.data.toList.take k)).length ≤ 400000 := by
 have := Ld (s.data.toList.take k)
 rw [List.length_take, Af] at this
 omega
def b5q (s : ByteArray) (w : World) (a' : Act) (w' : World) : Prop :=
 ∃ k : Nat, (w' = w ∧ k ≤ s.size) ∧ ∃ u5 u6 u7 u8 u9 u10 u11 u12 u13 u14 u15 u16 u17 : Value, a' = { tmps := #[.string s, undef, .int .i64 0, .int .i64 ((body (s.data.toList.take k)).length + 2 : Nat), .int .i64 k, u5, u6, u7, u8, u9, u10, u11, u12, u13, u14, u15, u16, u17], defers := [] }
theorem Ss (s : ByteArray) (w : World) (hs : s.size ≤ 100000) : Calls Tryz.prog 183 #[.string s] w fun e w' => e = .returned (.int .i64 ((lit s.data.toList).length : Nat)) ∧ w = w' := by
 go_enter Tryz.func183, Tryz.ntmps183
 go_wp2
 refine Dg 0 (b5q s w) (fun a' _ => s.size - (intOf (a'.tmps.getD 4 undef)).toNat) rfl ?_ ?_
 ·rintro a' w' ⟨k, ⟨rfl, hk⟩, u5, u6, u7, u8, u9, u10, u11, u12, u13, u14, u15, u16, u17, rfl⟩
  have hz := a1d s k hk hs
  by_cases hlt : k < s.size
  ·have HE := zz (fun w => Rl s[k] w)
   have h4 := (Sa s[k]).2.2.2.1
   have HB := zz (show (body (s.data.toList.take (k + 1))).length + 2 = (body (s.data.toList.take k)).length + 2 + (esc s[k]).length by rw [Qp s k hlt]; simp; omega)
   obtain ⟨m, hm⟩ : ∃ m, (body (s.data.toList.take k)).length + 2 = m := ⟨_, rfl⟩
   obtain ⟨p, hp⟩ : ∃ p, (esc s[k]).length = p := ⟨_, rfl⟩
   have hm2 : m ≤ 400002 := by omega
   have hp2 : p ≤ 4 := by omega
   rw [hm] at HB
   rw [hp] at HB HE
   rw [hm]
   clear hm hp h4 hz
   go_wp2_with fail
   refine (HE.out _).mono ?_
   rintro e w1 ⟨rfl, rfl⟩
   go_wp2
   go_step3
   refine ⟨rfl, ⟨k + 1, ⟨rfl, hlt⟩, ?_⟩, ?_⟩
   ·rw [HB.out]
    exact ⟨_, _, _, _, _, _, _, _, _, _, _, _, _, rfl⟩
   ·simp [intOf]
    omega
  ·obtain rfl : k = s.size := by omega
   have HB := zz (show (((body (s.data.toList.take s.size)).length + 2 : Nat) : Int) = (lit s.data.toList).length by rw [List.take_of_length_le (by rw [Af]; omega), Og])
   go_wp2
   simp only [Exit.jump]
   go_ret
   exact ⟨D3 HB.out, rfl⟩
 ·intro F
  go_wp2
  go_step3
  rename_i hK
  apply hK
  exact F _ _ ⟨0, ⟨rfl, Nat.zero_le _⟩, _, _, _, _, _, _, _, _, _, _, _, _, _, rfl⟩
end Go.Proofs.YtoaplbljflhheaaGreat
