/-
 Contracts and plain facts on the way to PrettyBack. Conditions: as each says.
-/
import Derived.Test.YtoaplbljflhheaaGreatBas
set_option maxHeartbeats 40000000
set_option maxRecDepth 100000
set_option linter.unusedVariables false
set_option linter.unusedSimpArgs false
namespace Go.Proofs.YtoaplbljflhheaaGreat
open _root_.Go.Proofs.Tryz
section
open Go.RowKit
theorem b4g {w : World} {B : Nat} {v : Value} {l : List UInt8} (h : Own w B v l) (m : List UInt8) (e : l = m) : Own w B v m := e ▸ h
def c09 (s : ByteArray) (w : World) (a' : Act) (w' : World) : Prop :=
 ∃ (k : Nat) (v : Value), (k <= s.size ∧ Own w' w.heap.size v (34 :: body (s.data.toList.take k)) ∧ Below w.heap.size w w') ∧ ∃ u5 u6 u7 u8 u9 u10 u11 u12 u13 u14 u15 u16 u17 u18 u19 u20 u21 u22 u23 u24 u25 : Value, a' = { tmps := #[.string s, undef, .string { data := #[] }, v, .int .i64 k, u5, u6, u7, u8, u9, u10, u11, u12, u13, u14, u15, u16, u17, u18, u19, u20, u21, u22, u23, u24, u25], defers := [] }
theorem a3n (s : ByteArray) (w : World) (hs : s.size <= 100000) : Calls prog 154 #[.string s] w fun e w' => e = .returned (.string (bs (lit s.data.toList))) ∧ Below w.heap.size w w' := by
 have HS := zz (fun w => Yh s w hs);obtain ⟨N, hN⟩ : ∃ N, (lit s.data.toList).length = N := ⟨_, rfl⟩
 have hN2 : N <= 400002 := by
  have := Th s.data.toList;rw [Ad] at this;rw [Xl] at hN;omega
 rw [hN] at HS;clear hN;go_enter func154, ntmps154;go_wp2;refine Ep 0 (c09 s w) (fun a' _ => s.size - (intOf (a'.tmps.getD 4 undef)).toNat) rfl ?_ ?_
 ·rintro a' w' ⟨k, v, ⟨hk, ho, hb⟩, u5, u6, u7, u8, u9, u10, u11, u12, u13, u14, u15, u16, u17, u18, u19, u20, u21, u22, u23, u24, u25, rfl⟩;have hz := a6h s k hk hs;by_cases hlt : k < s.size
  ·have HE := zz (b6h s[k] w.heap.size v _ w' ho hb.size (by simp; omega));have HB := zz (show 34 :: body (s.data.toList.take k) ++ esc s[k] = 34 :: body (s.data.toList.take (k + 1)) by rw [Qg s k hlt]; rfl);replace hb := zz hb;clear hz ho;go_wp2_with fail;refine HE.out.mono ?_;rintro e w1 ⟨v1, rfl, ho1, hb1⟩;replace ho1 := zz (b4g ho1 _ HB.out);replace hb1 := zz (hb.out.trans hb1);go_wp2
   go_step3
   refine ⟨rfl, ⟨k + 1, v1, ⟨hlt, ho1.out, hb1.out⟩, ?_⟩, ?_⟩
   ·exact ⟨_, _, _, _, _, _, _, _, _, _, _, _, _, _, _, _, _, _, _, _, _, rfl⟩
   ·simp [intOf];omega
  ·obtain rfl : k = s.size := by omega
   have HB := zz (show 34 :: body (s.data.toList.take s.size) ++ [34] = lit s.data.toList by rw [List.take_of_length_le (by rw [Ad]; omega)]; rfl);obtain ⟨l, hl⟩ : ∃ l, 34 :: body (s.data.toList.take s.size) = l := ⟨_, rfl⟩;have hl2 : l.length <= 400001 := by rw [<- hl]; simp; omega
   rw [hl] at ho HB;have hbs := hb.size;replace hb := zz hb;replace ho := zz ho;clear hl hz;go_wp2_with (at_builtin; refine Cd rfl _ _ rfl w.heap.size v l [34] 1 rfl rfl rfl rfl ho.out hbs (by omega) ?_; intro v2 w2 ho2 hb2; have hcv := Kv ho2; replace ho2 := zz ho2; replace hb2 := zz hb2);simp only [Exit.jump];go_ret;rw [HB.out];exact ⟨rfl, hb.out.trans hb2.out⟩
 ·intro F;go_wp2_with fail;refine (HS.out _).mono ?_;rintro e w1 ⟨rfl, rfl⟩
  go_wp2_with (first
   | (at_make; refine Np rfl _ _ rfl w.heap.size N N rfl rfl rfl (by omega) (Nat.le_refl _) ?_; intro v1 w1 ho1 hb1; have hz1 := hb1.size; replace ho1 := zz ho1; replace hb1 := zz hb1)
   | (at_builtin; refine Cd rfl _ _ rfl w.heap.size v1 [] [34] 1 rfl rfl rfl rfl ho1.out hz1 (by decide) ?_; intro v2 w2 ho2 hb2; replace ho2 := zz ho2; replace hb2 := zz hb2))
  go_step3
  rename_i hK;apply hK;exact F _ _ ⟨0, v2, ⟨Nat.zero_le _, ho2.out, hb1.out.trans hb2.out⟩, _, _, _, _, _, _, _, _, _, _, _, _, _, _, _, _, _, _, _, _, _, rfl⟩
end
end Go.Proofs.YtoaplbljflhheaaGreat
