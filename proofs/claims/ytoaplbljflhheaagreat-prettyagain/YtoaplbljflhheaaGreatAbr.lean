/-
 Contracts and plain facts on the way to PrettyAgain. Conditions: as each says.
-/
import Derived.Test.YtoaplbljflhheaaGreatAbq
import Derived.Test.YtoaplbljflhheaaGreatAax
import Derived.Test.YtoaplbljflhheaaGreatAak
set_option maxHeartbeats 40000000
set_option maxRecDepth 100000
set_option linter.unusedVariables false
set_option linter.unusedSimpArgs false
namespace Go.Proofs.YtoaplbljflhheaaGreat
open _root_.Go.Proofs.Tryz
section
open Go.RowKit Go.Sort
def Jt (k : Nat) : List Pc := [⟨[10], 0, 0, 1⟩, nP k, ⟨[], 0, 0, -1⟩]
def Jo (ps : List Nat) : List Pc := tP [123] :: (ps.flatMap Jt ++ [tP [10], tP [125]])
def b15 (k : Nat) : List Pc := [tP [44, 32], nP k]
def Av : List Nat → List Pc
 | [] => []
 | k :: r => nP k :: r.flatMap b15
theorem Ul (ps : List Nat) : (ps.flatMap Jt).length = 3 * ps.length := by
 induction ps with
 | nil => rfl
 | cons k r ih => rw [List.flatMap_cons, List.length_append, ih]; simp [Jt]; omega
theorem Hv (ps : List Nat) : (Av ps).length ≤ 2 * ps.length := by
 cases ps with
 | nil => simp [Av]
 | cons k r =>
  have : (r.flatMap b15).length = 2 * r.length := by
   induction r with
   | nil => rfl
   | cons k r ih => rw [List.flatMap_cons, List.length_append, ih]; simp [b15]; omega
  simp [Av, this]; omega
theorem O3 {ps : List Nat} {i : Nat} (h : i < ps.length) : ps.take (i + 1) = ps.take i ++ [ps.getD i 0] := by
 rw [List.take_add_one, List.getD_eq_getElem?_getD, List.getElem?_eq_getElem h]; rfl
theorem Ui {ps : List Nat} (h : 0 < ps.length) : Av (ps.take 1) = [nP (ps.getD 0 0)] := by
 cases ps with
 | nil => simp at h
 | cons k r => rfl
theorem Ww {ps : List Nat} {i : Nat} (h : i < ps.length) (h0 : 0 < i) : Av (ps.take (i + 1)) = Av (ps.take i) ++ b15 (ps.getD i 0) := by
 rw [O3 h]
 cases ps with
 | nil => simp at h
 | cons k r =>
  obtain ⟨j, rfl⟩ : ∃ j, i = j + 1 := ⟨i - 1, by omega⟩;simp [Av]
def a1c (w : World) (b : Nat) (E : Env) (X : List Pc) (t : Int) (out : List UInt8) (a : Option Addr) (ps : List Nat) (f : Nat → List Pc) (m : Nat) (j : Value) (wr : World) : Prop :=
 ∃ i : Nat, i ≤ m ∧ j = .int .i64 i ∧ Wr wr b E (X ++ f i) t out ∧ Fw b w wr ∧ Dz b wr a ps
theorem Uj {w : World} {b : Nat} {E : Env} {X : List Pc} {t : Int} {out : List UInt8} (h : Wr w b E X t out) (hX : X.length ≤ 90000000) {a : Option Addr} {m cap : Nat} {ps : List Nat} (hm : Hid (ps.length = m)) (hm2 : m ≤ 1000000) (hk : Dz b w a ps) :
  Calls prog 151 #[pR b, .slice a m cap] w (Put b E X t out (Jo ps) w) := by
 have HW := zz h;have HK := zz hk;have hbl := h.lt;have HF : Hid (Wr w b E X t out → True) := zz fun _ => trivial
 have hbW := zz (Below.refl w.heap.size w);clear h hk;go_enter func151, ntmps151;go_wp2_with fail;refine (C0 _ _).mono ?_;rintro e w1 ⟨rfl, hb1⟩;replace hbW := zz (Ab hbW.out hb1);go_wp2_with fail;refine (Ap (P := [tP [123]]) (k := 1) (HW.out.carry (Ab hbW.out (Aa w1 _))) rfl (LiesP.made (news := #[.string { data := #[123] }, .int .i64 0, .int .i64 0, .int .i64 0]) w1 rfl) (by simp; omega)).mono ?_;rintro e V1 ⟨rfl, hw2, hf2⟩;have hFb := (Fw.below (Ab hbW.out (Aa w1 (.cells #[.string { data := #[123] }, .int .i64 0, .int .i64 0, .int .i64 0] 71))) (Nat.le_of_lt hbl));have HR : Hid (a1c w b E X t out a ps (fun i => tP [123] :: (ps.take i).flatMap Jt) m (.int .i64 0) V1) := zz ⟨0, Nat.zero_le _, rfl, by simpa using hw2, hFb.trans hf2, HK.out.fw (hFb.trans hf2)⟩;clear hw2 hf2 hFb hbW hb1 HW HK HF;go_wp2_with fail
 go_loopw [12] (fun j wr => a1c w b E X t out a ps (fun i => tP [123] :: (ps.take i).flatMap Jt) m j wr) (fun j _ => m - (intOf j).toNat)
 case atStart => exact HR.out
 case round =>
  clear HR;obtain ⟨i, hi, rfl, hw, hf, hkk⟩ := hrel;have HW := zz hw;have HF := zz hf;have HK := zz hkk;have hbr := hw.lt;by_cases hlt : i < m
  ·have hlt' : i < ps.length := by rw [hm.out]; exact hlt
   obtain ⟨g0, o0, rfl⟩ := hkk.addr (by omega);have hc := hkk.cell hlt';obtain ⟨k, hkp⟩ : ∃ k, ps.getD i 0 = k := ⟨_, rfl⟩;rw [hkp] at hc
   have HL : Hid ((X ++ tP [123] :: (ps.take i).flatMap Jt).length ≤ 99000000) := zz (by
    have := Ul (ps.take i)
    simp only [List.length_append, List.length_cons, this, List.length_take]; omega)
   have HE : Hid (tP [123] :: (ps.take (i + 1)).flatMap Jt = (tP [123] :: (ps.take i).flatMap Jt) ++ Jt k) := zz (by rw [O3 hlt', hkp]; simp);clear hw hf hkk hkp hlt';go_wp2_with fail;refine (Lc _ _).mono ?_;rintro e w2 ⟨rfl, hb2⟩;replace hb2 := zz hb2;go_wp2_with fail;refine (Ap (P := Jt k) (k := 3) (HW.out.carry (Ab hb2.out (Aa w2 _))) rfl (LiesP.made (news := #[.string { data := #[10] }, .int .i64 0, .int .i64 0, .int .i64 1, .string { data := #[] }, .int .i64 k, .int .i64 0, .int .i64 0, .string { data := #[] }, .int .i64 0, .int .i64 0, .int .i64 (-1)]) w2 rfl) (by have := HL.out; omega)).mono ?_;rintro e V2 ⟨rfl, hw2, hf2⟩;have hFb := zz ((Fw.below (Ab hb2.out (Aa w2 (.cells #[.string { data := #[10] }, .int .i64 0, .int .i64 0, .int .i64 1, .string { data := #[] }, .int .i64 k, .int .i64 0, .int .i64 0, .string { data := #[] }, .int .i64 0, .int .i64 0, .int .i64 (-1)] 71))) (Nat.le_of_lt hbr)).trans hf2);replace hw2 := zz hw2;clear hf2 hb2;go_wp2_with fail
   go_roundw
   case rel => exact ⟨i + 1, hlt, by go_num, by show Wr _ _ _ (X ++ (tP [123] :: (ps.take (i + 1)).flatMap Jt)) _ _; rw [HE.out, ← List.append_assoc]; exact hw2.out, HF.out.trans hFb.out, HK.out.fw hFb.out⟩
   case measure => simp [intOf]; omega
  ·have HE : Hid (X ++ (tP [123] :: (ps.take i).flatMap Jt) ++ [tP [10], tP [125]] = X ++ Jo ps) := zz (by
    rw [List.take_of_length_le (by rw [hm.out]; omega)]; simp [Jo])
   have HL : Hid ((X ++ tP [123] :: (ps.take i).flatMap Jt).length ≤ 99000000) := zz (by
    have := Ul (ps.take i)
    simp only [List.length_append, List.length_cons, this, List.length_take]; omega)
   clear hw hf hkk;have hbW := zz (Below.refl wr.heap.size wr);go_wp2_with fail;refine (C0 _ _).mono ?_;rintro e w1 ⟨rfl, hb1⟩;replace hbW := zz (Ab hbW.out hb1);go_wp2_with fail;refine (C0 _ _).mono ?_;rintro e w2 ⟨rfl, hb2⟩;replace hbW := zz (Ab hbW.out hb2);go_wp2_with fail;refine (Ap (P := [tP [10], tP [125]]) (k := 2) (HW.out.carry (Ab hbW.out (Aa w2 _))) rfl (LiesP.made (news := #[.string { data := #[10] }, .int .i64 0, .int .i64 0, .int .i64 0, .string { data := #[125] }, .int .i64 0, .int .i64 0, .int .i64 0]) w2 rfl) (by have := HL.out; omega)).mono ?_;rintro e V2 ⟨rfl, hw2, hf2⟩;have hFb := zz ((Fw.below (Ab hbW.out (Aa w2 (.cells #[.string { data := #[10] }, .int .i64 0, .int .i64 0, .int .i64 0, .string { data := #[125] }, .int .i64 0, .int .i64 0, .int .i64 0] 71))) (Nat.le_of_lt hbr)).trans hf2);rw [HE.out] at hw2;replace hw2 := zz hw2;clear hf2 hbW hb1 hb2;go_wp2_with fail;refine bodyPost_end (v := .tuple #[]) (by simp [results, results151]) rfl ?_;exact ⟨rfl, hw2.out, HF.out.trans hFb.out⟩
theorem Iz {w : World} {b : Nat} {E : Env} {X : List Pc} {t : Int} {out : List UInt8} (h : Wr w b E X t out) (hX : X.length ≤ 90000000) {a : Option Addr} {m cap : Nat} {ps : List Nat} (hm : Hid (ps.length = m)) (hm2 : m ≤ 1000000) (hk : Dz b w a ps) :
  Calls prog 155 #[pR b, .slice a m cap] w (Put b E X t out (Av ps) w) := by
 have HR : Hid (a1c w b E X t out a ps (fun i => Av (ps.take i)) m (.int .i64 0) w) := zz ⟨0, Nat.zero_le _, rfl, by simpa [Av] using h, Fw.refl _ _, hk⟩;clear h hk;go_enter func155, ntmps155;go_wp2_with fail
 go_loopw [8] (fun j wr => a1c w b E X t out a ps (fun i => Av (ps.take i)) m j wr) (fun j _ => m - (intOf j).toNat)
 case atStart => exact HR.out
 case round =>
  clear HR;obtain ⟨i, hi, rfl, hw, hf, hkk⟩ := hrel;have HF := zz hf;have HK := zz hkk;have hbr := hw.lt;by_cases hlt : i < m
  ·have hlt' : i < ps.length := by rw [hm.out]; exact hlt
   obtain ⟨g0, o0, rfl⟩ := hkk.addr (by omega);have hc := hkk.cell hlt';obtain ⟨k, hkp⟩ : ∃ k, ps.getD i 0 = k := ⟨_, rfl⟩;rw [hkp] at hc
   have HL : Hid ((X ++ Av (ps.take i)).length ≤ 99000000) := zz (by
    have := Hv (ps.take i)
    simp only [List.length_append, List.length_take] at this ⊢; omega)
   by_cases h0 : i = 0
   ·subst h0;have hw0 : Wr wr b E X t out := by simpa [Av] using hw
    rw [Nat.add_zero] at hc;have HW := zz hw0;have HE : Hid (Av (ps.take (0 + 1)) = [nP k]) := zz (by rw [Nat.zero_add, Ui hlt', hkp]);clear hw hf hkk hkp hlt' HL hw0;go_wp2_with fail;refine (Lc _ _).mono ?_;rintro e w2 ⟨rfl, hb2⟩;replace hb2 := zz hb2;go_wp2_with fail;refine (Ap (P := [nP k]) (k := 1) (HW.out.carry (Ab hb2.out (Aa w2 _))) rfl (LiesP.made (news := #[.string { data := #[] }, .int .i64 k, .int .i64 0, .int .i64 0]) w2 rfl) (by omega)).mono ?_;rintro e V2 ⟨rfl, hw2, hf2⟩;have hFb := zz ((Fw.below (Ab hb2.out (Aa w2 (.cells #[.string { data := #[] }, .int .i64 k, .int .i64 0, .int .i64 0] 71))) (Nat.le_of_lt hbr)).trans hf2);replace hw2 := zz hw2;clear hf2 hb2;go_wp2_with fail
    go_roundw
    case rel => exact ⟨0 + 1, hlt, by go_num, by show Wr _ _ _ (X ++ Av (ps.take (0 + 1))) _ _; rw [HE.out]; exact hw2.out, HF.out.trans hFb.out, HK.out.fw hFb.out⟩
    case measure => simp [intOf]; omega
   ·have HW := zz hw;have HE : Hid (Av (ps.take (i + 1)) = Av (ps.take i) ++ b15 k) := zz (by rw [Ww hlt' (by omega), hkp]);have hi0 : (0 : Int) < i := by omega
    have hbW := zz (Below.refl wr.heap.size wr);clear hw hf hkk hkp hlt' h0;go_wp2_with fail;refine (C0 _ _).mono ?_;rintro e w1 ⟨rfl, hb1⟩;replace hb1 := zz hb1;go_wp2_with fail;refine (Ap (P := [tP [44, 32]]) (k := 1) (HW.out.carry (Ab hb1.out (Aa w1 _))) rfl (LiesP.made (news := #[.string { data := #[44, 32] }, .int .i64 0, .int .i64 0, .int .i64 0]) w1 rfl) (by have := HL.out; omega)).mono ?_;rintro e V1 ⟨rfl, hw1, hf1⟩;have hF1 := zz ((Fw.below (Ab hb1.out (Aa w1 (.cells #[.string { data := #[44, 32] }, .int .i64 0, .int .i64 0, .int .i64 0] 71))) (Nat.le_of_lt hbr)).trans hf1);have hbr1 := hw1.lt;replace hw1 := zz hw1;clear hf1 hb1 hbW HW;go_wp2_with fail;refine (Lc _ _).mono ?_;rintro e w2 ⟨rfl, hb2⟩;replace hb2 := zz hb2;go_wp2_with fail;refine (Ap (P := [nP k]) (k := 1) (hw1.out.carry (Ab hb2.out (Aa w2 _))) rfl (LiesP.made (news := #[.string { data := #[] }, .int .i64 k, .int .i64 0, .int .i64 0]) w2 rfl) (by have := HL.out; simp only [List.length_append, List.length_cons, List.length_nil] at this ⊢; omega)).mono ?_;rintro e V2 ⟨rfl, hw2, hf2⟩;have hF2 := zz (hF1.out.trans ((Fw.below (Ab hb2.out (Aa w2 (.cells #[.string { data := #[] }, .int .i64 k, .int .i64 0, .int .i64 0] 71))) (Nat.le_of_lt hbr1)).trans hf2));replace hw2 := zz hw2;clear hf2 hb2;go_wp2_with fail
    go_roundw
    case rel => exact ⟨i + 1, hlt, by go_num, by show Wr _ _ _ (X ++ Av (ps.take (i + 1))) _ _; rw [HE.out, b15, show ([tP [44, 32], nP k] : List Pc) = [tP [44, 32]] ++ [nP k] from rfl, ← List.append_assoc, ← List.append_assoc]; exact hw2.out, HF.out.trans hF2.out, HK.out.fw hF2.out⟩
    case measure => simp [intOf]; omega
  ·have HW : Hid (Wr wr b E (X ++ Av ps) t out) := zz (by
    have hw' : Wr wr b E (X ++ Av (ps.take i)) t out := hw;rw [List.take_of_length_le (by rw [hm.out]; omega)] at hw'
    exact hw')
   clear hw hf hkk;go_wp2_with fail;refine bodyPost_end (v := .tuple #[]) (by simp [results, results155]) rfl ?_;exact ⟨rfl, HW.out, HF.out⟩
end
section
open Go.RowKit Go.Sort
theorem b2p {w : World} {b : Nat} {E : Env} {X : List Pc} {t : Int} {out : List UInt8} (h : Wr w b E X t out) (hX : X.length ≤ 80000000) (ln cl sz num : Int) (tx : ByteArray) {a : Option Addr} {cap : Nat} (hk : Dz b w a []) :
  Calls prog 117 #[pR b, .agg #[.int .u8 15, .int .i64 ln, .int .i64 cl, .int .i64 sz, .int .i64 num, .string tx], .slice a 0 cap] w (Put b E X t out [tP [105, 110, 116]] w) := by
 have HL := zz (Lv.start h hk #[.int .u8 15, .int .i64 ln, .int .i64 cl, .int .i64 sz, .int .i64 num, .string tx] 37 ⟨by decide, by decide⟩);clear h hk;go_enter func117, ntmps117;have hbW := zz (Below.refl (w.alloc (.cells #[.int .u8 15, .int .i64 ln, .int .i64 cl, .int .i64 sz, .int .i64 num, .string tx] 37)).heap.size (w.alloc (.cells #[.int .u8 15, .int .i64 ln, .int .i64 cl, .int .i64 sz, .int .i64 num, .string tx] 37)));go_wp2_with fail;refine (C0 _ _).mono ?_;rintro e w1 ⟨rfl, hb1⟩;replace hbW := zz (Ab hbW.out hb1);go_wp2_with fail;refine (Ap (P := [tP [105, 110, 116]]) (k := 1) (HL.out.wr.carry (Ab hbW.out (Aa w1 _))) rfl (LiesP.made (news := #[.string { data := #[105, 110, 116] }, .int .i64 0, .int .i64 0, .int .i64 0]) w1 rfl) (by simp; omega)).mono ?_;rintro e V1 ⟨rfl, hw2, hf2⟩;replace HL := zz (HL.out.put (Ab hbW.out (Aa w1 _)) hw2 hf2);clear hw2 hf2 hb1 hbW;go_wp2_with fail;refine bodyPost_end (v := .tuple #[]) (by simp [results, results117]) rfl ?_;exact HL.out.done (by first | rfl | simp)
theorem b2o {w : World} {b : Nat} {E : Env} {X : List Pc} {t : Int} {out : List UInt8} (h : Wr w b E X t out) (hX : X.length ≤ 80000000) (ln cl sz num : Int) (tx : ByteArray) {a : Option Addr} {cap : Nat} (hk : Dz b w a []) :
  Calls prog 117 #[pR b, .agg #[.int .u8 16, .int .i64 ln, .int .i64 cl, .int .i64 sz, .int .i64 num, .string tx], .slice a 0 cap] w (Put b E X t out [tP [98, 111, 111, 108]] w) := by
 have HL := zz (Lv.start h hk #[.int .u8 16, .int .i64 ln, .int .i64 cl, .int .i64 sz, .int .i64 num, .string tx] 37 ⟨by decide, by decide⟩);clear h hk;go_enter func117, ntmps117;have hbW := zz (Below.refl (w.alloc (.cells #[.int .u8 16, .int .i64 ln, .int .i64 cl, .int .i64 sz, .int .i64 num, .string tx] 37)).heap.size (w.alloc (.cells #[.int .u8 16, .int .i64 ln, .int .i64 cl, .int .i64 sz, .int .i64 num, .string tx] 37)));go_wp2_with fail;refine (C0 _ _).mono ?_;rintro e w1 ⟨rfl, hb1⟩;replace hbW := zz (Ab hbW.out hb1);go_wp2_with fail;refine (Ap (P := [tP [98, 111, 111, 108]]) (k := 1) (HL.out.wr.carry (Ab hbW.out (Aa w1 _))) rfl (LiesP.made (news := #[.string { data := #[98, 111, 111, 108] }, .int .i64 0, .int .i64 0, .int .i64 0]) w1 rfl) (by simp; omega)).mono ?_;rintro e V1 ⟨rfl, hw2, hf2⟩;replace HL := zz (HL.out.put (Ab hbW.out (Aa w1 _)) hw2 hf2);clear hw2 hf2 hb1 hbW;go_wp2_with fail;refine bodyPost_end (v := .tuple #[]) (by simp [results, results117]) rfl ?_;exact HL.out.done (by first | rfl | simp)
theorem b2n {w : World} {b : Nat} {E : Env} {X : List Pc} {t : Int} {out : List UInt8} (h : Wr w b E X t out) (hX : X.length ≤ 80000000) (ln cl sz num : Int) (tx : ByteArray) {a : Option Addr} {cap : Nat} (hk : Dz b w a []) :
  Calls prog 117 #[pR b, .agg #[.int .u8 17, .int .i64 ln, .int .i64 cl, .int .i64 sz, .int .i64 num, .string tx], .slice a 0 cap] w (Put b E X t out [tP [115, 116, 114]] w) := by
 have HL := zz (Lv.start h hk #[.int .u8 17, .int .i64 ln, .int .i64 cl, .int .i64 sz, .int .i64 num, .string tx] 37 ⟨by decide, by decide⟩);clear h hk;go_enter func117, ntmps117;have hbW := zz (Below.refl (w.alloc (.cells #[.int .u8 17, .int .i64 ln, .int .i64 cl, .int .i64 sz, .int .i64 num, .string tx] 37)).heap.size (w.alloc (.cells #[.int .u8 17, .int .i64 ln, .int .i64 cl, .int .i64 sz, .int .i64 num, .string tx] 37)));go_wp2_with fail;refine (C0 _ _).mono ?_;rintro e w1 ⟨rfl, hb1⟩;replace hbW := zz (Ab hbW.out hb1);go_wp2_with fail;refine (Ap (P := [tP [115, 116, 114]]) (k := 1) (HL.out.wr.carry (Ab hbW.out (Aa w1 _))) rfl (LiesP.made (news := #[.string { data := #[115, 116, 114] }, .int .i64 0, .int .i64 0, .int .i64 0]) w1 rfl) (by simp; omega)).mono ?_;rintro e V1 ⟨rfl, hw2, hf2⟩;replace HL := zz (HL.out.put (Ab hbW.out (Aa w1 _)) hw2 hf2);clear hw2 hf2 hb1 hbW;go_wp2_with fail;refine bodyPost_end (v := .tuple #[]) (by simp [results, results117]) rfl ?_;exact HL.out.done (by first | rfl | simp)
theorem b2m {w : World} {b : Nat} {E : Env} {X : List Pc} {t : Int} {out : List UInt8} (h : Wr w b E X t out) (hX : X.length ≤ 80000000) (ln cl sz num : Int) (tx : ByteArray) {a : Option Addr} {cap : Nat} (hk : Dz b w a []) :
  Calls prog 117 #[pR b, .agg #[.int .u8 18, .int .i64 ln, .int .i64 cl, .int .i64 sz, .int .i64 num, .string tx], .slice a 0 cap] w (Put b E X t out [tP [99, 111, 109, 112]] w) := by
 have HL := zz (Lv.start h hk #[.int .u8 18, .int .i64 ln, .int .i64 cl, .int .i64 sz, .int .i64 num, .string tx] 37 ⟨by decide, by decide⟩);clear h hk;go_enter func117, ntmps117;have hbW := zz (Below.refl (w.alloc (.cells #[.int .u8 18, .int .i64 ln, .int .i64 cl, .int .i64 sz, .int .i64 num, .string tx] 37)).heap.size (w.alloc (.cells #[.int .u8 18, .int .i64 ln, .int .i64 cl, .int .i64 sz, .int .i64 num, .string tx] 37)));go_wp2_with fail;refine (C0 _ _).mono ?_;rintro e w1 ⟨rfl, hb1⟩;replace hbW := zz (Ab hbW.out hb1);go_wp2_with fail;refine (Ap (P := [tP [99, 111, 109, 112]]) (k := 1) (HL.out.wr.carry (Ab hbW.out (Aa w1 _))) rfl (LiesP.made (news := #[.string { data := #[99, 111, 109, 112] }, .int .i64 0, .int .i64 0, .int .i64 0]) w1 rfl) (by simp; omega)).mono ?_;rintro e V1 ⟨rfl, hw2, hf2⟩;replace HL := zz (HL.out.put (Ab hbW.out (Aa w1 _)) hw2 hf2);clear hw2 hf2 hb1 hbW;go_wp2_with fail;refine bodyPost_end (v := .tuple #[]) (by simp [results, results117]) rfl ?_;exact HL.out.done (by first | rfl | simp)
theorem b2l {w : World} {b : Nat} {E : Env} {X : List Pc} {t : Int} {out : List UInt8} (h : Wr w b E X t out) (hX : X.length ≤ 80000000) (ln cl sz num : Int) (tx : ByteArray) {a : Option Addr} {cap : Nat} (hk : Dz b w a []) :
  Calls prog 117 #[pR b, .agg #[.int .u8 19, .int .i64 ln, .int .i64 cl, .int .i64 sz, .int .i64 num, .string tx], .slice a 0 cap] w (Put b E X t out [tP tx.data.toList] w) := by
 have HL := zz (Lv.start h hk #[.int .u8 19, .int .i64 ln, .int .i64 cl, .int .i64 sz, .int .i64 num, .string tx] 37 ⟨by decide, by decide⟩);clear h hk;go_enter func117, ntmps117;have hbW := zz (Below.refl (w.alloc (.cells #[.int .u8 19, .int .i64 ln, .int .i64 cl, .int .i64 sz, .int .i64 num, .string tx] 37)).heap.size (w.alloc (.cells #[.int .u8 19, .int .i64 ln, .int .i64 cl, .int .i64 sz, .int .i64 num, .string tx] 37)));go_wp2_with fail;refine (C0 _ _).mono ?_;rintro e w1 ⟨rfl, hb1⟩;replace hbW := zz (Ab hbW.out hb1);go_wp2_with fail;refine (Ap (P := [tP tx.data.toList]) (k := 1) (HL.out.wr.carry (Ab hbW.out (Aa w1 _))) rfl (LiesP.made (news := #[.string tx, .int .i64 0, .int .i64 0, .int .i64 0]) w1 rfl) (by simp; omega)).mono ?_;rintro e V1 ⟨rfl, hw2, hf2⟩;replace HL := zz (HL.out.put (Ab hbW.out (Aa w1 _)) hw2 hf2);clear hw2 hf2 hb1 hbW;go_wp2_with fail;refine bodyPost_end (v := .tuple #[]) (by simp [results, results117]) rfl ?_;exact HL.out.done (by first | rfl | simp)
theorem b2k {w : World} {b : Nat} {E : Env} {X : List Pc} {t : Int} {out : List UInt8} (h : Wr w b E X t out) (hX : X.length ≤ 80000000) (ln cl sz num : Int) (tx : ByteArray) {a : Option Addr} {cap : Nat} {p0 : Nat} (hk : Dz b w a [p0]) :
  Calls prog 117 #[pR b, .agg #[.int .u8 20, .int .i64 ln, .int .i64 cl, .int .i64 sz, .int .i64 num, .string tx], .slice a 1 cap] w (Put b E X t out [tP [91], nP p0, tP [93]] w) := by
 have HL := zz (Lv.start h hk #[.int .u8 20, .int .i64 ln, .int .i64 cl, .int .i64 sz, .int .i64 num, .string tx] 37 ⟨by decide, by decide⟩);obtain ⟨g0, o0, rfl⟩ := hk.addr (by simp);clear h hk;go_enter func117, ntmps117;go_wp2_with fail;have k0 := fun D os => cell_regrown (show _ = some (itv p0) from HL.out.kd.cell (i := 0) (by simp)) D os
 simp only [Nat.add_zero] at k0;refine A4 7 3 [43, 47, 48] [pcV { data := #[91] } 0 0 0, pcV { data := #[] } p0 0 0, pcV { data := #[93] } 0 0 0] #[.string { data := #[91] }, .int .i64 0, .int .i64 0, .int .i64 0, .string { data := #[] }, .int .i64 p0, .int .i64 0, .int .i64 0, .string { data := #[93] }, .int .i64 0, .int .i64 0, .int .i64 0] [tP [91], nP p0, tP [93]] _ (by rfl) (by kernel_rfl) (by kernel_rfl) (by rfl) ?al ?go
 case al =>
  intro a w K hA h;refine By rfl rfl ?_;simp [Ca, go_sem] at hA;go_simp;exact h
 case go =>
  simp only [List.take_succ_cons, List.take_zero, List.drop_succ_cons, List.drop_zero]
  repeat (refine Bd (fun K hK => ?_); go_simp; first | (refine hK _ ?_; clear hK K) | (apply Exists.intro; refine ⟨fun _ => ?_, hK _ ?_⟩; (first | with_reducible exact Dj _ _ | with_reducible exact Do _ _ | exact Ay _ _ _ rfl _); clear hK K))
  refine Cc ⟨by simp [Ca, go_sem], ?_⟩;intro g W hbW hl;replace hbW := zz hbW;go_wp2_with (go_at_call 82; refine (Ap (HL.out.wr.carry hbW.out) (k := 3) rfl hl (by simp; omega)).mono ?_; rintro e V1 ⟨rfl, hw2, hf2⟩; replace HL := zz (HL.out.put hbW.out hw2 hf2); clear hw2 hf2 hl hbW);go_wp2_with fail;refine bodyPost_end (v := .tuple #[]) (by simp [results, results117]) rfl ?_;exact HL.out.done (by first | rfl | simp)
end
section
open Go.RowKit Go.Sort
theorem X7 (a : Int) (w : World) (h0 : 0 ≤ a) (h1 : a ≤ 9223372036854775807) : Calls prog 153 #[.int .i64 a] w fun e w' => e = .returned (.string (bs (Nm.dec a.toNat))) ∧ Below w.heap.size w w' := by
 have := Nm.ntext_any a w (by omega) h1;rw [Nm.textL, if_neg (by omega), show a.natAbs = a.toNat by omega] at this;exact this
abbrev ndA (k : Nat) (ln cl sz num : Int) (tx : ByteArray) : Value := .agg #[.int .u8 k, .int .i64 ln, .int .i64 cl, .int .i64 sz, .int .i64 num, .string tx]
theorem b5w (ln cl sz num : Int) (tx : ByteArray) (w : World) (h0 : 0 ≤ num) (h1 : num ≤ 9223372036854775807) : Calls prog 118 #[.agg #[.int .u8 21, .int .i64 ln, .int .i64 cl, .int .i64 sz, .int .i64 num, .string tx]] w fun e w' => e = .returned (.string (bs (Nm.dec num.toNat))) ∧ Below w.heap.size w w' := by
 have H := zz (fun w => X7 num w h0 h1);clear h0 h1;go_enter func118, ntmps118;go_wp2_with fail;refine (H.out _).mono ?_;rintro e w1 ⟨rfl, hb⟩;go_wp2_with fail;go_ret;exact ⟨rfl, Ab (Aa _ _) hb⟩
theorem b5v (ln cl sz num : Int) (tx : ByteArray) (w : World) (h0 : 0 ≤ num) (h1 : num ≤ 9223372036854775807) : Calls prog 118 #[.agg #[.int .u8 22, .int .i64 ln, .int .i64 cl, .int .i64 sz, .int .i64 num, .string tx]] w fun e w' => e = .returned (.string (bs (Nm.dec num.toNat ++ [105]))) ∧ Below w.heap.size w w' := by
 have H := zz (fun w => X7 num w h0 h1);have hl : (Nm.dec num.toNat).length ≤ 20 := Nm.dec_len_le _ (by omega);obtain ⟨D, hD⟩ : ∃ D, bs (Nm.dec num.toNat) = D := ⟨_, rfl⟩;have hs : D.size ≤ 20 := by rw [← hD, Lw]; exact hl
 have he : D ++ ({ data := #[105] } : ByteArray) = bs (Nm.dec num.toNat ++ [105]) := by
  rw [← hD, show ({ data := #[105] } : ByteArray) = bs [105] from rfl, a5z]
 rw [hD] at H;rw [← he];clear h0 h1 hl he hD;go_enter func118, ntmps118;go_wp2_with fail;refine (H.out _).mono ?_;rintro e w1 ⟨rfl, hb⟩;replace hb := zz hb;go_wp2_with fail;go_ret;exact ⟨rfl, Ab (Aa _ _) hb.out⟩
theorem b5u (ln cl sz num : Int) (tx : ByteArray) (w : World) (ht : tx.size ≤ 100000) : Calls prog 118 #[.agg #[.int .u8 23, .int .i64 ln, .int .i64 cl, .int .i64 sz, .int .i64 num, .string tx]] w fun e w' => e = .returned (.string (bs (lit tx.data.toList))) ∧ Below w.heap.size w w' := by
 have H := zz (fun w => a3c tx w ht);go_enter func118, ntmps118;go_wp2_with fail;refine (H.out _).mono ?_;rintro e w1 ⟨rfl, hb⟩;go_wp2_with fail;go_ret;exact ⟨rfl, Ab (Aa _ _) hb⟩
theorem b0t (ln cl sz : Int) (tx : ByteArray) (w : World) : Calls prog 118 #[.agg #[.int .u8 24, .int .i64 ln, .int .i64 cl, .int .i64 sz, .int .i64 0, .string tx]] w fun e w' => e = .returned (.string { data := #[102, 97, 108, 115, 101] }) ∧ Below w.heap.size w w' := by
 go_enter func118, ntmps118;go_wp2_with fail;go_ret;exact ⟨rfl, Aa _ _⟩
theorem b0s (ln cl sz num : Int) (h : num ≠ 0) (tx : ByteArray) (w : World) : Calls prog 118 #[.agg #[.int .u8 24, .int .i64 ln, .int .i64 cl, .int .i64 sz, .int .i64 num, .string tx]] w fun e w' => e = .returned (.string { data := #[116, 114, 117, 101] }) ∧ Below w.heap.size w w' := by
 have h' : (num == 0) = false := by simpa using h
 clear h;go_enter func118, ntmps118;go_wp2_with fail;go_ret;exact ⟨rfl, Aa _ _⟩
theorem b5t (ln cl sz num : Int) (tx : ByteArray) (w : World) : Calls prog 118 #[.agg #[.int .u8 25, .int .i64 ln, .int .i64 cl, .int .i64 sz, .int .i64 num, .string tx]] w fun e w' => e = .returned (.string { data := #[110, 105, 108] }) ∧ Below w.heap.size w w' := by
 go_enter func118, ntmps118;go_wp2_with fail;go_ret;exact ⟨rfl, Aa _ _⟩
theorem b5s (ln cl sz num : Int) (tx : ByteArray) (w : World) : Calls prog 118 #[.agg #[.int .u8 26, .int .i64 ln, .int .i64 cl, .int .i64 sz, .int .i64 num, .string tx]] w fun e w' => e = .returned (.string tx) ∧ Below w.heap.size w w' := by
 go_enter func118, ntmps118;go_wp2_with fail;go_ret;exact ⟨rfl, Aa _ _⟩
theorem b0r (i : Inf) (hk : 21 ≤ i.kind ∧ i.kind ≤ 26) (h0 : i.kind = 21 ∨ i.kind = 22 → 0 ≤ i.num) (h1 : i.num ≤ 9223372036854775807) (ht : i.text.length ≤ 100000) (ln cl sz : Int) (w : World) :
  Calls prog 118 #[ndA i.kind ln cl sz i.num (bs i.text)] w fun e w' => e = .returned (.string (bs (Kf i))) ∧ Below w.heap.size w w' := by
 obtain ⟨k, l, c, n, t⟩ := i;simp only at *;obtain ⟨hk1, hk2⟩ := hk;have hc : k = 21 ∨ k = 22 ∨ k = 23 ∨ k = 24 ∨ k = 25 ∨ k = 26 := by omega
 rcases hc with rfl | rfl | rfl | rfl | rfl | rfl
 ·exact b5w ln cl sz n _ w (h0 (.inl rfl)) h1
 ·exact b5v ln cl sz n _ w (h0 (.inr rfl)) h1
 ·have := b5u ln cl sz n (bs t) w (by rw [Lw]; exact ht);rw [Fz] at this;exact this
 ·by_cases hn : n = 0
  ·subst hn; exact b0t ln cl sz _ w
  ·rw [show Kf ⟨24, l, c, n, t⟩ = [116, 114, 117, 101] by simp [Kf, hn]];exact b0s ln cl sz n hn (bs t) w
 ·exact b5t ln cl sz n _ w
 ·exact b5s ln cl sz n _ w
end
end Go.Proofs.YtoaplbljflhheaaGreat
