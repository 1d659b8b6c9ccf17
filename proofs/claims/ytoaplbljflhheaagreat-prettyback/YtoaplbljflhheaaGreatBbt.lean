/-
 Contracts and plain facts on the way to PrettyBack. Conditions: as each says.
-/
import Derived.Test.YtoaplbljflhheaaGreatBbs
import Derived.Test.YtoaplbljflhheaaGreatBav
import Derived.Test.YtoaplbljflhheaaGreatBai
set_option maxHeartbeats 40000000
set_option maxRecDepth 100000
set_option linter.unusedVariables false
set_option linter.unusedSimpArgs false
namespace Go.Proofs.YtoaplbljflhheaaGreat
open _root_.Go.Proofs.Tryz
section
open Go.RowKit Go.Sort
def Jy (k : Nat) : List Pc := [⟨[10], 0, 0, 1⟩, nP k, ⟨[], 0, 0, -1⟩]
def Jo (ps : List Nat) : List Pc := tP [123] :: (ps.flatMap Jy ++ [tP [10], tP [125]])
def b2h (k : Nat) : List Pc := [tP [44, 32], nP k]
def Aw : List Nat -> List Pc
 | [] => []
 | k :: r => nP k :: r.flatMap b2h
theorem U8 (ps : List Nat) : (ps.flatMap Jy).length = 3 * ps.length := by
 induction ps with
 | nil => rfl
 | cons k r ih => rw [List.flatMap_cons, List.length_append, ih]; simp [Jy]; omega
theorem Hr (ps : List Nat) : (Aw ps).length <= 2 * ps.length := by
 cases ps with
 | nil => simp [Aw]
 | cons k r =>
  have : (r.flatMap b2h).length = 2 * r.length := by
   induction r with
   | nil => rfl
   | cons k r ih => rw [List.flatMap_cons, List.length_append, ih]; simp [b2h]; omega
  simp [Aw, this]; omega
theorem O4 {ps : List Nat} {i : Nat} (h : i < ps.length) : ps.take (i + 1) = ps.take i ++ [ps.getD i 0] := by
 rw [List.take_add_one, List.getD_eq_getElem?_getD, List.getElem?_eq_getElem h]; rfl
theorem U5 {ps : List Nat} (h : 0 < ps.length) : Aw (ps.take 1) = [nP (ps.getD 0 0)] := by
 cases ps with
 | nil => simp at h
 | cons k r => rfl
theorem Xm {ps : List Nat} {i : Nat} (h : i < ps.length) (h0 : 0 < i) : Aw (ps.take (i + 1)) = Aw (ps.take i) ++ b2h (ps.getD i 0) := by
 rw [O4 h]
 cases ps with
 | nil => simp at h
 | cons k r =>
  obtain ⟨j, rfl⟩ : ∃ j, i = j + 1 := ⟨i - 1, by omega⟩;simp [Aw]
def a1s (w : World) (b : Nat) (E : Env) (X : List Pc) (t : Int) (out : List UInt8) (a : Option Addr) (ps : List Nat) (f : Nat -> List Pc) (m : Nat) (j : Value) (wr : World) : Prop :=
 ∃ i : Nat, i <= m ∧ j = .int .i64 i ∧ Wr wr b E (X ++ f i) t out ∧ Fw b w wr ∧ D3 b wr a ps
theorem U6 {w : World} {b : Nat} {E : Env} {X : List Pc} {t : Int} {out : List UInt8} (h : Wr w b E X t out) (hX : X.length <= 90000000) {a : Option Addr} {m cap : Nat} {ps : List Nat} (hm : Hid (ps.length = m)) (hm2 : m <= 1000000) (hk : D3 b w a ps) :
  Calls prog 151 #[pR b, .slice a m cap] w (Put b E X t out (Jo ps) w) := by
 have HW := zz h;have HK := zz hk;have hbl := h.lt;have HF : Hid (Wr w b E X t out -> True) := zz fun _ => trivial
 have hbW := zz (Below.refl w.heap.size w);clear h hk;go_enter func151, ntmps151;go_wp2_with fail;refine (Cy _ _).mono ?_;rintro e w1 ⟨rfl, hb1⟩;replace hbW := zz (Ab hbW.out hb1);go_wp2_with fail;refine (Ar (P := [tP [123]]) (k := 1) (HW.out.carry (Ab hbW.out (Aa w1 _))) rfl (LiesP.made (news := #[.string { data := #[123] }, .int .i64 0, .int .i64 0, .int .i64 0]) w1 rfl) (by simp; omega)).mono ?_;rintro e V1 ⟨rfl, hw2, hf2⟩;have hFb := (Fw.below (Ab hbW.out (Aa w1 (.cells #[.string { data := #[123] }, .int .i64 0, .int .i64 0, .int .i64 0] 71))) (Nat.le_of_lt hbl));have HR : Hid (a1s w b E X t out a ps (fun i => tP [123] :: (ps.take i).flatMap Jy) m (.int .i64 0) V1) := zz ⟨0, Nat.zero_le _, rfl, by simpa using hw2, hFb.trans hf2, HK.out.fw (hFb.trans hf2)⟩;clear hw2 hf2 hFb hbW hb1 HW HK HF;go_wp2_with fail
 go_loopw [12] (fun j wr => a1s w b E X t out a ps (fun i => tP [123] :: (ps.take i).flatMap Jy) m j wr) (fun j _ => m - (intOf j).toNat)
 case atStart => exact HR.out
 case round =>
  clear HR;obtain ⟨i, hi, rfl, hw, hf, hkk⟩ := hrel;have HW := zz hw;have HF := zz hf;have HK := zz hkk;have hbr := hw.lt;by_cases hlt : i < m
  ·have hlt' : i < ps.length := by rw [hm.out]; exact hlt
   obtain ⟨g0, o0, rfl⟩ := hkk.addr (by omega);have hc := hkk.cell hlt';obtain ⟨k, hkp⟩ : ∃ k, ps.getD i 0 = k := ⟨_, rfl⟩;rw [hkp] at hc
   have HL : Hid ((X ++ tP [123] :: (ps.take i).flatMap Jy).length <= 99000000) := zz (by
    have := U8 (ps.take i)
    simp only [List.length_append, List.length_cons, this, List.length_take]; omega)
   have HE : Hid (tP [123] :: (ps.take (i + 1)).flatMap Jy = (tP [123] :: (ps.take i).flatMap Jy) ++ Jy k) := zz (by rw [O4 hlt', hkp]; simp);clear hw hf hkk hkp hlt';go_wp2_with fail;refine (Lk _ _).mono ?_;rintro e w2 ⟨rfl, hb2⟩;replace hb2 := zz hb2;go_wp2_with fail;refine (Ar (P := Jy k) (k := 3) (HW.out.carry (Ab hb2.out (Aa w2 _))) rfl (LiesP.made (news := #[.string { data := #[10] }, .int .i64 0, .int .i64 0, .int .i64 1, .string { data := #[] }, .int .i64 k, .int .i64 0, .int .i64 0, .string { data := #[] }, .int .i64 0, .int .i64 0, .int .i64 (-1)]) w2 rfl) (by have := HL.out; omega)).mono ?_;rintro e V2 ⟨rfl, hw2, hf2⟩;have hFb := zz ((Fw.below (Ab hb2.out (Aa w2 (.cells #[.string { data := #[10] }, .int .i64 0, .int .i64 0, .int .i64 1, .string { data := #[] }, .int .i64 k, .int .i64 0, .int .i64 0, .string { data := #[] }, .int .i64 0, .int .i64 0, .int .i64 (-1)] 71))) (Nat.le_of_lt hbr)).trans hf2);replace hw2 := zz hw2;clear hf2 hb2;go_wp2_with fail
   go_roundw
   case rel => exact ⟨i + 1, hlt, by go_num, by show Wr _ _ _ (X ++ (tP [123] :: (ps.take (i + 1)).flatMap Jy)) _ _; rw [HE.out, <- List.append_assoc]; exact hw2.out, HF.out.trans hFb.out, HK.out.fw hFb.out⟩
   case measure => simp [intOf]; omega
  ·have HE : Hid (X ++ (tP [123] :: (ps.take i).flatMap Jy) ++ [tP [10], tP [125]] = X ++ Jo ps) := zz (by
    rw [List.take_of_length_le (by rw [hm.out]; omega)]; simp [Jo])
   have HL : Hid ((X ++ tP [123] :: (ps.take i).flatMap Jy).length <= 99000000) := zz (by
    have := U8 (ps.take i)
    simp only [List.length_append, List.length_cons, this, List.length_take]; omega)
   clear hw hf hkk;have hbW := zz (Below.refl wr.heap.size wr);go_wp2_with fail;refine (Cy _ _).mono ?_;rintro e w1 ⟨rfl, hb1⟩;replace hbW := zz (Ab hbW.out hb1);go_wp2_with fail;refine (Cy _ _).mono ?_;rintro e w2 ⟨rfl, hb2⟩;replace hbW := zz (Ab hbW.out hb2);go_wp2_with fail;refine (Ar (P := [tP [10], tP [125]]) (k := 2) (HW.out.carry (Ab hbW.out (Aa w2 _))) rfl (LiesP.made (news := #[.string { data := #[10] }, .int .i64 0, .int .i64 0, .int .i64 0, .string { data := #[125] }, .int .i64 0, .int .i64 0, .int .i64 0]) w2 rfl) (by have := HL.out; omega)).mono ?_;rintro e V2 ⟨rfl, hw2, hf2⟩;have hFb := zz ((Fw.below (Ab hbW.out (Aa w2 (.cells #[.string { data := #[10] }, .int .i64 0, .int .i64 0, .int .i64 0, .string { data := #[125] }, .int .i64 0, .int .i64 0, .int .i64 0] 71))) (Nat.le_of_lt hbr)).trans hf2);rw [HE.out] at hw2;replace hw2 := zz hw2;clear hf2 hbW hb1 hb2;go_wp2_with fail;refine bodyPost_end (v := .tuple #[]) (by simp [results, results151]) rfl ?_;exact ⟨rfl, hw2.out, HF.out.trans hFb.out⟩
theorem It {w : World} {b : Nat} {E : Env} {X : List Pc} {t : Int} {out : List UInt8} (h : Wr w b E X t out) (hX : X.length <= 90000000) {a : Option Addr} {m cap : Nat} {ps : List Nat} (hm : Hid (ps.length = m)) (hm2 : m <= 1000000) (hk : D3 b w a ps) :
  Calls prog 155 #[pR b, .slice a m cap] w (Put b E X t out (Aw ps) w) := by
 have HR : Hid (a1s w b E X t out a ps (fun i => Aw (ps.take i)) m (.int .i64 0) w) := zz ⟨0, Nat.zero_le _, rfl, by simpa [Aw] using h, Fw.refl _ _, hk⟩;clear h hk;go_enter func155, ntmps155;go_wp2_with fail
 go_loopw [8] (fun j wr => a1s w b E X t out a ps (fun i => Aw (ps.take i)) m j wr) (fun j _ => m - (intOf j).toNat)
 case atStart => exact HR.out
 case round =>
  clear HR;obtain ⟨i, hi, rfl, hw, hf, hkk⟩ := hrel;have HF := zz hf;have HK := zz hkk;have hbr := hw.lt;by_cases hlt : i < m
  ·have hlt' : i < ps.length := by rw [hm.out]; exact hlt
   obtain ⟨g0, o0, rfl⟩ := hkk.addr (by omega);have hc := hkk.cell hlt';obtain ⟨k, hkp⟩ : ∃ k, ps.getD i 0 = k := ⟨_, rfl⟩;rw [hkp] at hc
   have HL : Hid ((X ++ Aw (ps.take i)).length <= 99000000) := zz (by
    have := Hr (ps.take i)
    simp only [List.length_append, List.length_take] at this ⊢; omega)
   by_cases h0 : i = 0
   ·subst h0;have hw0 : Wr wr b E X t out := by simpa [Aw] using hw
    rw [Nat.add_zero] at hc;have HW := zz hw0;have HE : Hid (Aw (ps.take (0 + 1)) = [nP k]) := zz (by rw [Nat.zero_add, U5 hlt', hkp]);clear hw hf hkk hkp hlt' HL hw0;go_wp2_with fail;refine (Lk _ _).mono ?_;rintro e w2 ⟨rfl, hb2⟩;replace hb2 := zz hb2;go_wp2_with fail;refine (Ar (P := [nP k]) (k := 1) (HW.out.carry (Ab hb2.out (Aa w2 _))) rfl (LiesP.made (news := #[.string { data := #[] }, .int .i64 k, .int .i64 0, .int .i64 0]) w2 rfl) (by omega)).mono ?_;rintro e V2 ⟨rfl, hw2, hf2⟩;have hFb := zz ((Fw.below (Ab hb2.out (Aa w2 (.cells #[.string { data := #[] }, .int .i64 k, .int .i64 0, .int .i64 0] 71))) (Nat.le_of_lt hbr)).trans hf2);replace hw2 := zz hw2;clear hf2 hb2;go_wp2_with fail
    go_roundw
    case rel => exact ⟨0 + 1, hlt, by go_num, by show Wr _ _ _ (X ++ Aw (ps.take (0 + 1))) _ _; rw [HE.out]; exact hw2.out, HF.out.trans hFb.out, HK.out.fw hFb.out⟩
    case measure => simp [intOf]; omega
   ·have HW := zz hw;have HE : Hid (Aw (ps.take (i + 1)) = Aw (ps.take i) ++ b2h k) := zz (by rw [Xm hlt' (by omega), hkp]);have hi0 : (0 : Int) < i := by omega
    have hbW := zz (Below.refl wr.heap.size wr);clear hw hf hkk hkp hlt' h0;go_wp2_with fail;refine (Cy _ _).mono ?_;rintro e w1 ⟨rfl, hb1⟩;replace hb1 := zz hb1;go_wp2_with fail;refine (Ar (P := [tP [44, 32]]) (k := 1) (HW.out.carry (Ab hb1.out (Aa w1 _))) rfl (LiesP.made (news := #[.string { data := #[44, 32] }, .int .i64 0, .int .i64 0, .int .i64 0]) w1 rfl) (by have := HL.out; omega)).mono ?_;rintro e V1 ⟨rfl, hw1, hf1⟩;have hF1 := zz ((Fw.below (Ab hb1.out (Aa w1 (.cells #[.string { data := #[44, 32] }, .int .i64 0, .int .i64 0, .int .i64 0] 71))) (Nat.le_of_lt hbr)).trans hf1);have hbr1 := hw1.lt;replace hw1 := zz hw1;clear hf1 hb1 hbW HW;go_wp2_with fail;refine (Lk _ _).mono ?_;rintro e w2 ⟨rfl, hb2⟩;replace hb2 := zz hb2;go_wp2_with fail;refine (Ar (P := [nP k]) (k := 1) (hw1.out.carry (Ab hb2.out (Aa w2 _))) rfl (LiesP.made (news := #[.string { data := #[] }, .int .i64 k, .int .i64 0, .int .i64 0]) w2 rfl) (by have := HL.out; simp only [List.length_append, List.length_cons, List.length_nil] at this ⊢; omega)).mono ?_;rintro e V2 ⟨rfl, hw2, hf2⟩;have hF2 := zz (hF1.out.trans ((Fw.below (Ab hb2.out (Aa w2 (.cells #[.string { data := #[] }, .int .i64 k, .int .i64 0, .int .i64 0] 71))) (Nat.le_of_lt hbr1)).trans hf2));replace hw2 := zz hw2;clear hf2 hb2;go_wp2_with fail
    go_roundw
    case rel => exact ⟨i + 1, hlt, by go_num, by show Wr _ _ _ (X ++ Aw (ps.take (i + 1))) _ _; rw [HE.out, b2h, show ([tP [44, 32], nP k] : List Pc) = [tP [44, 32]] ++ [nP k] from rfl, <- List.append_assoc, <- List.append_assoc]; exact hw2.out, HF.out.trans hF2.out, HK.out.fw hF2.out⟩
    case measure => simp [intOf]; omega
  ·have HW : Hid (Wr wr b E (X ++ Aw ps) t out) := zz (by
    have hw' : Wr wr b E (X ++ Aw (ps.take i)) t out := hw;rw [List.take_of_length_le (by rw [hm.out]; omega)] at hw'
    exact hw')
   clear hw hf hkk;go_wp2_with fail;refine bodyPost_end (v := .tuple #[]) (by simp [results, results155]) rfl ?_;exact ⟨rfl, HW.out, HF.out⟩
end
section
open Go.RowKit Go.Sort
theorem b23 {w : World} {b : Nat} {E : Env} {X : List Pc} {t : Int} {out : List UInt8} (h : Wr w b E X t out) (hX : X.length <= 80000000) (ln cl sz num : Int) (tx : ByteArray) {a : Option Addr} {cap : Nat} (hk : D3 b w a []) :
  Calls prog 117 #[pR b, .agg #[.int .u8 15, .int .i64 ln, .int .i64 cl, .int .i64 sz, .int .i64 num, .string tx], .slice a 0 cap] w (Put b E X t out [tP [105, 110, 116]] w) := by
 have HL := zz (Lv.start h hk #[.int .u8 15, .int .i64 ln, .int .i64 cl, .int .i64 sz, .int .i64 num, .string tx] 37 ⟨by decide, by decide⟩);clear h hk;go_enter func117, ntmps117;have hbW := zz (Below.refl (w.alloc (.cells #[.int .u8 15, .int .i64 ln, .int .i64 cl, .int .i64 sz, .int .i64 num, .string tx] 37)).heap.size (w.alloc (.cells #[.int .u8 15, .int .i64 ln, .int .i64 cl, .int .i64 sz, .int .i64 num, .string tx] 37)));go_wp2_with fail;refine (Cy _ _).mono ?_;rintro e w1 ⟨rfl, hb1⟩;replace hbW := zz (Ab hbW.out hb1);go_wp2_with fail;refine (Ar (P := [tP [105, 110, 116]]) (k := 1) (HL.out.wr.carry (Ab hbW.out (Aa w1 _))) rfl (LiesP.made (news := #[.string { data := #[105, 110, 116] }, .int .i64 0, .int .i64 0, .int .i64 0]) w1 rfl) (by simp; omega)).mono ?_;rintro e V1 ⟨rfl, hw2, hf2⟩;replace HL := zz (HL.out.put (Ab hbW.out (Aa w1 _)) hw2 hf2);clear hw2 hf2 hb1 hbW;go_wp2_with fail;refine bodyPost_end (v := .tuple #[]) (by simp [results, results117]) rfl ?_;exact HL.out.done (by first | rfl | simp)
theorem b22 {w : World} {b : Nat} {E : Env} {X : List Pc} {t : Int} {out : List UInt8} (h : Wr w b E X t out) (hX : X.length <= 80000000) (ln cl sz num : Int) (tx : ByteArray) {a : Option Addr} {cap : Nat} (hk : D3 b w a []) :
  Calls prog 117 #[pR b, .agg #[.int .u8 16, .int .i64 ln, .int .i64 cl, .int .i64 sz, .int .i64 num, .string tx], .slice a 0 cap] w (Put b E X t out [tP [98, 111, 111, 108]] w) := by
 have HL := zz (Lv.start h hk #[.int .u8 16, .int .i64 ln, .int .i64 cl, .int .i64 sz, .int .i64 num, .string tx] 37 ⟨by decide, by decide⟩);clear h hk;go_enter func117, ntmps117;have hbW := zz (Below.refl (w.alloc (.cells #[.int .u8 16, .int .i64 ln, .int .i64 cl, .int .i64 sz, .int .i64 num, .string tx] 37)).heap.size (w.alloc (.cells #[.int .u8 16, .int .i64 ln, .int .i64 cl, .int .i64 sz, .int .i64 num, .string tx] 37)));go_wp2_with fail;refine (Cy _ _).mono ?_;rintro e w1 ⟨rfl, hb1⟩;replace hbW := zz (Ab hbW.out hb1);go_wp2_with fail;refine (Ar (P := [tP [98, 111, 111, 108]]) (k := 1) (HL.out.wr.carry (Ab hbW.out (Aa w1 _))) rfl (LiesP.made (news := #[.string { data := #[98, 111, 111, 108] }, .int .i64 0, .int .i64 0, .int .i64 0]) w1 rfl) (by simp; omega)).mono ?_;rintro e V1 ⟨rfl, hw2, hf2⟩;replace HL := zz (HL.out.put (Ab hbW.out (Aa w1 _)) hw2 hf2);clear hw2 hf2 hb1 hbW;go_wp2_with fail;refine bodyPost_end (v := .tuple #[]) (by simp [results, results117]) rfl ?_;exact HL.out.done (by first | rfl | simp)
theorem b21 {w : World} {b : Nat} {E : Env} {X : List Pc} {t : Int} {out : List UInt8} (h : Wr w b E X t out) (hX : X.length <= 80000000) (ln cl sz num : Int) (tx : ByteArray) {a : Option Addr} {cap : Nat} (hk : D3 b w a []) :
  Calls prog 117 #[pR b, .agg #[.int .u8 17, .int .i64 ln, .int .i64 cl, .int .i64 sz, .int .i64 num, .string tx], .slice a 0 cap] w (Put b E X t out [tP [115, 116, 114]] w) := by
 have HL := zz (Lv.start h hk #[.int .u8 17, .int .i64 ln, .int .i64 cl, .int .i64 sz, .int .i64 num, .string tx] 37 ⟨by decide, by decide⟩);clear h hk;go_enter func117, ntmps117;have hbW := zz (Below.refl (w.alloc (.cells #[.int .u8 17, .int .i64 ln, .int .i64 cl, .int .i64 sz, .int .i64 num, .string tx] 37)).heap.size (w.alloc (.cells #[.int .u8 17, .int .i64 ln, .int .i64 cl, .int .i64 sz, .int .i64 num, .string tx] 37)));go_wp2_with fail;refine (Cy _ _).mono ?_;rintro e w1 ⟨rfl, hb1⟩;replace hbW := zz (Ab hbW.out hb1);go_wp2_with fail;refine (Ar (P := [tP [115, 116, 114]]) (k := 1) (HL.out.wr.carry (Ab hbW.out (Aa w1 _))) rfl (LiesP.made (news := #[.string { data := #[115, 116, 114] }, .int .i64 0, .int .i64 0, .int .i64 0]) w1 rfl) (by simp; omega)).mono ?_;rintro e V1 ⟨rfl, hw2, hf2⟩;replace HL := zz (HL.out.put (Ab hbW.out (Aa w1 _)) hw2 hf2);clear hw2 hf2 hb1 hbW;go_wp2_with fail;refine bodyPost_end (v := .tuple #[]) (by simp [results, results117]) rfl ?_;exact HL.out.done (by first | rfl | simp)
theorem b20 {w : World} {b : Nat} {E : Env} {X : List Pc} {t : Int} {out : List UInt8} (h : Wr w b E X t out) (hX : X.length <= 80000000) (ln cl sz num : Int) (tx : ByteArray) {a : Option Addr} {cap : Nat} (hk : D3 b w a []) :
  Calls prog 117 #[pR b, .agg #[.int .u8 18, .int .i64 ln, .int .i64 cl, .int .i64 sz, .int .i64 num, .string tx], .slice a 0 cap] w (Put b E X t out [tP [99, 111, 109, 112]] w) := by
 have HL := zz (Lv.start h hk #[.int .u8 18, .int .i64 ln, .int .i64 cl, .int .i64 sz, .int .i64 num, .string tx] 37 ⟨by decide, by decide⟩);clear h hk;go_enter func117, ntmps117;have hbW := zz (Below.refl (w.alloc (.cells #[.int .u8 18, .int .i64 ln, .int .i64 cl, .int .i64 sz, .int .i64 num, .string tx] 37)).heap.size (w.alloc (.cells #[.int .u8 18, .int .i64 ln, .int .i64 cl, .int .i64 sz, .int .i64 num, .string tx] 37)));go_wp2_with fail;refine (Cy _ _).mono ?_;rintro e w1 ⟨rfl, hb1⟩;replace hbW := zz (Ab hbW.out hb1);go_wp2_with fail;refine (Ar (P := [tP [99, 111, 109, 112]]) (k := 1) (HL.out.wr.carry (Ab hbW.out (Aa w1 _))) rfl (LiesP.made (news := #[.string { data := #[99, 111, 109, 112] }, .int .i64 0, .int .i64 0, .int .i64 0]) w1 rfl) (by simp; omega)).mono ?_;rintro e V1 ⟨rfl, hw2, hf2⟩;replace HL := zz (HL.out.put (Ab hbW.out (Aa w1 _)) hw2 hf2);clear hw2 hf2 hb1 hbW;go_wp2_with fail;refine bodyPost_end (v := .tuple #[]) (by simp [results, results117]) rfl ?_;exact HL.out.done (by first | rfl | simp)
theorem b2z {w : World} {b : Nat} {E : Env} {X : List Pc} {t : Int} {out : List UInt8} (h : Wr w b E X t out) (hX : X.length <= 80000000) (ln cl sz num : Int) (tx : ByteArray) {a : Option Addr} {cap : Nat} (hk : D3 b w a []) :
  Calls prog 117 #[pR b, .agg #[.int .u8 19, .int .i64 ln, .int .i64 cl, .int .i64 sz, .int .i64 num, .string tx], .slice a 0 cap] w (Put b E X t out [tP tx.data.toList] w) := by
 have HL := zz (Lv.start h hk #[.int .u8 19, .int .i64 ln, .int .i64 cl, .int .i64 sz, .int .i64 num, .string tx] 37 ⟨by decide, by decide⟩);clear h hk;go_enter func117, ntmps117;have hbW := zz (Below.refl (w.alloc (.cells #[.int .u8 19, .int .i64 ln, .int .i64 cl, .int .i64 sz, .int .i64 num, .string tx] 37)).heap.size (w.alloc (.cells #[.int .u8 19, .int .i64 ln, .int .i64 cl, .int .i64 sz, .int .i64 num, .string tx] 37)));go_wp2_with fail;refine (Cy _ _).mono ?_;rintro e w1 ⟨rfl, hb1⟩;replace hbW := zz (Ab hbW.out hb1);go_wp2_with fail;refine (Ar (P := [tP tx.data.toList]) (k := 1) (HL.out.wr.carry (Ab hbW.out (Aa w1 _))) rfl (LiesP.made (news := #[.string tx, .int .i64 0, .int .i64 0, .int .i64 0]) w1 rfl) (by simp; omega)).mono ?_;rintro e V1 ⟨rfl, hw2, hf2⟩;replace HL := zz (HL.out.put (Ab hbW.out (Aa w1 _)) hw2 hf2);clear hw2 hf2 hb1 hbW;go_wp2_with fail;refine bodyPost_end (v := .tuple #[]) (by simp [results, results117]) rfl ?_;exact HL.out.done (by first | rfl | simp)
theorem b2y {w : World} {b : Nat} {E : Env} {X : List Pc} {t : Int} {out : List UInt8} (h : Wr w b E X t out) (hX : X.length <= 80000000) (ln cl sz num : Int) (tx : ByteArray) {a : Option Addr} {cap : Nat} {p0 : Nat} (hk : D3 b w a [p0]) :
  Calls prog 117 #[pR b, .agg #[.int .u8 20, .int .i64 ln, .int .i64 cl, .int .i64 sz, .int .i64 num, .string tx], .slice a 1 cap] w (Put b E X t out [tP [91], nP p0, tP [93]] w) := by
 have HL := zz (Lv.start h hk #[.int .u8 20, .int .i64 ln, .int .i64 cl, .int .i64 sz, .int .i64 num, .string tx] 37 ⟨by decide, by decide⟩);obtain ⟨g0, o0, rfl⟩ := hk.addr (by simp);clear h hk;go_enter func117, ntmps117;go_wp2_with fail;have k0 := fun D os => cell_regrown (show _ = some (itv p0) from HL.out.kd.cell (i := 0) (by simp)) D os
 simp only [Nat.add_zero] at k0;refine A5 7 3 [43, 47, 48] [pcV { data := #[91] } 0 0 0, pcV { data := #[] } p0 0 0, pcV { data := #[93] } 0 0 0] #[.string { data := #[91] }, .int .i64 0, .int .i64 0, .int .i64 0, .string { data := #[] }, .int .i64 p0, .int .i64 0, .int .i64 0, .string { data := #[93] }, .int .i64 0, .int .i64 0, .int .i64 0] [tP [91], nP p0, tP [93]] _ (by rfl) (by kernel_rfl) (by kernel_rfl) (by rfl) ?al ?go
 case al =>
  intro a w K hA h;refine Bw rfl rfl ?_;simp [Ca, go_sem] at hA;go_simp;exact h
 case go =>
  simp only [List.take_succ_cons, List.take_zero, List.drop_succ_cons, List.drop_zero]
  repeat (refine Be (fun K hK => ?_); go_simp; first | (refine hK _ ?_; clear hK K) | (apply Exists.intro; refine ⟨fun _ => ?_, hK _ ?_⟩; (first | with_reducible exact Dn _ _ | with_reducible exact Dp _ _ | exact A3 _ _ _ rfl _); clear hK K))
  refine B8 ⟨by simp [Ca, go_sem], ?_⟩;intro g W hbW hl;replace hbW := zz hbW;go_wp2_with (go_at_call 82; refine (Ar (HL.out.wr.carry hbW.out) (k := 3) rfl hl (by simp; omega)).mono ?_; rintro e V1 ⟨rfl, hw2, hf2⟩; replace HL := zz (HL.out.put hbW.out hw2 hf2); clear hw2 hf2 hl hbW);go_wp2_with fail;refine bodyPost_end (v := .tuple #[]) (by simp [results, results117]) rfl ?_;exact HL.out.done (by first | rfl | simp)
end
section
open Go.RowKit Go.Sort
theorem Y1 (a : Int) (w : World) (h0 : 0 <= a) (h1 : a <= 9223372036854775807) : Calls prog 153 #[.int .i64 a] w fun e w' => e = .returned (.string (bs (Nm.dec a.toNat))) ∧ Below w.heap.size w w' := by
 have := Nm.ntext_any a w (by omega) h1;rw [Nm.textL, if_neg (by omega), show a.natAbs = a.toNat by omega] at this;exact this
abbrev ndA (k : Nat) (ln cl sz num : Int) (tx : ByteArray) : Value := .agg #[.int .u8 k, .int .i64 ln, .int .i64 cl, .int .i64 sz, .int .i64 num, .string tx]
theorem b6d (ln cl sz num : Int) (tx : ByteArray) (w : World) (h0 : 0 <= num) (h1 : num <= 9223372036854775807) : Calls prog 118 #[.agg #[.int .u8 21, .int .i64 ln, .int .i64 cl, .int .i64 sz, .int .i64 num, .string tx]] w fun e w' => e = .returned (.string (bs (Nm.dec num.toNat))) ∧ Below w.heap.size w w' := by
 have H := zz (fun w => Y1 num w h0 h1);clear h0 h1;go_enter func118, ntmps118;go_wp2_with fail;refine (H.out _).mono ?_;rintro e w1 ⟨rfl, hb⟩;go_wp2_with fail;go_ret;exact ⟨rfl, Ab (Aa _ _) hb⟩
theorem b6c (ln cl sz num : Int) (tx : ByteArray) (w : World) (h0 : 0 <= num) (h1 : num <= 9223372036854775807) : Calls prog 118 #[.agg #[.int .u8 22, .int .i64 ln, .int .i64 cl, .int .i64 sz, .int .i64 num, .string tx]] w fun e w' => e = .returned (.string (bs (Nm.dec num.toNat ++ [105]))) ∧ Below w.heap.size w w' := by
 have H := zz (fun w => Y1 num w h0 h1);have hl : (Nm.dec num.toNat).length <= 20 := Nm.dec_len_le _ (by omega);obtain ⟨D, hD⟩ : ∃ D, bs (Nm.dec num.toNat) = D := ⟨_, rfl⟩;have hs : D.size <= 20 := by rw [<- hD, Ib]; exact hl
 have he : D ++ ({ data := #[105] } : ByteArray) = bs (Nm.dec num.toNat ++ [105]) := by
  rw [<- hD, show ({ data := #[105] } : ByteArray) = bs [105] from rfl, a6a]
 rw [hD] at H;rw [<- he];clear h0 h1 hl he hD;go_enter func118, ntmps118;go_wp2_with fail;refine (H.out _).mono ?_;rintro e w1 ⟨rfl, hb⟩;replace hb := zz hb;go_wp2_with fail;go_ret;exact ⟨rfl, Ab (Aa _ _) hb.out⟩
theorem b6b (ln cl sz num : Int) (tx : ByteArray) (w : World) (ht : tx.size <= 100000) : Calls prog 118 #[.agg #[.int .u8 23, .int .i64 ln, .int .i64 cl, .int .i64 sz, .int .i64 num, .string tx]] w fun e w' => e = .returned (.string (bs (lit tx.data.toList))) ∧ Below w.heap.size w w' := by
 have H := zz (fun w => a3n tx w ht);go_enter func118, ntmps118;go_wp2_with fail;refine (H.out _).mono ?_;rintro e w1 ⟨rfl, hb⟩;go_wp2_with fail;go_ret;exact ⟨rfl, Ab (Aa _ _) hb⟩
theorem b1l (ln cl sz : Int) (tx : ByteArray) (w : World) : Calls prog 118 #[.agg #[.int .u8 24, .int .i64 ln, .int .i64 cl, .int .i64 sz, .int .i64 0, .string tx]] w fun e w' => e = .returned (.string { data := #[102, 97, 108, 115, 101] }) ∧ Below w.heap.size w w' := by
 go_enter func118, ntmps118;go_wp2_with fail;go_ret;exact ⟨rfl, Aa _ _⟩
theorem b1k (ln cl sz num : Int) (h : num ≠ 0) (tx : ByteArray) (w : World) : Calls prog 118 #[.agg #[.int .u8 24, .int .i64 ln, .int .i64 cl, .int .i64 sz, .int .i64 num, .string tx]] w fun e w' => e = .returned (.string { data := #[116, 114, 117, 101] }) ∧ Below w.heap.size w w' := by
 have h' : (num == 0) = false := by simpa using h
 clear h;go_enter func118, ntmps118;go_wp2_with fail;go_ret;exact ⟨rfl, Aa _ _⟩
theorem b6a (ln cl sz num : Int) (tx : ByteArray) (w : World) : Calls prog 118 #[.agg #[.int .u8 25, .int .i64 ln, .int .i64 cl, .int .i64 sz, .int .i64 num, .string tx]] w fun e w' => e = .returned (.string { data := #[110, 105, 108] }) ∧ Below w.heap.size w w' := by
 go_enter func118, ntmps118;go_wp2_with fail;go_ret;exact ⟨rfl, Aa _ _⟩
theorem b59 (ln cl sz num : Int) (tx : ByteArray) (w : World) : Calls prog 118 #[.agg #[.int .u8 26, .int .i64 ln, .int .i64 cl, .int .i64 sz, .int .i64 num, .string tx]] w fun e w' => e = .returned (.string tx) ∧ Below w.heap.size w w' := by
 go_enter func118, ntmps118;go_wp2_with fail;go_ret;exact ⟨rfl, Aa _ _⟩
theorem b1j (i : Inf) (hk : 21 <= i.kind ∧ i.kind <= 26) (h0 : i.kind = 21 ∨ i.kind = 22 -> 0 <= i.num) (h1 : i.num <= 9223372036854775807) (ht : i.text.length <= 100000) (ln cl sz : Int) (w : World) :
  Calls prog 118 #[ndA i.kind ln cl sz i.num (bs i.text)] w fun e w' => e = .returned (.string (bs (L3 i))) ∧ Below w.heap.size w w' := by
 obtain ⟨k, l, c, n, t⟩ := i;simp only at *;obtain ⟨hk1, hk2⟩ := hk;have hc : k = 21 ∨ k = 22 ∨ k = 23 ∨ k = 24 ∨ k = 25 ∨ k = 26 := by omega
 rcases hc with rfl | rfl | rfl | rfl | rfl | rfl
 ·exact b6d ln cl sz n _ w (h0 (.inl rfl)) h1
 ·exact b6c ln cl sz n _ w (h0 (.inr rfl)) h1
 ·have := b6b ln cl sz n (bs t) w (by rw [Ib]; exact ht);rw [B9] at this;exact this
 ·by_cases hn : n = 0
  ·subst hn; exact b1l ln cl sz _ w
  ·rw [show L3 ⟨24, l, c, n, t⟩ = [116, 114, 117, 101] by simp [L3, hn]];exact b1k ln cl sz n hn (bs t) w
 ·exact b6a ln cl sz n _ w
 ·exact b59 ln cl sz n _ w
end
section
open Go.RowKit Go.Sort
theorem c4e (kk : Nat) (hK : Hid (kk = 1 ∨ kk = 2 ∨ kk = 6 ∨ kk = 27 ∨ kk = 3 ∨ kk = 5 ∨ kk = 20 ∨ kk = 7 ∨ kk = 10 ∨ kk = 12)) (b o n cap : Nat) (l : List Nd) (w : World) (hn : Hid (l.length = n)) (hl : n <= 1000000) (hr : Hid (Qv w b o l)) (k : Nat) (hk : k < n) (hok : Hid (Ok (sz l) n k)) (xs : List Nat) (hxs : Hid (A7 (sz l) k = xs)) (hxn : Hid (∀ x, x ∈ xs -> x < n)) (hxl : xs.length <= 1000000)
  (num : Int) (hnum : Bg num) (hkd : Hid (Ai l k = kk)) (hnm : Hid ((nd l k).num = num)) (q : Bool) (hq : Hid (Ff (decide (k = 0)) kk num (xs.map (Ai l)) = q)) :
  Calls prog 27 #[.slice (some ⟨b, o, none⟩) n cap, .int .i64 (k : Nat)] w fun e w' => e = .returned (.bool q) ∧ Below w.heap.size w w' := by
 have HC0 := zz (fun w2 (h : Below w.heap.size w w2) => show w2.cell? ⟨b, o + k * 6, none⟩ = some (.int .u8 (kk : Nat)) by
  rw [((hr.out.carry h) k (by rw [hn.out]; exact hk)).1.c0, show (nd l k).kind = kk from hkd.out])
 have HC4 := zz (fun w2 (h : Below w.heap.size w w2) => show w2.cell? ⟨b, o + k * 6 + 4, none⟩ = some (.int .i64 num) by
  rw [((hr.out.carry h) k (by rw [hn.out]; exact hk)).1.c4, hnm.out])
 have HKI := zz (Mb b o n cap l w hn hl hr k hk hok xs hxs);clear hkd hnm;go_enter func27, ntmps27;go_wp2_with fail;refine HKI.out.mono ?_;rintro e w1 ⟨v, rfl, hown, hb1⟩;obtain ⟨a', cap', rfl, hcell⟩ := Mg hown;replace hcell := zz hcell;replace hb1 := zz hb1;clear hown HKI;go_wp2_with fail
 go_loopw [6, 17] (fun v j wr => b2l l xs w1 v j wr) (fun _ j _ => xs.length - (intOf j).toNat)
 case atStart => exact ⟨0, Nat.zero_le _, rfl, Sf [] rfl (Nat.le_refl _) 0 rfl (by decide), Aa _ _⟩
 case round =>
  obtain ⟨i, hi, rfl, ho, hbel⟩ := hrel;have hsz := hbel.size;by_cases hlt : i < xs.length
  ·obtain ⟨g, rfl, _, hc⟩ := hcell.out i hlt;have hxm := hxn.out _ (Jb hlt);obtain ⟨x, hx⟩ : ∃ x, xs.getD i 0 = x := ⟨_, rfl⟩;rw [hx] at hc hxm;have hc' := Ac hbel hc;obtain ⟨hat, hwf⟩ := (hr.out.carry (Ab hb1.out hbel)) x (by rw [hn.out]; exact hxm);obtain ⟨c0, c1, c2, c3, c4, c5⟩ := hat;obtain ⟨kd, ln, cl, s, nm, tx, hN⟩ : ∃ kd ln cl s nm tx, nd l x = ⟨kd, ln, cl, s, nm, tx⟩ := ⟨_, _, _, _, _, _, rfl⟩;rw [hN] at c0 c1 c2 c3 c4 c5;simp only at c0 c1 c2 c3 c4 c5;have hkk : srt (Ai l (xs.getD i 0)) = srt kd := by rw [hx, Ai, hN]
   replace hkk := zz hkk;have HB := zz hbel;replace ho := zz ho;clear hc hN hx hwf hbel;go_wp2_with fail;refine (R7 ⟨kd, ln, cl, s, nm, tx⟩ _).mono ?_;rintro e w2 ⟨rfl, hb2⟩;replace ho := zz (Fx ho.out hb2);have hsz2 := hb2.size;replace hb2 := zz (Ab HB.out hb2);clear HB;have hlen : ((xs.take i).map fun x => srt (Ai l x)).length + 1 <= 100000000 := by simp; omega
   go_wp2_with (at_builtin; refine Cd rfl _ _ rfl w1.heap.size u6 _ [srt kd] 1 rfl rfl rfl rfl ho.out (by omega) hlen ?_; intro v2 w3 ho2 hb3; replace ho2 := zz ho2; replace hb3 := zz (hb2.out.trans hb3))
   go_roundw
   case rel => exact b2l.step (wr := wr) hlt (by go_num) (by rw [hkk.out]; exact ho2.out) hb3.out
   case measure => simp [intOf]; omega
  ·have hil : i = xs.length := by omega
   subst hil;rw [List.take_length] at ho;have htx := Kv ho;have hS : (xs.map fun x => srt (Ai l x)) = (xs.map (Ai l)).map srt := by simp
   rw [hS] at htx;have HC0' := HC0.out wr (Ab hb1.out hbel);have HC4' := HC4.out wr (Ab hb1.out hbel);have HB := zz (Ab hb1.out hbel);have hHd : Hid ((xs.map (Ai l)).headD 0 = (if xs.length = 0 then 0 else Ai l (xs.getD 0 0))) := zz (by cases xs <;> rfl);obtain ⟨ks, hks⟩ : ∃ ks, xs.map (Ai l) = ks := ⟨_, rfl⟩;have hkl : ks.length = xs.length := by rw [<- hks, List.length_map]
   rw [hks] at htx hHd hq;replace hkl := zz hkl;obtain ⟨T, hT⟩ : ∃ T, bs (ks.map srt) = T := ⟨_, rfl⟩;rw [hT] at htx;have hTl : T.toList = ks.map srt := by rw [ByteArray.toList_eq, <- hT, B9]
   replace hTl := zz hTl;have hTz : T.size = xs.length := by rw [<- hT, Ib, List.length_map, hkl.out]
   replace hTz := zz hTz;obtain ⟨fk, hfk⟩ : ∃ fk, hdK ks = fk := ⟨_, rfl⟩;have hfk0 := hHd.out;rw [show ks.headD 0 = fk from hfk] at hfk0;clear hS hks hHd hlt ho;by_cases hx0 : xs.length = 0
   ·rw [if_pos hx0] at hfk0;subst hfk0;have e0 : ¬ (0 : Int) < (xs.length : Int) := by omega
    rw [hx0] at hTz;have d0 := fun O => Ae HC0' O
    have d4 := fun O => Ae HC4' O
    replace hT := zz hT;replace hfk := zz hfk;clear HC0' HC4' hbel;rcases hK.out with rfl | rfl | rfl | rfl | rfl | rfl | rfl | rfl | rfl | rfl
    ·by_cases hk0 : k = 0
     ·have g0 : ((k : Int) == 0) = true := by rw [hk0]; rfl
      have HO := zz (fun w => Gv T 100 w q (by rw [hTz.out]; omega) (zz (by rw [<- ByteArray.toList_eq, hTl.out]; have := hq.out; rw [Ff, decide_eq_true hk0, Bool.true_and] at this; exact this)));clear hk0;go_wp2_with fail;refine (HO.out _).mono ?_;rintro e w9 ⟨rfl, rfl⟩;go_wp2_with fail;go_ret;exact ⟨rfl, Ab HB.out (Aa wr _)⟩
     ·have g0 : ((k : Int) == 0) = false := by rw [beq_eq_false_iff_ne]; omega
      obtain rfl : q = false := by rw [<- hq.out]; simp [Ff, hk0]
      go_wp2_with fail;go_ret;exact ⟨rfl, Ab HB.out (Aa wr _)⟩
    ·have HO := zz (fun w => Gv T 102 w q (by rw [hTz.out]; omega) (zz (by rw [<- ByteArray.toList_eq, hTl.out]; exact hq.out)));go_wp2_with fail;refine (HO.out _).mono ?_;rintro e w9 ⟨rfl, rfl⟩;go_wp2_with fail;go_ret;exact ⟨rfl, Ab HB.out (Aa wr _)⟩
    ·have HO := zz (fun w => Gv T 115 w q (by rw [hTz.out]; omega) (zz (by rw [<- ByteArray.toList_eq, hTl.out]; exact hq.out)));go_wp2_with fail;refine (HO.out _).mono ?_;rintro e w9 ⟨rfl, rfl⟩;go_wp2_with fail;go_ret;exact ⟨rfl, Ab HB.out (Aa wr _)⟩
    ·have HO := zz (fun w => Gv T 101 w q (by rw [hTz.out]; omega) (zz (by rw [<- ByteArray.toList_eq, hTl.out]; exact hq.out)));go_wp2_with fail;refine (HO.out _).mono ?_;rintro e w9 ⟨rfl, rfl⟩;go_wp2_with fail;go_ret;exact ⟨rfl, Ab HB.out (Aa wr _)⟩
    ·have t1 : (T.toList == [116]) = q := by rw [hTl.out]; exact hq.out
     go_wp2_with fail;go_ret;exact ⟨rfl, Ab HB.out (Aa wr _)⟩
    ·have t1 : (T.toList == [116]) = q := by rw [hTl.out]; exact hq.out
     go_wp2_with fail;go_ret;exact ⟨rfl, Ab HB.out (Aa wr _)⟩
    ·have t1 : (T.toList == [116]) = q := by rw [hTl.out]; exact hq.out
     go_wp2_with fail;go_ret;exact ⟨rfl, Ab HB.out (Aa wr _)⟩
    ·have t1 : (T.toList == [116, 101]) = q := by rw [hTl.out]; exact hq.out
     go_wp2_with fail;go_ret;exact ⟨rfl, Ab HB.out (Aa wr _)⟩
    ·have t1 : (T.toList == [101, 98]) = q := by rw [hTl.out]; exact hq.out
     go_wp2_with fail;go_ret;exact ⟨rfl, Ab HB.out (Aa wr _)⟩
    ·have t1 : (T.toList == [101]) = q := by rw [hTl.out]; exact hq.out
     go_wp2_with fail;go_ret;exact ⟨rfl, Ab HB.out (Aa wr _)⟩
   ·rw [if_neg hx0] at hfk0;obtain ⟨g, rfl, _, hc⟩ := hcell.out 0 (by omega);have hxm := hxn.out _ (Jb (x := xs) (k := 0) (by omega));obtain ⟨x, hx⟩ : ∃ x, xs.getD 0 0 = x := ⟨_, rfl⟩;rw [hx] at hc hxm hfk0;have hc' := Ac hbel hc;obtain ⟨hat, hwf⟩ := (hr.out.carry HB.out) x (by rw [hn.out]; exact hxm);obtain ⟨c0, c1, c2, c3, c4, c5⟩ := hat;obtain ⟨kd, ln, cl, s, nm, tx, hN⟩ : ∃ kd ln cl s nm tx, nd l x = ⟨kd, ln, cl, s, nm, tx⟩ := ⟨_, _, _, _, _, _, rfl⟩;rw [hN] at c0 c1 c2 c3 c4 c5;simp only at c0 c1 c2 c3 c4 c5;obtain rfl : fk = kd := by rw [hfk0, Ai, hN]
    have hx1 : 0 < xs.length := by omega
    have e0 : (0 : Int) < (xs.length : Int) := by omega
    replace hT := zz hT;replace hfk := zz hfk;have d0 := fun O => Ae HC0' O
    have d4 := fun O => Ae HC4' O
    replace hc' := fun O => Ae hc' O
    replace c0 := fun O => Ae c0 O
    replace c1 := fun O => Ae c1 O
    replace c2 := fun O => Ae c2 O
    replace c3 := fun O => Ae c3 O
    replace c4 := fun O => Ae c4 O
    replace c5 := fun O => Ae c5 O
    clear hc hN hx hfk0 hwf hx0 HC0' HC4' hbel;rcases hK.out with rfl | rfl | rfl | rfl | rfl | rfl | rfl | rfl | rfl | rfl
    ·by_cases hk0 : k = 0
     ·have g0 : ((k : Int) == 0) = true := by rw [hk0]; rfl
      have HO := zz (fun w => Gv T 100 w q (by rw [hTz.out]; omega) (zz (by rw [<- ByteArray.toList_eq, hTl.out]; have := hq.out; rw [Ff, decide_eq_true hk0, Bool.true_and] at this; exact this)));clear hk0;go_wp2_with fail;refine (HO.out _).mono ?_;rintro e w9 ⟨rfl, rfl⟩;go_wp2_with fail;go_ret;exact ⟨rfl, Ab HB.out (Aa wr _)⟩
     ·have g0 : ((k : Int) == 0) = false := by rw [beq_eq_false_iff_ne]; omega
      obtain rfl : q = false := by rw [<- hq.out]; simp [Ff, hk0]
      go_wp2_with fail;go_ret;exact ⟨rfl, Ab HB.out (Aa wr _)⟩
    ·have HO := zz (fun w => Gv T 102 w q (by rw [hTz.out]; omega) (zz (by rw [<- ByteArray.toList_eq, hTl.out]; exact hq.out)));go_wp2_with fail;refine (HO.out _).mono ?_;rintro e w9 ⟨rfl, rfl⟩;go_wp2_with fail;go_ret;exact ⟨rfl, Ab HB.out (Aa wr _)⟩
    ·have HO := zz (fun w => Gv T 115 w q (by rw [hTz.out]; omega) (zz (by rw [<- ByteArray.toList_eq, hTl.out]; exact hq.out)));go_wp2_with fail;refine (HO.out _).mono ?_;rintro e w9 ⟨rfl, rfl⟩;go_wp2_with fail;go_ret;exact ⟨rfl, Ab HB.out (Aa wr _)⟩
    ·have HO := zz (fun w => Gv T 101 w q (by rw [hTz.out]; omega) (zz (by rw [<- ByteArray.toList_eq, hTl.out]; exact hq.out)));go_wp2_with fail;refine (HO.out _).mono ?_;rintro e w9 ⟨rfl, rfl⟩;go_wp2_with fail;go_ret;exact ⟨rfl, Ab HB.out (Aa wr _)⟩
    ·have t1 : (T.toList == [116]) = q := by rw [hTl.out]; exact hq.out
     go_wp2_with fail;go_ret;exact ⟨rfl, Ab HB.out (Aa wr _)⟩
    ·have t1 : (T.toList == [116]) = q := by rw [hTl.out]; exact hq.out
     go_wp2_with fail;go_ret;exact ⟨rfl, Ab HB.out (Aa wr _)⟩
    ·have t1 : (T.toList == [116]) = q := by rw [hTl.out]; exact hq.out
     go_wp2_with fail;go_ret;exact ⟨rfl, Ab HB.out (Aa wr _)⟩
    ·have t1 : (T.toList == [116, 101]) = q := by rw [hTl.out]; exact hq.out
     go_wp2_with fail;go_ret;exact ⟨rfl, Ab HB.out (Aa wr _)⟩
    ·have t1 : (T.toList == [101, 98]) = q := by rw [hTl.out]; exact hq.out
     go_wp2_with fail;go_ret;exact ⟨rfl, Ab HB.out (Aa wr _)⟩
    ·have t1 : (T.toList == [101]) = q := by rw [hTl.out]; exact hq.out
     go_wp2_with fail;go_ret;exact ⟨rfl, Ab HB.out (Aa wr _)⟩
end
section
open Go.RowKit Go.Sort
theorem c4d (kk : Nat) (hK : Hid (kk = 29 ∨ kk = 30 ∨ kk = 28 ∨ kk = 31 ∨ kk = 9 ∨ kk = 11 ∨ kk = 8 ∨ kk = 13 ∨ kk = 32)) (b o n cap : Nat) (l : List Nd) (w : World) (hn : Hid (l.length = n)) (hl : n <= 1000000) (hr : Hid (Qv w b o l)) (k : Nat) (hk : k < n) (hok : Hid (Ok (sz l) n k)) (xs : List Nat) (hxs : Hid (A7 (sz l) k = xs)) (hxn : Hid (∀ x, x ∈ xs -> x < n)) (hxl : xs.length <= 1000000)
  (num : Int) (hnum : Bg num) (hkd : Hid (Ai l k = kk)) (hnm : Hid ((nd l k).num = num)) (q : Bool) (hq : Hid (Ff (decide (k = 0)) kk num (xs.map (Ai l)) = q)) :
  Calls prog 27 #[.slice (some ⟨b, o, none⟩) n cap, .int .i64 (k : Nat)] w fun e w' => e = .returned (.bool q) ∧ Below w.heap.size w w' := by
 have HC0 := zz (fun w2 (h : Below w.heap.size w w2) => show w2.cell? ⟨b, o + k * 6, none⟩ = some (.int .u8 (kk : Nat)) by
  rw [((hr.out.carry h) k (by rw [hn.out]; exact hk)).1.c0, show (nd l k).kind = kk from hkd.out])
 have HC4 := zz (fun w2 (h : Below w.heap.size w w2) => show w2.cell? ⟨b, o + k * 6 + 4, none⟩ = some (.int .i64 num) by
  rw [((hr.out.carry h) k (by rw [hn.out]; exact hk)).1.c4, hnm.out])
 have HKI := zz (Mb b o n cap l w hn hl hr k hk hok xs hxs);clear hkd hnm;go_enter func27, ntmps27;go_wp2_with fail;refine HKI.out.mono ?_;rintro e w1 ⟨v, rfl, hown, hb1⟩;obtain ⟨a', cap', rfl, hcell⟩ := Mg hown;replace hcell := zz hcell;replace hb1 := zz hb1;clear hown HKI;go_wp2_with fail
 go_loopw [6, 17] (fun v j wr => b2l l xs w1 v j wr) (fun _ j _ => xs.length - (intOf j).toNat)
 case atStart => exact ⟨0, Nat.zero_le _, rfl, Sf [] rfl (Nat.le_refl _) 0 rfl (by decide), Aa _ _⟩
 case round =>
  obtain ⟨i, hi, rfl, ho, hbel⟩ := hrel;have hsz := hbel.size;by_cases hlt : i < xs.length
  ·obtain ⟨g, rfl, _, hc⟩ := hcell.out i hlt;have hxm := hxn.out _ (Jb hlt);obtain ⟨x, hx⟩ : ∃ x, xs.getD i 0 = x := ⟨_, rfl⟩;rw [hx] at hc hxm;have hc' := Ac hbel hc;obtain ⟨hat, hwf⟩ := (hr.out.carry (Ab hb1.out hbel)) x (by rw [hn.out]; exact hxm);obtain ⟨c0, c1, c2, c3, c4, c5⟩ := hat;obtain ⟨kd, ln, cl, s, nm, tx, hN⟩ : ∃ kd ln cl s nm tx, nd l x = ⟨kd, ln, cl, s, nm, tx⟩ := ⟨_, _, _, _, _, _, rfl⟩;rw [hN] at c0 c1 c2 c3 c4 c5;simp only at c0 c1 c2 c3 c4 c5;have hkk : srt (Ai l (xs.getD i 0)) = srt kd := by rw [hx, Ai, hN]
   replace hkk := zz hkk;have HB := zz hbel;replace ho := zz ho;clear hc hN hx hwf hbel;go_wp2_with fail;refine (R7 ⟨kd, ln, cl, s, nm, tx⟩ _).mono ?_;rintro e w2 ⟨rfl, hb2⟩;replace ho := zz (Fx ho.out hb2);have hsz2 := hb2.size;replace hb2 := zz (Ab HB.out hb2);clear HB;have hlen : ((xs.take i).map fun x => srt (Ai l x)).length + 1 <= 100000000 := by simp; omega
   go_wp2_with (at_builtin; refine Cd rfl _ _ rfl w1.heap.size u6 _ [srt kd] 1 rfl rfl rfl rfl ho.out (by omega) hlen ?_; intro v2 w3 ho2 hb3; replace ho2 := zz ho2; replace hb3 := zz (hb2.out.trans hb3))
   go_roundw
   case rel => exact b2l.step (wr := wr) hlt (by go_num) (by rw [hkk.out]; exact ho2.out) hb3.out
   case measure => simp [intOf]; omega
  ·have hil : i = xs.length := by omega
   subst hil;rw [List.take_length] at ho;have htx := Kv ho;have hS : (xs.map fun x => srt (Ai l x)) = (xs.map (Ai l)).map srt := by simp
   rw [hS] at htx;have HC0' := HC0.out wr (Ab hb1.out hbel);have HC4' := HC4.out wr (Ab hb1.out hbel);have HB := zz (Ab hb1.out hbel);have hHd : Hid ((xs.map (Ai l)).headD 0 = (if xs.length = 0 then 0 else Ai l (xs.getD 0 0))) := zz (by cases xs <;> rfl);obtain ⟨ks, hks⟩ : ∃ ks, xs.map (Ai l) = ks := ⟨_, rfl⟩;have hkl : ks.length = xs.length := by rw [<- hks, List.length_map]
   rw [hks] at htx hHd hq;replace hkl := zz hkl;obtain ⟨T, hT⟩ : ∃ T, bs (ks.map srt) = T := ⟨_, rfl⟩;rw [hT] at htx;have hTl : T.toList = ks.map srt := by rw [ByteArray.toList_eq, <- hT, B9]
   replace hTl := zz hTl;have hTz : T.size = xs.length := by rw [<- hT, Ib, List.length_map, hkl.out]
   replace hTz := zz hTz;obtain ⟨fk, hfk⟩ : ∃ fk, hdK ks = fk := ⟨_, rfl⟩;have hfk0 := hHd.out;rw [show ks.headD 0 = fk from hfk] at hfk0;clear hS hks hHd hlt ho;by_cases hx0 : xs.length = 0
   ·rw [if_pos hx0] at hfk0;subst hfk0;have e0 : ¬ (0 : Int) < (xs.length : Int) := by omega
    rw [hx0] at hTz;have d0 := fun O => Ae HC0' O
    have d4 := fun O => Ae HC4' O
    replace hT := zz hT;replace hfk := zz hfk;clear HC0' HC4' hbel;rcases hK.out with rfl | rfl | rfl | rfl | rfl | rfl | rfl | rfl | rfl
    ·have t1 : (T.toList == [101]) = q := by rw [hTl.out]; exact hq.out
     go_wp2_with fail;go_ret;exact ⟨rfl, Ab HB.out (Aa wr _)⟩
    ·have t1 : (T.toList == [101]) = q := by rw [hTl.out]; exact hq.out
     go_wp2_with fail;go_ret;exact ⟨rfl, Ab HB.out (Aa wr _)⟩
    ·have t1 : (T.toList == [101, 101]) = q := by rw [hTl.out]; exact hq.out
     go_wp2_with fail;go_ret;exact ⟨rfl, Ab HB.out (Aa wr _)⟩
    ·have t1 : (T.toList == [101, 101]) = q := by rw [hTl.out]; exact hq.out
     go_wp2_with fail;go_ret;exact ⟨rfl, Ab HB.out (Aa wr _)⟩
    ·cases ha : (ks.map srt == [101, 98]) with
     | true =>
      have a : (T.toList == [101, 98]) = true := by rw [hTl.out]; exact ha
      obtain rfl : q = true := by rw [<- hq.out]; simp [Ff, ha]
      clear ha;go_wp2_with fail;go_ret
      exact ⟨rfl, Ab HB.out (Aa wr _)⟩
     | false =>
      have a : (T.toList == [101, 98]) = false := by rw [hTl.out]; exact ha
      have t2 : (T.toList == [101, 98, 98]) = q := by rw [hTl.out, <- hq.out, Ff, ha, Bool.false_or]
      clear ha;go_wp2_with fail;go_ret;exact ⟨rfl, Ab HB.out (Aa wr _)⟩
    ·cases ha : (ks.map srt == []) with
     | true =>
      have a : (T.toList == []) = true := by rw [hTl.out]; exact ha
      have ae : T.toList.isEmpty = true := by rw [hTl.out]; revert ha; cases ks.map srt <;> simp
      obtain rfl : q = true := by rw [<- hq.out]; simp [Ff, ha]
      clear ha;go_wp2_with fail;go_ret
      exact ⟨rfl, Ab HB.out (Aa wr _)⟩
     | false =>
      have a : (T.toList == []) = false := by rw [hTl.out]; exact ha
      have ae : T.toList.isEmpty = false := by rw [hTl.out]; revert ha; cases ks.map srt <;> simp
      have t2 : (T.toList == [101]) = q := by rw [hTl.out, <- hq.out, Ff, ha, Bool.false_or]
      clear ha;go_wp2_with fail;go_ret;exact ⟨rfl, Ab HB.out (Aa wr _)⟩
    ·have hk0 : ks = [] := List.eq_nil_of_length_eq_zero (by rw [hkl.out, hx0]);have n0 : (T.toList == [101, 101]) = false := by rw [hTl.out, hk0]; rfl
     obtain rfl : q = false := by rw [<- hq.out, hk0]; rfl
     clear hk0;go_wp2_with fail;go_ret;exact ⟨rfl, Ab HB.out (Aa wr _)⟩
    ·have hk0 : ks = [] := List.eq_nil_of_length_eq_zero (by rw [hkl.out, hx0]);have n0 : (T.toList == [101]) = false := by rw [hTl.out, hk0]; rfl
     obtain rfl : q = false := by rw [<- hq.out, hk0]; rfl
     clear hk0;go_wp2_with fail;go_ret;exact ⟨rfl, Ab HB.out (Aa wr _)⟩
    ·have hk0 : ks = [] := List.eq_nil_of_length_eq_zero (by rw [hkl.out, hx0]);have n0 : (T.toList == [116]) = false := by rw [hTl.out, hk0]; rfl
     have n1 : (T.toList == [116, 101]) = false := by rw [hTl.out, hk0]; rfl
     obtain rfl : q = false := by rw [<- hq.out, hk0]; rfl
     clear hk0;go_wp2_with fail;go_ret;exact ⟨rfl, Ab HB.out (Aa wr _)⟩
   ·rw [if_neg hx0] at hfk0;obtain ⟨g, rfl, _, hc⟩ := hcell.out 0 (by omega);have hxm := hxn.out _ (Jb (x := xs) (k := 0) (by omega));obtain ⟨x, hx⟩ : ∃ x, xs.getD 0 0 = x := ⟨_, rfl⟩;rw [hx] at hc hxm hfk0;have hc' := Ac hbel hc;obtain ⟨hat, hwf⟩ := (hr.out.carry HB.out) x (by rw [hn.out]; exact hxm);obtain ⟨c0, c1, c2, c3, c4, c5⟩ := hat;obtain ⟨kd, ln, cl, s, nm, tx, hN⟩ : ∃ kd ln cl s nm tx, nd l x = ⟨kd, ln, cl, s, nm, tx⟩ := ⟨_, _, _, _, _, _, rfl⟩;rw [hN] at c0 c1 c2 c3 c4 c5;simp only at c0 c1 c2 c3 c4 c5;obtain rfl : fk = kd := by rw [hfk0, Ai, hN]
    have hx1 : 0 < xs.length := by omega
    have e0 : (0 : Int) < (xs.length : Int) := by omega
    replace hT := zz hT;replace hfk := zz hfk;have d0 := fun O => Ae HC0' O
    have d4 := fun O => Ae HC4' O
    replace hc' := fun O => Ae hc' O
    replace c0 := fun O => Ae c0 O
    replace c1 := fun O => Ae c1 O
    replace c2 := fun O => Ae c2 O
    replace c3 := fun O => Ae c3 O
    replace c4 := fun O => Ae c4 O
    replace c5 := fun O => Ae c5 O
    clear hc hN hx hfk0 hwf hx0 HC0' HC4' hbel;rcases hK.out with rfl | rfl | rfl | rfl | rfl | rfl | rfl | rfl | rfl
    ·have t1 : (T.toList == [101]) = q := by rw [hTl.out]; exact hq.out
     go_wp2_with fail;go_ret;exact ⟨rfl, Ab HB.out (Aa wr _)⟩
    ·have t1 : (T.toList == [101]) = q := by rw [hTl.out]; exact hq.out
     go_wp2_with fail;go_ret;exact ⟨rfl, Ab HB.out (Aa wr _)⟩
    ·have t1 : (T.toList == [101, 101]) = q := by rw [hTl.out]; exact hq.out
     go_wp2_with fail;go_ret;exact ⟨rfl, Ab HB.out (Aa wr _)⟩
    ·have t1 : (T.toList == [101, 101]) = q := by rw [hTl.out]; exact hq.out
     go_wp2_with fail;go_ret;exact ⟨rfl, Ab HB.out (Aa wr _)⟩
    ·cases ha : (ks.map srt == [101, 98]) with
     | true =>
      have a : (T.toList == [101, 98]) = true := by rw [hTl.out]; exact ha
      obtain rfl : q = true := by rw [<- hq.out]; simp [Ff, ha]
      clear ha;go_wp2_with fail;go_ret
      exact ⟨rfl, Ab HB.out (Aa wr _)⟩
     | false =>
      have a : (T.toList == [101, 98]) = false := by rw [hTl.out]; exact ha
      have t2 : (T.toList == [101, 98, 98]) = q := by rw [hTl.out, <- hq.out, Ff, ha, Bool.false_or]
      clear ha;go_wp2_with fail;go_ret;exact ⟨rfl, Ab HB.out (Aa wr _)⟩
    ·cases ha : (ks.map srt == []) with
     | true =>
      have a : (T.toList == []) = true := by rw [hTl.out]; exact ha
      have ae : T.toList.isEmpty = true := by rw [hTl.out]; revert ha; cases ks.map srt <;> simp
      obtain rfl : q = true := by rw [<- hq.out]; simp [Ff, ha]
      clear ha;go_wp2_with fail;go_ret
      exact ⟨rfl, Ab HB.out (Aa wr _)⟩
     | false =>
      have a : (T.toList == []) = false := by rw [hTl.out]; exact ha
      have ae : T.toList.isEmpty = false := by rw [hTl.out]; revert ha; cases ks.map srt <;> simp
      have t2 : (T.toList == [101]) = q := by rw [hTl.out, <- hq.out, Ff, ha, Bool.false_or]
      clear ha;go_wp2_with fail;go_ret;exact ⟨rfl, Ab HB.out (Aa wr _)⟩
    ·cases ha : (ks.map srt == [101, 101]) with
     | true =>
      have a : (T.toList == [101, 101]) = true := by rw [hTl.out]; exact ha
      by_cases hf1 : fk = 26
      ·have f1 : (((fk : Nat) : Int) == 26) = true := by rw [hf1]; rfl
       obtain rfl : q = true := by rw [<- hq.out]; simp [Ff, ha, hfk.out, hf1]
       clear hf1;go_wp2_with fail;go_ret;exact ⟨rfl, Ab HB.out (Aa wr _)⟩
      ·have f1 : (((fk : Nat) : Int) == 26) = false := by rw [beq_eq_false_iff_ne]; omega
       by_cases hf2 : fk = 28
       ·have f2 : (((fk : Nat) : Int) == 28) = true := by rw [hf2]; rfl
        obtain rfl : q = true := by rw [<- hq.out]; simp [Ff, ha, hfk.out, hf2]
        clear hf2;go_wp2_with fail;go_ret;exact ⟨rfl, Ab HB.out (Aa wr _)⟩
       ·have f2 : (((fk : Nat) : Int) == 28) = false := by rw [beq_eq_false_iff_ne]; omega
        by_cases hf3 : fk = 29
        ·have f3 : (((fk : Nat) : Int) == 29) = true := by rw [hf3]; rfl
         obtain rfl : q = true := by rw [<- hq.out]; simp [Ff, ha, hfk.out, hf3]
         clear hf3;go_wp2_with fail;go_ret;exact ⟨rfl, Ab HB.out (Aa wr _)⟩
        ·have f3 : (((fk : Nat) : Int) == 29) = false := by rw [beq_eq_false_iff_ne]; omega
         obtain rfl : q = false := by rw [<- hq.out]; simp [Ff, ha, hfk.out, hf1, hf2, hf3]
         clear hf1 hf2 hf3;go_wp2_with fail;go_ret
         exact ⟨rfl, Ab HB.out (Aa wr _)⟩
     | false =>
      have a : (T.toList == [101, 101]) = false := by rw [hTl.out]; exact ha
      obtain rfl : q = false := by rw [<- hq.out]; simp [Ff, ha]
      clear ha;go_wp2_with fail;go_ret;exact ⟨rfl, Ab HB.out (Aa wr _)⟩
    ·cases ha : (ks.map srt == [101]) with
     | true =>
      have a : (T.toList == [101]) = true := by rw [hTl.out]; exact ha
      by_cases hf1 : fk = 27
      ·have f1 : (((fk : Nat) : Int) == 27) = true := by rw [hf1]; rfl
       obtain rfl : q = true := by rw [<- hq.out]; simp [Ff, ha, hfk.out, hf1]
       clear hf1 ha;go_wp2_with fail;go_ret;exact ⟨rfl, Ab HB.out (Aa wr _)⟩
      ·have f1 : (((fk : Nat) : Int) == 27) = false := by rw [beq_eq_false_iff_ne]; omega
       obtain rfl : q = false := by rw [<- hq.out]; simp [Ff, ha, hfk.out, hf1]
       clear hf1 ha;go_wp2_with fail;go_ret
       exact ⟨rfl, Ab HB.out (Aa wr _)⟩
     | false =>
      have a : (T.toList == [101]) = false := by rw [hTl.out]; exact ha
      obtain rfl : q = false := by rw [<- hq.out]; simp [Ff, ha]
      clear ha;go_wp2_with fail;go_ret;exact ⟨rfl, Ab HB.out (Aa wr _)⟩
    ·cases ha : (ks.map srt == [116]) with
     | true =>
      have a : (T.toList == [116]) = true := by rw [hTl.out]; exact ha
      by_cases hf1 : fk = 19
      ·have f1 : (((fk : Nat) : Int) == 19) = true := by rw [hf1]; rfl
       obtain rfl : q = true := by rw [<- hq.out]; simp [Ff, ha, hfk.out, hf1]
       clear hf1 ha;go_wp2_with fail;go_ret;exact ⟨rfl, Ab HB.out (Aa wr _)⟩
      ·have f1 : (((fk : Nat) : Int) == 19) = false := by rw [beq_eq_false_iff_ne]; omega
       have hb : (ks.map srt == [116, 101]) = false := by rw [beq_eq_false_iff_ne, eq_of_beq ha]; decide
       have bb : (T.toList == [116, 101]) = false := by rw [hTl.out]; exact hb
       obtain rfl : q = false := by rw [<- hq.out]; simp [Ff, ha, hfk.out, hf1, hb]
       clear hf1 ha hb;go_wp2_with fail;go_ret
       exact ⟨rfl, Ab HB.out (Aa wr _)⟩
     | false =>
      have a : (T.toList == [116]) = false := by rw [hTl.out]; exact ha
      cases hc : (ks.map srt == [116, 101]) with
      | true =>
       have c : (T.toList == [116, 101]) = true := by rw [hTl.out]; exact hc
       by_cases hf1 : fk = 20
       ·have f1 : (((fk : Nat) : Int) == 20) = true := by rw [hf1]; rfl
        obtain rfl : q = true := by rw [<- hq.out]; simp [Ff, ha, hc, hfk.out, hf1]
        clear hf1 ha hc;go_wp2_with fail;go_ret;exact ⟨rfl, Ab HB.out (Aa wr _)⟩
       ·have f1 : (((fk : Nat) : Int) == 20) = false := by rw [beq_eq_false_iff_ne]; omega
        obtain rfl : q = false := by rw [<- hq.out]; simp [Ff, ha, hc, hfk.out, hf1]
        clear hf1 ha hc;go_wp2_with fail;go_ret
        exact ⟨rfl, Ab HB.out (Aa wr _)⟩
      | false =>
       have c : (T.toList == [116, 101]) = false := by rw [hTl.out]; exact hc
       obtain rfl : q = false := by rw [<- hq.out]; simp [Ff, ha, hc]
       clear ha hc;go_wp2_with fail;go_ret;exact ⟨rfl, Ab HB.out (Aa wr _)⟩
end
section
open Go.RowKit Go.Sort
theorem Ix (kk : Nat) (h : kk ≠ 1 ∧ kk ≠ 2 ∧ kk ≠ 3 ∧ kk ≠ 5 ∧ kk ≠ 20 ∧ kk ≠ 4 ∧ kk ≠ 6 ∧ kk ≠ 7 ∧ kk ≠ 8 ∧ kk ≠ 9 ∧ kk ≠ 10 ∧ kk ≠ 11 ∧ kk ≠ 12 ∧ kk ≠ 29 ∧ kk ≠ 30 ∧ kk ≠ 13 ∧ kk ≠ 27 ∧ kk ≠ 28 ∧ kk ≠ 31 ∧ kk ≠ 32) {root : Bool} {num : Int} {ks : List Nat} : Ff root kk num ks = (ks.map srt == [] && (decide (14 <= kk) && decide (kk <= 26))) := by
 obtain ⟨h1, h2, h3, h5, h20, h4, h6, h7, h8, h9, h10, h11, h12, h29, h30, h13, h27, h28, h31, h32⟩ := h;unfold Ff;split <;> first | rfl | omega
theorem c4c (kk : Nat) (hK : Hid (kk = 4 ∨ (kk ≠ 1 ∧ kk ≠ 2 ∧ kk ≠ 3 ∧ kk ≠ 5 ∧ kk ≠ 20 ∧ kk ≠ 4 ∧ kk ≠ 6 ∧ kk ≠ 7 ∧ kk ≠ 8 ∧ kk ≠ 9 ∧ kk ≠ 10 ∧ kk ≠ 11 ∧ kk ≠ 12 ∧ kk ≠ 29 ∧ kk ≠ 30 ∧ kk ≠ 13 ∧ kk ≠ 27 ∧ kk ≠ 28 ∧ kk ≠ 31 ∧ kk ≠ 32))) (b o n cap : Nat) (l : List Nd) (w : World) (hn : Hid (l.length = n)) (hl : n <= 1000000) (hr : Hid (Qv w b o l)) (k : Nat) (hk : k < n) (hok : Hid (Ok (sz l) n k)) (xs : List Nat) (hxs : Hid (A7 (sz l) k = xs)) (hxn : Hid (∀ x, x ∈ xs -> x < n)) (hxl : xs.length <= 1000000)
  (num : Int) (hnum : Bg num) (hkd : Hid (Ai l k = kk)) (hnm : Hid ((nd l k).num = num)) (q : Bool) (hq : Hid (Ff (decide (k = 0)) kk num (xs.map (Ai l)) = q)) :
  Calls prog 27 #[.slice (some ⟨b, o, none⟩) n cap, .int .i64 (k : Nat)] w fun e w' => e = .returned (.bool q) ∧ Below w.heap.size w w' := by
 have HC0 := zz (fun w2 (h : Below w.heap.size w w2) => show w2.cell? ⟨b, o + k * 6, none⟩ = some (.int .u8 (kk : Nat)) by
  rw [((hr.out.carry h) k (by rw [hn.out]; exact hk)).1.c0, show (nd l k).kind = kk from hkd.out])
 have HC4 := zz (fun w2 (h : Below w.heap.size w w2) => show w2.cell? ⟨b, o + k * 6 + 4, none⟩ = some (.int .i64 num) by
  rw [((hr.out.carry h) k (by rw [hn.out]; exact hk)).1.c4, hnm.out])
 have HKI := zz (Mb b o n cap l w hn hl hr k hk hok xs hxs);clear hkd hnm;go_enter func27, ntmps27;go_wp2_with fail;refine HKI.out.mono ?_;rintro e w1 ⟨v, rfl, hown, hb1⟩;obtain ⟨a', cap', rfl, hcell⟩ := Mg hown;replace hcell := zz hcell;replace hb1 := zz hb1;clear hown HKI;go_wp2_with fail
 go_loopw [6, 17] (fun v j wr => b2l l xs w1 v j wr) (fun _ j _ => xs.length - (intOf j).toNat)
 case atStart => exact ⟨0, Nat.zero_le _, rfl, Sf [] rfl (Nat.le_refl _) 0 rfl (by decide), Aa _ _⟩
 case round =>
  obtain ⟨i, hi, rfl, ho, hbel⟩ := hrel;have hsz := hbel.size;by_cases hlt : i < xs.length
  ·obtain ⟨g, rfl, _, hc⟩ := hcell.out i hlt;have hxm := hxn.out _ (Jb hlt);obtain ⟨x, hx⟩ : ∃ x, xs.getD i 0 = x := ⟨_, rfl⟩;rw [hx] at hc hxm;have hc' := Ac hbel hc;obtain ⟨hat, hwf⟩ := (hr.out.carry (Ab hb1.out hbel)) x (by rw [hn.out]; exact hxm);obtain ⟨c0, c1, c2, c3, c4, c5⟩ := hat;obtain ⟨kd, ln, cl, s, nm, tx, hN⟩ : ∃ kd ln cl s nm tx, nd l x = ⟨kd, ln, cl, s, nm, tx⟩ := ⟨_, _, _, _, _, _, rfl⟩;rw [hN] at c0 c1 c2 c3 c4 c5;simp only at c0 c1 c2 c3 c4 c5;have hkk : srt (Ai l (xs.getD i 0)) = srt kd := by rw [hx, Ai, hN]
   replace hkk := zz hkk;have HB := zz hbel;replace ho := zz ho;clear hc hN hx hwf hbel;go_wp2_with fail;refine (R7 ⟨kd, ln, cl, s, nm, tx⟩ _).mono ?_;rintro e w2 ⟨rfl, hb2⟩;replace ho := zz (Fx ho.out hb2);have hsz2 := hb2.size;replace hb2 := zz (Ab HB.out hb2);clear HB;have hlen : ((xs.take i).map fun x => srt (Ai l x)).length + 1 <= 100000000 := by simp; omega
   go_wp2_with (at_builtin; refine Cd rfl _ _ rfl w1.heap.size u6 _ [srt kd] 1 rfl rfl rfl rfl ho.out (by omega) hlen ?_; intro v2 w3 ho2 hb3; replace ho2 := zz ho2; replace hb3 := zz (hb2.out.trans hb3))
   go_roundw
   case rel => exact b2l.step (wr := wr) hlt (by go_num) (by rw [hkk.out]; exact ho2.out) hb3.out
   case measure => simp [intOf]; omega
  ·have hil : i = xs.length := by omega
   subst hil;rw [List.take_length] at ho;have htx := Kv ho;have hS : (xs.map fun x => srt (Ai l x)) = (xs.map (Ai l)).map srt := by simp
   rw [hS] at htx;have HC0' := HC0.out wr (Ab hb1.out hbel);have HC4' := HC4.out wr (Ab hb1.out hbel);have HB := zz (Ab hb1.out hbel);have hHd : Hid ((xs.map (Ai l)).headD 0 = (if xs.length = 0 then 0 else Ai l (xs.getD 0 0))) := zz (by cases xs <;> rfl);obtain ⟨ks, hks⟩ : ∃ ks, xs.map (Ai l) = ks := ⟨_, rfl⟩;have hkl : ks.length = xs.length := by rw [<- hks, List.length_map]
   rw [hks] at htx hHd hq;replace hkl := zz hkl;obtain ⟨T, hT⟩ : ∃ T, bs (ks.map srt) = T := ⟨_, rfl⟩;rw [hT] at htx;have hTl : T.toList = ks.map srt := by rw [ByteArray.toList_eq, <- hT, B9]
   replace hTl := zz hTl;have hTz : T.size = xs.length := by rw [<- hT, Ib, List.length_map, hkl.out]
   replace hTz := zz hTz;obtain ⟨fk, hfk⟩ : ∃ fk, hdK ks = fk := ⟨_, rfl⟩;have hfk0 := hHd.out;rw [show ks.headD 0 = fk from hfk] at hfk0;clear hS hks hHd hlt ho;by_cases hx0 : xs.length = 0
   ·rw [if_pos hx0] at hfk0;subst hfk0;have e0 : ¬ (0 : Int) < (xs.length : Int) := by omega
    rw [hx0] at hTz;have d0 := fun O => Ae HC0' O
    have d4 := fun O => Ae HC4' O
    replace hT := zz hT;replace hfk := zz hfk;clear HC0' HC4' hbel;rcases hK.out with rfl | HK
    ·have g1 : decide ((2 : Int) <= (T.size : Int)) = false := by rw [hTz.out]; rfl
     obtain rfl : q = false := by rw [<- hq.out]; simp [Ff, hkl.out, hx0]
     go_wp2_with fail;go_ret;exact ⟨rfl, Ab HB.out (Aa wr _)⟩
    ·have z1 : ((kk : Int) == 1) = false := by have := HK; rw [beq_eq_false_iff_ne]; omega
     have z2 : ((kk : Int) == 2) = false := by have := HK; rw [beq_eq_false_iff_ne]; omega
     have z3 : ((kk : Int) == 3) = false := by have := HK; rw [beq_eq_false_iff_ne]; omega
     have z5 : ((kk : Int) == 5) = false := by have := HK; rw [beq_eq_false_iff_ne]; omega
     have z20 : ((kk : Int) == 20) = false := by have := HK; rw [beq_eq_false_iff_ne]; omega
     have z4 : ((kk : Int) == 4) = false := by have := HK; rw [beq_eq_false_iff_ne]; omega
     have z6 : ((kk : Int) == 6) = false := by have := HK; rw [beq_eq_false_iff_ne]; omega
     have z7 : ((kk : Int) == 7) = false := by have := HK; rw [beq_eq_false_iff_ne]; omega
     have z8 : ((kk : Int) == 8) = false := by have := HK; rw [beq_eq_false_iff_ne]; omega
     have z9 : ((kk : Int) == 9) = false := by have := HK; rw [beq_eq_false_iff_ne]; omega
     have z10 : ((kk : Int) == 10) = false := by have := HK; rw [beq_eq_false_iff_ne]; omega
     have z11 : ((kk : Int) == 11) = false := by have := HK; rw [beq_eq_false_iff_ne]; omega
     have z12 : ((kk : Int) == 12) = false := by have := HK; rw [beq_eq_false_iff_ne]; omega
     have z29 : ((kk : Int) == 29) = false := by have := HK; rw [beq_eq_false_iff_ne]; omega
     have z30 : ((kk : Int) == 30) = false := by have := HK; rw [beq_eq_false_iff_ne]; omega
     have z13 : ((kk : Int) == 13) = false := by have := HK; rw [beq_eq_false_iff_ne]; omega
     have z27 : ((kk : Int) == 27) = false := by have := HK; rw [beq_eq_false_iff_ne]; omega
     have z28 : ((kk : Int) == 28) = false := by have := HK; rw [beq_eq_false_iff_ne]; omega
     have z31 : ((kk : Int) == 31) = false := by have := HK; rw [beq_eq_false_iff_ne]; omega
     have z32 : ((kk : Int) == 32) = false := by have := HK; rw [beq_eq_false_iff_ne]; omega
     cases ha : (ks.map srt == []) with
     | true =>
      have a : (T.toList == []) = true := by rw [hTl.out]; exact ha
      have ae : T.toList.isEmpty = true := by rw [hTl.out]; revert ha; cases ks.map srt <;> simp
      by_cases b1 : 14 <= kk
      ·have g1 : (14 : Int) <= (kk : Int) := by omega
       have t3 : decide ((kk : Int) <= 26) = q := by rw [<- hq.out, Ix kk HK, ha, decide_eq_true b1, Bool.true_and, Bool.true_and, decide_eq_decide]; omega
       clear ha b1;go_wp2_with fail;go_ret;exact ⟨rfl, Ab HB.out (Aa wr _)⟩
      ·have g1 : decide ((14 : Int) <= (kk : Int)) = false := by simp; omega
       obtain rfl : q = false := by rw [<- hq.out, Ix kk HK, decide_eq_false b1]; simp
       clear ha b1;go_wp2_with fail;go_ret
       exact ⟨rfl, Ab HB.out (Aa wr _)⟩
     | false =>
      have a : (T.toList == []) = false := by rw [hTl.out]; exact ha
      have ae : T.toList.isEmpty = false := by rw [hTl.out]; revert ha; cases ks.map srt <;> simp
      obtain rfl : q = false := by rw [<- hq.out, Ix kk HK, ha]; rfl
      clear ha;go_wp2_with fail;go_ret;exact ⟨rfl, Ab HB.out (Aa wr _)⟩
   ·rw [if_neg hx0] at hfk0;obtain ⟨g, rfl, _, hc⟩ := hcell.out 0 (by omega);have hxm := hxn.out _ (Jb (x := xs) (k := 0) (by omega));obtain ⟨x, hx⟩ : ∃ x, xs.getD 0 0 = x := ⟨_, rfl⟩;rw [hx] at hc hxm hfk0;have hc' := Ac hbel hc;obtain ⟨hat, hwf⟩ := (hr.out.carry HB.out) x (by rw [hn.out]; exact hxm);obtain ⟨c0, c1, c2, c3, c4, c5⟩ := hat;obtain ⟨kd, ln, cl, s, nm, tx, hN⟩ : ∃ kd ln cl s nm tx, nd l x = ⟨kd, ln, cl, s, nm, tx⟩ := ⟨_, _, _, _, _, _, rfl⟩;rw [hN] at c0 c1 c2 c3 c4 c5;simp only at c0 c1 c2 c3 c4 c5;obtain rfl : fk = kd := by rw [hfk0, Ai, hN]
    have hx1 : 0 < xs.length := by omega
    have e0 : (0 : Int) < (xs.length : Int) := by omega
    replace hT := zz hT;replace hfk := zz hfk;have d0 := fun O => Ae HC0' O
    have d4 := fun O => Ae HC4' O
    replace hc' := fun O => Ae hc' O
    replace c0 := fun O => Ae c0 O
    replace c1 := fun O => Ae c1 O
    replace c2 := fun O => Ae c2 O
    replace c3 := fun O => Ae c3 O
    replace c4 := fun O => Ae c4 O
    replace c5 := fun O => Ae c5 O
    clear hc hN hx hfk0 hwf hx0 HC0' HC4' hbel;rcases hK.out with rfl | HK
    ·obtain ⟨Z, hZ⟩ : ∃ Z, T.size = Z := ⟨_, rfl⟩;have hZx : Z = xs.length := by rw [<- hZ]; exact hTz.out
     have hkl2 : ks.length = Z := by rw [hkl.out, hZx]
     have hqq := hq.out;rw [Ff, hkl2] at hqq;by_cases h2 : 2 <= Z
     ·obtain ⟨m, hm⟩ : ∃ m, Z = m + 2 := ⟨Z - 2, by omega⟩;have g1 : (2 : Int) <= (T.size : Int) := by omega
      have r2 : (T.size : Int) - 2 = (m : Nat) := by omega
      have r1 : (T.size : Int) - 1 = ((m + 1 : Nat) : Int) := by omega
      have i1 : m < T.size := by omega
      have i2 : m + 1 < T.size := by omega
      have hml : m <= 1000000 := by omega
      rw [decide_eq_true h2, Bool.true_and, show (Z : Int) - 2 = (m : Nat) by omega, show Z - 2 = m by omega, show Z - 1 = m + 1 by omega] at hqq;have hX : (T.extract 0 m).data.toList = (ks.map srt).take m := by rw [E8, <- ByteArray.toList_eq, hTl.out]; simp
      have hA1 : (ks.map srt).getD m 0 = T[m] := by
       have := Ol T m i1;rw [<- ByteArray.toList_eq, hTl.out] at this;simp [List.getD, this]
      have hA2 : (ks.map srt).getD (m + 1) 0 = T[m + 1] := by
       have := Ol T (m + 1) i2;rw [<- ByteArray.toList_eq, hTl.out] at this;simp [List.getD, this]
      rw [hA1, hA2] at hqq;have hXs : (T.extract 0 m).size <= 9000000000 := by rw [<- Ad, hX, List.length_take]; omega
      clear hA1 hA2 hm h2 hkl2 hZx hZ;by_cases hnm : (m : Int) = num
      ·have g2 : ((m : Int) == num) = true := by rw [hnm]; simp
       rw [g2, Bool.true_and] at hqq;have HO := zz (fun w q (h : a67 112 ((ks.map srt).take m) = q) => Gv (T.extract 0 m) 112 w q hXs (zz (by rw [hX]; exact h)));clear hX hXs hnm
       cases hall : a67 112 ((ks.map srt).take m) with
       | false =>
        obtain rfl : q = false := by rw [<- hqq, hall]; rfl
        replace hall := zz hall;clear hqq;go_wp2_with fail;refine (HO.out _ false hall.out).mono ?_;rintro e w9 ⟨rfl, rfl⟩;go_wp2_with fail;go_ret
        exact ⟨rfl, Ab HB.out (Aa wr _)⟩
       | true =>
        rw [hall, Bool.true_and] at hqq;replace hall := zz hall
        have ez : ∀ (c : UInt8) (z : Nat), z < 256 -> (c == UInt8.ofNat z) = ((c.toNat : Int) == (z : Int)) := fun c z hz => by
         rw [Bool.eq_iff_iff, beq_iff_eq, beq_iff_eq];constructor
         ·intro h; rw [h, UInt8.toNat_ofNat_of_lt' (by simpa using hz)]
         ·intro h; exact b5v hz (by rw [h]; simp)
        have z1 := ez T[m] 116 (by decide);have z2 := ez T[m] 48 (by decide);have z3 := ez T[m + 1] 98 (by decide);rw [show (T[m] == 116) = ((T[m].toNat : Int) == 116) from z1, show (T[m] == 48) = ((T[m].toNat : Int) == 48) from z2, show (T[m + 1] == 98) = ((T[m + 1].toNat : Int) == 98) from z3] at hqq;clear z1 z2 z3 ez
        cases ha : ((T[m].toNat : Int) == 116) with
        | true =>
         rw [ha, Bool.true_or, Bool.true_and] at hqq;go_wp2_with fail;refine (HO.out _ true hall.out).mono ?_;rintro e w9 ⟨rfl, rfl⟩;go_wp2_with fail;go_ret
         exact ⟨rfl, Ab HB.out (Aa wr _)⟩
        | false =>
         rw [ha, Bool.false_or] at hqq
         cases hb : ((T[m].toNat : Int) == 48) with
         | true =>
          rw [hb, Bool.true_and] at hqq;go_wp2_with fail;refine (HO.out _ true hall.out).mono ?_;rintro e w9 ⟨rfl, rfl⟩;go_wp2_with fail;go_ret
          exact ⟨rfl, Ab HB.out (Aa wr _)⟩
         | false =>
          rw [hb, Bool.false_and] at hqq;subst hqq;go_wp2_with fail;refine (HO.out _ true hall.out).mono ?_;rintro e w9 ⟨rfl, rfl⟩;go_wp2_with fail;go_ret;exact ⟨rfl, Ab HB.out (Aa wr _)⟩
      ·have g2 : ((m : Int) == num) = false := by rw [beq_eq_false_iff_ne]; exact hnm
       rw [g2, Bool.false_and] at hqq;subst hqq;clear hX hXs hnm;go_wp2_with fail;go_ret;exact ⟨rfl, Ab HB.out (Aa wr _)⟩
     ·have g1 : decide ((2 : Int) <= (T.size : Int)) = false := by simp; omega
      rw [decide_eq_false h2, Bool.false_and] at hqq;subst hqq;clear h2 hZ hZx hkl2;go_wp2_with fail;go_ret;exact ⟨rfl, Ab HB.out (Aa wr _)⟩
    ·have z1 : ((kk : Int) == 1) = false := by have := HK; rw [beq_eq_false_iff_ne]; omega
     have z2 : ((kk : Int) == 2) = false := by have := HK; rw [beq_eq_false_iff_ne]; omega
     have z3 : ((kk : Int) == 3) = false := by have := HK; rw [beq_eq_false_iff_ne]; omega
     have z5 : ((kk : Int) == 5) = false := by have := HK; rw [beq_eq_false_iff_ne]; omega
     have z20 : ((kk : Int) == 20) = false := by have := HK; rw [beq_eq_false_iff_ne]; omega
     have z4 : ((kk : Int) == 4) = false := by have := HK; rw [beq_eq_false_iff_ne]; omega
     have z6 : ((kk : Int) == 6) = false := by have := HK; rw [beq_eq_false_iff_ne]; omega
     have z7 : ((kk : Int) == 7) = false := by have := HK; rw [beq_eq_false_iff_ne]; omega
     have z8 : ((kk : Int) == 8) = false := by have := HK; rw [beq_eq_false_iff_ne]; omega
     have z9 : ((kk : Int) == 9) = false := by have := HK; rw [beq_eq_false_iff_ne]; omega
     have z10 : ((kk : Int) == 10) = false := by have := HK; rw [beq_eq_false_iff_ne]; omega
     have z11 : ((kk : Int) == 11) = false := by have := HK; rw [beq_eq_false_iff_ne]; omega
     have z12 : ((kk : Int) == 12) = false := by have := HK; rw [beq_eq_false_iff_ne]; omega
     have z29 : ((kk : Int) == 29) = false := by have := HK; rw [beq_eq_false_iff_ne]; omega
     have z30 : ((kk : Int) == 30) = false := by have := HK; rw [beq_eq_false_iff_ne]; omega
     have z13 : ((kk : Int) == 13) = false := by have := HK; rw [beq_eq_false_iff_ne]; omega
     have z27 : ((kk : Int) == 27) = false := by have := HK; rw [beq_eq_false_iff_ne]; omega
     have z28 : ((kk : Int) == 28) = false := by have := HK; rw [beq_eq_false_iff_ne]; omega
     have z31 : ((kk : Int) == 31) = false := by have := HK; rw [beq_eq_false_iff_ne]; omega
     have z32 : ((kk : Int) == 32) = false := by have := HK; rw [beq_eq_false_iff_ne]; omega
     cases ha : (ks.map srt == []) with
     | true =>
      have a : (T.toList == []) = true := by rw [hTl.out]; exact ha
      have ae : T.toList.isEmpty = true := by rw [hTl.out]; revert ha; cases ks.map srt <;> simp
      by_cases b1 : 14 <= kk
      ·have g1 : (14 : Int) <= (kk : Int) := by omega
       have t3 : decide ((kk : Int) <= 26) = q := by rw [<- hq.out, Ix kk HK, ha, decide_eq_true b1, Bool.true_and, Bool.true_and, decide_eq_decide]; omega
       clear ha b1;go_wp2_with fail;go_ret;exact ⟨rfl, Ab HB.out (Aa wr _)⟩
      ·have g1 : decide ((14 : Int) <= (kk : Int)) = false := by simp; omega
       obtain rfl : q = false := by rw [<- hq.out, Ix kk HK, decide_eq_false b1]; simp
       clear ha b1;go_wp2_with fail;go_ret
       exact ⟨rfl, Ab HB.out (Aa wr _)⟩
     | false =>
      have a : (T.toList == []) = false := by rw [hTl.out]; exact ha
      have ae : T.toList.isEmpty = false := by rw [hTl.out]; revert ha; cases ks.map srt <;> simp
      obtain rfl : q = false := by rw [<- hq.out, Ix kk HK, ha]; rfl
      clear ha;go_wp2_with fail;go_ret;exact ⟨rfl, Ab HB.out (Aa wr _)⟩
end
section
theorem Et (c : Nat) : (c = 14 ∧ srt c = 48) ∨ (15 <= c ∧ c <= 20 ∧ srt c = 116) ∨ (21 <= c ∧ c <= 32 ∧ srt c = 101) ∨ (7 <= c ∧ c <= 13 ∧ srt c = 115) ∨ (c = 6 ∧ srt c = 98) ∨ (c = 5 ∧ srt c = 112) ∨ (c = 3 ∧ srt c = 102) ∨ ((c = 2 ∨ c = 4) ∧ srt c = 100) ∨ ((c < 2 ∨ 32 < c) ∧ srt c = 45) := by
 unfold srt
 repeat' split
 all_goals (first | (simp; done) | (simp; omega))
theorem b6m (c : Nat) : (srt c == 116) = Ck c := by
 rw [Bool.eq_iff_iff, beq_iff_eq]; unfold Ck; rw [decide_eq_true_eq];rcases Et c with ⟨h, e⟩ | ⟨h, h', e⟩ | ⟨h, h', e⟩ | ⟨h, h', e⟩ | ⟨h, e⟩ | ⟨h, e⟩ | ⟨h, e⟩ | ⟨h, e⟩ | ⟨h, e⟩ <;> rw [e] <;> simp <;> omega
theorem a1u (c : Nat) : (srt c == 101) = Am c := by
 rw [Bool.eq_iff_iff, beq_iff_eq]; unfold Am; rw [decide_eq_true_eq];rcases Et c with ⟨h, e⟩ | ⟨h, h', e⟩ | ⟨h, h', e⟩ | ⟨h, h', e⟩ | ⟨h, e⟩ | ⟨h, e⟩ | ⟨h, e⟩ | ⟨h, e⟩ | ⟨h, e⟩ <;> rw [e] <;> simp <;> omega
theorem s98 (c : Nat) : (srt c == 98) = [6].contains c := by
 rw [Bool.eq_iff_iff, beq_iff_eq, List.contains_iff_mem, List.mem_singleton];rcases Et c with ⟨h, e⟩ | ⟨h, h', e⟩ | ⟨h, h', e⟩ | ⟨h, h', e⟩ | ⟨h, e⟩ | ⟨h, e⟩ | ⟨h, e⟩ | ⟨h, e⟩ | ⟨h, e⟩ <;> rw [e] <;> simp <;> omega
theorem c3v (c : Nat) : (srt c == 116 || srt c == 48) = Fi c := by
 rw [Bool.eq_iff_iff, Bool.or_eq_true, beq_iff_eq, beq_iff_eq]; unfold Fi; rw [decide_eq_true_eq];rcases Et c with ⟨h, e⟩ | ⟨h, h', e⟩ | ⟨h, h', e⟩ | ⟨h, h', e⟩ | ⟨h, e⟩ | ⟨h, e⟩ | ⟨h, e⟩ | ⟨h, e⟩ | ⟨h, e⟩ <;> rw [e] <;> simp <;> omega
theorem Mz (z : Nat) (p : Nat -> Bool) (hp : ∀ c, decide ((srt c).toNat = z) = p c) (ks : List Nat) : a67 z (ks.map srt) = ks.all p := by
 unfold a67;rw [List.all_map];congr 1;funext c;exact hp c
theorem c4t (c : Nat) : decide ((srt c).toNat = 115) = Dt c := by
 unfold Dt; rw [decide_eq_decide];rcases Et c with ⟨h, e⟩ | ⟨h, h', e⟩ | ⟨h, h', e⟩ | ⟨h, h', e⟩ | ⟨h, e⟩ | ⟨h, e⟩ | ⟨h, e⟩ | ⟨h, e⟩ | ⟨h, e⟩ <;> rw [e] <;> simp <;> omega
theorem c4w (c : Nat) : decide ((srt c).toNat = 101) = Am c := by
 unfold Am; rw [decide_eq_decide];rcases Et c with ⟨h, e⟩ | ⟨h, h', e⟩ | ⟨h, h', e⟩ | ⟨h, h', e⟩ | ⟨h, e⟩ | ⟨h, e⟩ | ⟨h, e⟩ | ⟨h, e⟩ | ⟨h, e⟩ <;> rw [e] <;> simp <;> omega
theorem c4x (c : Nat) : decide ((srt c).toNat = 100) = [2, 4].contains c := by
 rw [Bool.eq_iff_iff, decide_eq_true_eq, List.contains_iff_mem];simp only [List.mem_cons, List.not_mem_nil, or_false];rcases Et c with ⟨h, e⟩ | ⟨h, h', e⟩ | ⟨h, h', e⟩ | ⟨h, h', e⟩ | ⟨h, e⟩ | ⟨h, e⟩ | ⟨h, e⟩ | ⟨h, e⟩ | ⟨h, e⟩ <;> rw [e] <;> simp <;> omega
theorem c4v (c : Nat) : decide ((srt c).toNat = 102) = [3].contains c := by
 rw [Bool.eq_iff_iff, decide_eq_true_eq, List.contains_iff_mem, List.mem_singleton];rcases Et c with ⟨h, e⟩ | ⟨h, h', e⟩ | ⟨h, h', e⟩ | ⟨h, h', e⟩ | ⟨h, e⟩ | ⟨h, e⟩ | ⟨h, e⟩ | ⟨h, e⟩ | ⟨h, e⟩ <;> rw [e] <;> simp <;> omega
theorem c4u (c : Nat) : decide ((srt c).toNat = 112) = [5].contains c := by
 rw [Bool.eq_iff_iff, decide_eq_true_eq, List.contains_iff_mem, List.mem_singleton];rcases Et c with ⟨h, e⟩ | ⟨h, h', e⟩ | ⟨h, h', e⟩ | ⟨h, h', e⟩ | ⟨h, e⟩ | ⟨h, e⟩ | ⟨h, e⟩ | ⟨h, e⟩ | ⟨h, e⟩ <;> rw [e] <;> simp <;> omega
theorem b9y (ks : List Nat) : Ak [] ks = ks.isEmpty := by cases ks <;> simp [Ak]
theorem Sv (p : Nat -> Bool) (ks : List Nat) : Ak [p] ks = match ks with | [a] => p a | _ => false := by
 match ks with
 | [] => simp [Ak]
 | [a] => simp [Ak, List.range_succ]
 | a :: b :: t => simp [Ak]
theorem Ve (p p' : Nat -> Bool) (ks : List Nat) : Ak [p, p'] ks = match ks with | [a, b] => p a && p' b | _ => false := by
 match ks with
 | [] => simp [Ak]
 | [a] => simp [Ak]
 | [a, b] => simp [Ak, List.range_succ]
 | a :: b :: c :: t => simp [Ak]
theorem c2j (p p' p'' : Nat -> Bool) (ks : List Nat) : Ak [p, p', p''] ks = match ks with | [a, b, c] => p a && (p' b && p'' c) | _ => false := by
 match ks with
 | [] => simp [Ak]
 | [a] => simp [Ak]
 | [a, b] => simp [Ak]
 | [a, b, c] => simp [Ak, List.range_succ, Bool.and_assoc]
 | a :: b :: c :: d :: t => simp [Ak]
theorem a9r (x : UInt8) (ks : List Nat) : (ks.map srt == [x]) = match ks with | [a] => srt a == x | _ => false := by
 match ks with
 | [] => rfl
 | [a] => simp
 | a :: b :: t => simp
theorem b4q (x y : UInt8) (ks : List Nat) : (ks.map srt == [x, y]) = match ks with | [a, b] => (srt a == x) && (srt b == y) | _ => false := by
 match ks with
 | [] => rfl
 | [a] => simp
 | [a, b] => simp
 | a :: b :: c :: t => simp
theorem c37 (x y z : UInt8) (ks : List Nat) : (ks.map srt == [x, y, z]) = match ks with | [a, b, c] => (srt a == x) && ((srt b == y) && (srt c == z)) | _ => false := by
 match ks with
 | [] => rfl
 | [a] => simp
 | [a, b] => simp
 | [a, b, c] => simp
 | a :: b :: c :: d :: t => simp
theorem c3a (ks : List Nat) : (ks.map srt == []) = ks.isEmpty := by cases ks <;> rfl
theorem c4f (root : Bool) (num : Int) (ks : List Nat) : Ff root 4 num ks = Hl 4 num ks := by
 show (decide (2 <= ks.length) && (((ks.length : Int) - 2 == num) && (a67 112 ((ks.map srt).take (ks.length - 2)) && (((ks.map srt).getD (ks.length - 2) 0 == 116 || (ks.map srt).getD (ks.length - 2) 0 == 48) && (ks.map srt).getD (ks.length - 1) 0 == 98)))) = Iu num [5].contains (Ak [Fi, [6].contains]) ks;unfold Iu;by_cases h2 : 2 <= ks.length
 ·obtain ⟨m, hm⟩ : ∃ m, ks.length = m + 2 := ⟨ks.length - 2, by omega⟩
  have hd : ∃ a b, ks = ks.take m ++ [a, b] := by
   have hl : (ks.drop m).length = 2 := by rw [List.length_drop, hm]; omega
   match h : ks.drop m, hl with
   | [a, b], _ => exact ⟨a, b, by rw [<- h, List.take_append_drop]⟩
  obtain ⟨a, b, hab⟩ := hd;obtain ⟨pre, hpre⟩ : ∃ pre, ks.take m = pre := ⟨_, rfl⟩;have hpl : pre.length = m := by rw [<- hpre, List.length_take]; omega
  rw [hpre] at hab;subst hab;clear hpre;have e1 : (pre ++ [a, b]).length = m + 2 := hm;rw [e1, decide_eq_true (by omega : 2 <= m + 2), Bool.true_and, show m + 2 - 2 = m by omega, show m + 2 - 1 = m + 1 by omega]
  have g1 : ((pre ++ [a, b]).map srt).getD m 0 = srt a := by
   rw [List.map_append]; simp [List.getD, List.getElem?_append_right, hpl]
  have g2 : ((pre ++ [a, b]).map srt).getD (m + 1) 0 = srt b := by
   rw [List.map_append]; simp [List.getD, List.getElem?_append_right, hpl]
  have g3 : ((pre ++ [a, b]).map srt).take m = pre.map srt := by
   rw [List.map_append, List.take_append_of_le_length (by simp [hpl]), List.take_of_length_le (by simp [hpl])]
  rw [g1, g2, g3, c3v, s98, Mz 112 _ c4u];by_cases hnum : num = m
  ·subst hnum;rw [show (((m + 2 : Nat) : Int) - 2 == (m : Int)) = true by rw [beq_iff_eq]; omega, Bool.true_and, show decide (0 <= (m : Int) ∧ (m : Int) <= ((m + 2 : Nat) : Int)) = true by simp; omega, Bool.true_and, Int.toNat_natCast];rw [List.take_append_of_le_length (by omega), List.take_of_length_le (by omega), List.drop_append_of_le_length (by omega), List.drop_of_length_le (by omega), List.nil_append, Ve]
  ·rw [show (((m + 2 : Nat) : Int) - 2 == num) = false by rw [beq_eq_false_iff_ne]; omega, Bool.false_and];by_cases hr : 0 <= num ∧ num <= ((m + 2 : Nat) : Int)
   ·have : Ak [Fi, [6].contains] ((pre ++ [a, b]).drop num.toNat) = false := by
     unfold Ak;rw [decide_eq_false, Bool.false_and];rw [List.length_drop, e1];show ¬ _ = 2;omega
    rw [this]; simp
   ·rw [decide_eq_false hr, Bool.false_and]
 ·rw [decide_eq_false h2, Bool.false_and]
  have : Ak [Fi, [6].contains] (ks.drop num.toNat) = false := by
   unfold Ak;rw [decide_eq_false, Bool.false_and];rw [List.length_drop];show ¬ _ = 2;omega
  rw [this]; simp
theorem Xv (root : Bool) (k : Nat) (num : Int) (ks : List Nat) (h1 : 1 <= k) (h2 : k <= 32) (hr : k = 1 -> root = true) : Ff root k num ks = Hl k num ks := by
 have e : ∀ k, (14 <= k ∧ k <= 19) ∨ (21 <= k ∧ k <= 26) -> Ff root k num ks = (ks.map srt == [] && (decide (14 <= k) && decide (k <= 26))) := by
  intro k hk;unfold Ff;split <;> first | rfl | omega
 have e' : ∀ k, (14 <= k ∧ k <= 19) ∨ (21 <= k ∧ k <= 26) -> Hl k num ks = Ak [] ks := by
  intro k hk;unfold Hl;split <;> first | rfl | omega
 by_cases hd : (14 <= k ∧ k <= 19) ∨ (21 <= k ∧ k <= 26)
 ·rw [e k hd, e' k hd, c3a, b9y, show decide (14 <= k) = true by simp; omega, show decide (k <= 26) = true by simp; omega];simp
 ·have hk : k = 1 ∨ k = 2 ∨ k = 3 ∨ k = 4 ∨ k = 5 ∨ k = 6 ∨ k = 7 ∨ k = 8 ∨ k = 9 ∨ k = 10 ∨ k = 11 ∨ k = 12 ∨ k = 13 ∨ k = 20 ∨ k = 27 ∨ k = 28 ∨ k = 29 ∨ k = 30 ∨ k = 31 ∨ k = 32 := by omega
  clear e e' hd h1 h2;rcases hk with rfl | rfl | rfl | rfl | rfl | rfl | rfl | rfl | rfl | rfl | rfl | rfl | rfl | rfl | rfl | rfl | rfl | rfl | rfl | rfl
  ·rw [hr rfl]; simp only [Ff, Hl, Bool.true_and]; exact Mz 100 _ c4x ks
  ·exact Mz 102 _ c4v ks
  ·simp only [Ff, Hl]; rw [a9r, Sv]; simp only [b6m]
  ·exact c4f root num ks
  ·simp only [Ff, Hl]; rw [a9r, Sv]; simp only [b6m]
  ·exact Mz 115 _ c4t ks
  ·simp only [Ff, Hl]; rw [b4q, Ve]; simp only [b6m, a1u]
  ·simp only [Ff, Hl]; rw [b4q, Ve]
   match ks with
   | [] => rfl
   | [a] => rfl
   | [a, b] =>
    simp only [a1u, hdK, List.headD_cons];rw [Bool.eq_iff_iff];simp [Am]
    omega
   | a :: b :: c :: t => rfl
  ·simp only [Ff, Hl]; rw [b4q, Ve, c37, c2j]; simp only [a1u, s98]
  ·simp only [Ff, Hl]; rw [b4q, Ve]; simp only [a1u, s98]
  ·simp only [Ff, Hl]; rw [c3a, b9y, a9r, Sv]; simp only [a1u]
  ·simp only [Ff, Hl]; rw [a9r, Sv]; simp only [a1u]
  ·simp only [Ff, Hl]; rw [a9r, Sv]
   match ks with
   | [] => rfl
   | [a] =>
    simp only [a1u, hdK, List.headD_cons];rw [Bool.eq_iff_iff];simp [Am]
    omega
   | a :: b :: t => rfl
  ·simp only [Ff, Hl]; rw [a9r, Sv]; simp only [b6m]
  ·exact Mz 101 _ c4w ks
  ·simp only [Ff, Hl]; rw [b4q, Ve]; simp only [a1u]
  ·simp only [Ff, Hl]; rw [a9r, Sv]; simp only [a1u]
  ·simp only [Ff, Hl]; rw [a9r, Sv]; simp only [a1u]
  ·simp only [Ff, Hl]; rw [b4q, Ve]; simp only [a1u]
  ·simp only [Ff, Hl]; rw [a9r, Sv, b4q, Ve]
   match ks with
   | [] => rfl
   | [a] =>
    simp only [b6m, hdK, List.headD_cons];rw [Bool.eq_iff_iff];simp [Ck]
    omega
   | [a, b] =>
    simp only [b6m, a1u, hdK, List.headD_cons];rw [Bool.eq_iff_iff];simp [Ck, Am]
    omega
   | a :: b :: c :: t => rfl
theorem c0j (root : Bool) (k : Nat) (num : Int) (ks : List Nat) (h : k = 0 ∨ 33 <= k) : Ff root k num ks = false := by
 have e : Ff root k num ks = (ks.map srt == [] && (decide (14 <= k) && decide (k <= 26))) := by
  unfold Ff;split <;> first | rfl | omega
 rw [e, show (decide (14 <= k) && decide (k <= 26)) = false by simp; omega, Bool.and_false]
theorem b1m {k : Nat} {num : Int} {ks : List Nat} (h : Hl k num ks = true) : ∀ c, c ∈ ks -> 2 <= c ∧ c <= 32 := by
 intro c hc;have hall : ∀ (p : Nat -> Bool) (ks : List Nat), ks.all p = true -> (∀ c, p c = true -> 2 <= c ∧ c <= 32) -> ∀ c, c ∈ ks -> 2 <= c ∧ c <= 32 := fun p ks h hp c hc => hp c (List.all_eq_true.1 h c hc)
 have hj : ∀ (ps : List (Nat -> Bool)) (ks : List Nat), Ak ps ks = true -> (∀ i, i < ps.length -> ∀ c, (ps.getD i fun _ => false) c = true -> 2 <= c ∧ c <= 32) -> ∀ c, c ∈ ks -> 2 <= c ∧ c <= 32 := by
  intro ps ks h hp c hc;unfold Ak at h;rw [Bool.and_eq_true, decide_eq_true_eq, List.all_eq_true] at h;obtain ⟨i, hi, rfl⟩ := List.getElem_of_mem hc;have := h.2 i (List.mem_range.2 (by omega));refine hp i (by omega) _ ?_;simpa [List.getD, hi] using this
 have pT : ∀ c, Ck c = true -> 2 <= c ∧ c <= 32 := fun c h => by unfold Ck at h; rw [decide_eq_true_eq] at h; omega
 have pE : ∀ c, Am c = true -> 2 <= c ∧ c <= 32 := fun c h => by unfold Am at h; rw [decide_eq_true_eq] at h; omega
 have pS : ∀ c, Dt c = true -> 2 <= c ∧ c <= 32 := fun c h => by unfold Dt at h; rw [decide_eq_true_eq] at h; omega
 have pR : ∀ c, Fi c = true -> 2 <= c ∧ c <= 32 := fun c h => by unfold Fi at h; rw [decide_eq_true_eq] at h; omega
 have pI : ∀ l : List Nat, (∀ x, x ∈ l -> 2 <= x ∧ x <= 32) -> ∀ c, l.contains c = true -> 2 <= c ∧ c <= 32 := fun l hl c h => hl c (List.contains_iff_mem.1 h)
 have q1 : ∀ p : Nat -> Bool, (∀ c, p c = true -> 2 <= c ∧ c <= 32) -> ∀ i, i < [p].length -> ∀ c, ([p].getD i fun _ => false) c = true -> 2 <= c ∧ c <= 32 := fun p hp i hi c h => by
  match i, hi with
  | 0, _ => exact hp c h
 have q2 : ∀ p p' : Nat -> Bool, (∀ c, p c = true -> 2 <= c ∧ c <= 32) -> (∀ c, p' c = true -> 2 <= c ∧ c <= 32) -> ∀ i, i < [p, p'].length -> ∀ c, ([p, p'].getD i fun _ => false) c = true -> 2 <= c ∧ c <= 32 := fun p p' hp hp' i hi c h => by
  match i, hi with
  | 0, _ => exact hp c h
  | 1, _ => exact hp' c h
 have q3 : ∀ p p' p'' : Nat -> Bool, (∀ c, p c = true -> 2 <= c ∧ c <= 32) -> (∀ c, p' c = true -> 2 <= c ∧ c <= 32) -> (∀ c, p'' c = true -> 2 <= c ∧ c <= 32) -> ∀ i, i < [p, p', p''].length -> ∀ c, ([p, p', p''].getD i fun _ => false) c = true -> 2 <= c ∧ c <= 32 := fun p p' p'' hp hp' hp'' i hi c h => by
  match i, hi with
  | 0, _ => exact hp c h
  | 1, _ => exact hp' c h
  | 2, _ => exact hp'' c h
 have p6 := pI [6] (by decide);unfold Hl at h;split at h
 ·exact hall _ _ h (pI _ (by decide)) c hc
 ·exact hall _ _ h (pI _ (by decide)) c hc
 ·exact hj _ _ h (q1 _ pT) c hc
 ·exact hj _ _ h (q1 _ pT) c hc
 ·exact hj _ _ h (q1 _ pT) c hc
 ·unfold Iu at h;rw [Bool.and_eq_true, Bool.and_eq_true] at h;rw [<- List.take_append_drop num.toNat ks, List.mem_append] at hc;rcases hc with hc | hc
  ·exact hall _ _ h.2.1 (pI _ (by decide)) c hc
  ·exact hj _ _ h.2.2 (q2 _ _ pR p6) c hc
 ·exact hall _ _ h pS c hc
 ·exact hj _ _ h (q2 _ _ pT pE) c hc
 ·exact hj _ _ h (q2 _ _ (pI _ (by decide)) pE) c hc
 ·simp only [Bool.or_eq_true] at h;rcases h with h | h
  ·exact hj _ _ h (q2 _ _ pE p6) c hc
  ·exact hj _ _ h (q3 _ _ _ pE p6 p6) c hc
 ·exact hj _ _ h (q2 _ _ pE p6) c hc
 ·simp only [Bool.or_eq_true] at h;rcases h with h | h
  ·exact hj _ _ h (fun i hi => absurd hi (by simp)) c hc
  ·exact hj _ _ h (q1 _ pE) c hc
 ·exact hj _ _ h (q1 _ (pI _ (by decide))) c hc
 ·exact hall _ _ h pE c hc
 ·exact hj _ _ h (q1 _ pE) c hc
 ·exact hj _ _ h (q1 _ pE) c hc
 ·exact hj _ _ h (q1 _ pE) c hc
 ·exact hj _ _ h (q2 _ _ pE pE) c hc
 ·exact hj _ _ h (q2 _ _ pE pE) c hc
 ·simp only [Bool.or_eq_true] at h;rcases h with h | h
  ·exact hj _ _ h (q1 _ (pI _ (by decide))) c hc
  ·exact hj _ _ h (q2 _ _ (pI _ (by decide)) pE) c hc
 ·exact hj _ _ h (fun i hi => absurd hi (by simp)) c hc
def P7 (l : List Nd) (j : Nat) : Bool := Ff (decide (j = 0)) (Ai l j) (nd l j).num ((A7 (sz l) j).map (Ai l))
theorem a9o (l : List Nd) (hR : Right (sz l) l.length) (h1 : Ai l 0 = 1) : ((List.range l.length).all fun j => C3 l j && P7 l j) = ((List.range l.length).all fun j => C3 l j && Kg l j) := by
 rw [Bool.eq_iff_iff, List.all_eq_true, List.all_eq_true];constructor
 ·intro h j hj;have := h j hj;rw [Bool.and_eq_true] at this ⊢;refine ⟨this.1, ?_⟩;have hf := this.2;unfold P7 at hf;by_cases hk : Ai l j = 0 ∨ 33 <= Ai l j
  ·rw [c0j _ _ _ _ hk] at hf; cases hf
  ·by_cases hr : Ai l j = 1 -> decide (j = 0) = true
   ·rw [Xv _ _ _ _ (by omega) (by omega) hr] at hf; exact hf
   ·have hk1 : Ai l j = 1 := Classical.byContradiction fun h => hr fun h' => absurd h' h
    have hj0 : decide (j = 0) = false := by cases h : decide (j = 0) with
     | false => rfl
     | true => exact absurd (fun _ => h) hr
    rw [hk1, hj0] at hf;cases hf
 ·intro h j hj;have := h j hj;rw [Bool.and_eq_true] at this ⊢;refine ⟨this.1, ?_⟩;have hf := this.2;have hjn := List.mem_range.1 hj;unfold P7;by_cases hj0 : j = 0
  ·subst hj0;rw [Xv (decide (0 = 0)) (Ai l 0) (nd l 0).num _ (by omega) (by omega) (fun _ => by simp)]; exact hf
  ·obtain ⟨i, hi, hij⟩ := hR.up_some (y := j) (by omega) hjn;have hm := (hR.kid_iff (i := i) (y := j) (by omega) hjn).2 hi;have hp := h i (List.mem_range.2 (by omega));rw [Bool.and_eq_true] at hp;have hk := b1m hp.2 (Ai l j) (List.mem_map.2 ⟨j, hm, rfl⟩);rw [Xv _ _ _ _ (by omega) (by omega) (fun e => by omega)]; exact hf
end
end Go.Proofs.YtoaplbljflhheaaGreat
