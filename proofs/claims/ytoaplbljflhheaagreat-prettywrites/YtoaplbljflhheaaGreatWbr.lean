/-
 Contracts and plain facts on the way to PrettyWrites. Conditions: as each says.
-/
import Derived.Test.YtoaplbljflhheaaGreatWbo
import Derived.Test.YtoaplbljflhheaaGreatWav
import Derived.Test.YtoaplbljflhheaaGreatWai
set_option maxHeartbeats 40000000
set_option maxRecDepth 100000
set_option linter.unusedVariables false
set_option linter.unusedSimpArgs false
namespace Go.Proofs.YtoaplbljflhheaaGreat
open Go.RowKit Go.Sort
def Gh (k : Nat) : List Pc := [⟨[10], 0, 0, 1⟩, nP k, ⟨[], 0, 0, -1⟩]
def Gb (ps : List Nat) : List Pc := tP [123] :: (ps.flatMap Gh ++ [tP [10], tP [125]])
def a5c (k : Nat) : List Pc := [tP [44, 32], nP k]
def Au : List Nat → List Pc
 | [] => []
 | k :: r => nP k :: r.flatMap a5c
theorem Pq (ps : List Nat) : (ps.flatMap Gh).length = 3 * ps.length := by
 induction ps with
 | nil => rfl
 | cons k r ih => rw [List.flatMap_cons, List.length_append, ih]; simp [Gh]; omega
theorem Eu (ps : List Nat) : (Au ps).length ≤ 2 * ps.length := by
 cases ps with
 | nil => simp [Au]
 | cons k r =>
  have : (r.flatMap a5c).length = 2 * r.length := by
   induction r with
   | nil => rfl
   | cons k r ih => rw [List.flatMap_cons, List.length_append, ih]; simp [a5c]; omega
  simp [Au, this]; omega
theorem Ke {ps : List Nat} {i : Nat} (h : i < ps.length) : ps.take (i + 1) = ps.take i ++ [ps.getD i 0] := by
 rw [List.take_add_one, List.getD_eq_getElem?_getD, List.getElem?_eq_getElem h]; rfl
theorem Pk {ps : List Nat} (h : 0 < ps.length) : Au (ps.take 1) = [nP (ps.getD 0 0)] := by
 cases ps with
 | nil => simp at h
 | cons k r => rfl
theorem Rp {ps : List Nat} {i : Nat} (h : i < ps.length) (h0 : 0 < i) : Au (ps.take (i + 1)) = Au (ps.take i) ++ a5c (ps.getD i 0) := by
 rw [Ke h]
 cases ps with
 | nil => simp at h
 | cons k r =>
  obtain ⟨j, rfl⟩ : ∃ j, i = j + 1 := ⟨i - 1, by omega⟩
  simp [Au]
def Vv (w : World) (b : Nat) (E : Env) (X : List Pc) (t : Int) (out : List UInt8) (a : Option Addr) (ps : List Nat) (f : Nat → List Pc) (m : Nat) (j : Value) (wr : World) : Prop :=
 ∃ i : Nat, i ≤ m ∧ j = .int .i64 i ∧ Wr wr b E (X ++ f i) t out ∧ Fw b w wr ∧ Cq b wr a ps
theorem Po {w : World} {b : Nat} {E : Env} {X : List Pc} {t : Int} {out : List UInt8} (h : Wr w b E X t out) (hX : X.length ≤ 90000000) {a : Option Addr} {m cap : Nat} {ps : List Nat} (hm : Hid (ps.length = m)) (hm2 : m ≤ 1000000) (hk : Cq b w a ps) :
  Calls Tryz.prog 151 #[pR b, .slice a m cap] w (Put b E X t out (Gb ps) w) := by
 have HW := zz h
 have HK := zz hk
 have hbl := h.lt
 have HF : Hid (Wr w b E X t out → True) := zz fun _ => trivial
 have hbW := zz (Below.refl w.heap.size w)
 clear h hk
 go_enter Tryz.func151, Tryz.ntmps151
 go_wp2_with fail
 refine (B7 _ _).mono ?_
 rintro e w1 ⟨rfl, hb1⟩
 replace hbW := zz (Ab hbW.out hb1)
 go_wp2_with fail
 refine (Ap (P := [tP [123]]) (k := 1) (HW.out.carry (Ab hbW.out (Aa w1 _))) rfl (LiesP.made (news := #[.string { data := #[123] }, .int .i64 0, .int .i64 0, .int .i64 0]) w1 rfl) (by simp; omega)).mono ?_
 rintro e V1 ⟨rfl, hw2, hf2⟩
 have hFb := (Fw.below (Ab hbW.out (Aa w1 (.cells #[.string { data := #[123] }, .int .i64 0, .int .i64 0, .int .i64 0] 71))) (Nat.le_of_lt hbl))
 have HR : Hid (Vv w b E X t out a ps (fun i => tP [123] :: (ps.take i).flatMap Gh) m (.int .i64 0) V1) := zz ⟨0, Nat.zero_le _, rfl, by simpa using hw2, hFb.trans hf2, HK.out.fw (hFb.trans hf2)⟩
 clear hw2 hf2 hFb hbW hb1 HW HK HF
 go_wp2_with fail
 go_loopw [12] (fun j wr => Vv w b E X t out a ps (fun i => tP [123] :: (ps.take i).flatMap Gh) m j wr) (fun j _ => m - (intOf j).toNat)
 case atStart => exact HR.out
 case round =>
  clear HR
  obtain ⟨i, hi, rfl, hw, hf, hkk⟩ := hrel
  have HW := zz hw
  have HF := zz hf
  have HK := zz hkk
  have hbr := hw.lt
  by_cases hlt : i < m
  ·have hlt' : i < ps.length := by rw [hm.out]; exact hlt
   obtain ⟨g0, o0, rfl⟩ := hkk.addr (by omega)
   have hc := hkk.cell hlt'
   obtain ⟨k, hkp⟩ : ∃ k, ps.getD i 0 = k := ⟨_, rfl⟩
   rw [hkp] at hc
   have HL : Hid ((X ++ tP [123] :: (ps.take i).flatMap Gh).length ≤ 99000000) := zz (by
    have := Pq (ps.take i)
    simp only [List.length_append, List.length_cons, this, List.length_take]; omega)
   have HE : Hid (tP [123] :: (ps.take (i + 1)).flatMap Gh = (tP [123] :: (ps.take i).flatMap Gh) ++ Gh k) := zz (by rw [Ke hlt', hkp]; simp)
   clear hw hf hkk hkp hlt'
   go_wp2_with fail
   refine (Hm _ _).mono ?_
   rintro e w2 ⟨rfl, hb2⟩
   replace hb2 := zz hb2
   go_wp2_with fail
   refine (Ap (P := Gh k) (k := 3) (HW.out.carry (Ab hb2.out (Aa w2 _))) rfl (LiesP.made (news := #[.string { data := #[10] }, .int .i64 0, .int .i64 0, .int .i64 1, .string { data := #[] }, .int .i64 k, .int .i64 0, .int .i64 0, .string { data := #[] }, .int .i64 0, .int .i64 0, .int .i64 (-1)]) w2 rfl) (by have := HL.out; omega)).mono ?_
   rintro e V2 ⟨rfl, hw2, hf2⟩
   have hFb := zz ((Fw.below (Ab hb2.out (Aa w2 (.cells #[.string { data := #[10] }, .int .i64 0, .int .i64 0, .int .i64 1, .string { data := #[] }, .int .i64 k, .int .i64 0, .int .i64 0, .string { data := #[] }, .int .i64 0, .int .i64 0, .int .i64 (-1)] 71))) (Nat.le_of_lt hbr)).trans hf2)
   replace hw2 := zz hw2
   clear hf2 hb2
   go_wp2_with fail
   go_roundw
   case rel => exact ⟨i + 1, hlt, by go_num, by show Wr _ _ _ (X ++ (tP [123] :: (ps.take (i + 1)).flatMap Gh)) _ _; rw [HE.out, ← List.append_assoc]; exact hw2.out, HF.out.trans hFb.out, HK.out.fw hFb.out⟩
   case measure => simp [intOf]; omega
  ·have HE : Hid (X ++ (tP [123] :: (ps.take i).flatMap Gh) ++ [tP [10], tP [125]] = X ++ Gb ps) := zz (by
    rw [List.take_of_length_le (by rw [hm.out]; omega)]; simp [Gb])
   have HL : Hid ((X ++ tP [123] :: (ps.take i).flatMap Gh).length ≤ 99000000) := zz (by
    have := Pq (ps.take i)
    simp only [List.length_append, List.length_cons, this, List.length_take]; omega)
   clear hw hf hkk
   have hbW := zz (Below.refl wr.heap.size wr)
   go_wp2_with fail
   refine (B7 _ _).mono ?_
   rintro e w1 ⟨rfl, hb1⟩
   replace hbW := zz (Ab hbW.out hb1)
   go_wp2_with fail
   refine (B7 _ _).mono ?_
   rintro e w2 ⟨rfl, hb2⟩
   replace hbW := zz (Ab hbW.out hb2)
   go_wp2_with fail
   refine (Ap (P := [tP [10], tP [125]]) (k := 2) (HW.out.carry (Ab hbW.out (Aa w2 _))) rfl (LiesP.made (news := #[.string { data := #[10] }, .int .i64 0, .int .i64 0, .int .i64 0, .string { data := #[125] }, .int .i64 0, .int .i64 0, .int .i64 0]) w2 rfl) (by have := HL.out; omega)).mono ?_
   rintro e V2 ⟨rfl, hw2, hf2⟩
   have hFb := zz ((Fw.below (Ab hbW.out (Aa w2 (.cells #[.string { data := #[10] }, .int .i64 0, .int .i64 0, .int .i64 0, .string { data := #[125] }, .int .i64 0, .int .i64 0, .int .i64 0] 71))) (Nat.le_of_lt hbr)).trans hf2)
   rw [HE.out] at hw2
   replace hw2 := zz hw2
   clear hf2 hbW hb1 hb2
   go_wp2_with fail
   refine bodyPost_end (v := .tuple #[]) (by simp [results, Tryz.results151]) rfl ?_
   exact ⟨rfl, hw2.out, HF.out.trans hFb.out⟩
theorem Fg {w : World} {b : Nat} {E : Env} {X : List Pc} {t : Int} {out : List UInt8} (h : Wr w b E X t out) (hX : X.length ≤ 90000000) {a : Option Addr} {m cap : Nat} {ps : List Nat} (hm : Hid (ps.length = m)) (hm2 : m ≤ 1000000) (hk : Cq b w a ps) :
  Calls Tryz.prog 155 #[pR b, .slice a m cap] w (Put b E X t out (Au ps) w) := by
 have HR : Hid (Vv w b E X t out a ps (fun i => Au (ps.take i)) m (.int .i64 0) w) := zz ⟨0, Nat.zero_le _, rfl, by simpa [Au] using h, Fw.refl _ _, hk⟩
 clear h hk
 go_enter Tryz.func155, Tryz.ntmps155
 go_wp2_with fail
 go_loopw [8] (fun j wr => Vv w b E X t out a ps (fun i => Au (ps.take i)) m j wr) (fun j _ => m - (intOf j).toNat)
 case atStart => exact HR.out
 case round =>
  clear HR
  obtain ⟨i, hi, rfl, hw, hf, hkk⟩ := hrel
  have HF := zz hf
  have HK := zz hkk
  have hbr := hw.lt
  by_cases hlt : i < m
  ·have hlt' : i < ps.length := by rw [hm.out]; exact hlt
   obtain ⟨g0, o0, rfl⟩ := hkk.addr (by omega)
   have hc := hkk.cell hlt'
   obtain ⟨k, hkp⟩ : ∃ k, ps.getD i 0 = k := ⟨_, rfl⟩
   rw [hkp] at hc
   have HL : Hid ((X ++ Au (ps.take i)).length ≤ 99000000) := zz (by
    have := Eu (ps.take i)
    simp only [List.length_append, List.length_take] at this ⊢; omega)
   by_cases h0 : i = 0
   ·subst h0
    have hw0 : Wr wr b E X t out := by simpa [Au] using hw
    rw [Nat.add_zero] at hc
    have HW := zz hw0
    have HE : Hid (Au (ps.take (0 + 1)) = [nP k]) := zz (by rw [Nat.zero_add, Pk hlt', hkp])
    clear hw hf hkk hkp hlt' HL hw0
    go_wp2_with fail
    refine (Hm _ _).mono ?_
    rintro e w2 ⟨rfl, hb2⟩
    replace hb2 := zz hb2
    go_wp2_with fail
    refine (Ap (P := [nP k]) (k := 1) (HW.out.carry (Ab hb2.out (Aa w2 _))) rfl (LiesP.made (news := #[.string { data := #[] }, .int .i64 k, .int .i64 0, .int .i64 0]) w2 rfl) (by omega)).mono ?_
    rintro e V2 ⟨rfl, hw2, hf2⟩
    have hFb := zz ((Fw.below (Ab hb2.out (Aa w2 (.cells #[.string { data := #[] }, .int .i64 k, .int .i64 0, .int .i64 0] 71))) (Nat.le_of_lt hbr)).trans hf2)
    replace hw2 := zz hw2
    clear hf2 hb2
    go_wp2_with fail
    go_roundw
    case rel => exact ⟨0 + 1, hlt, by go_num, by show Wr _ _ _ (X ++ Au (ps.take (0 + 1))) _ _; rw [HE.out]; exact hw2.out, HF.out.trans hFb.out, HK.out.fw hFb.out⟩
    case measure => simp [intOf]; omega
   ·have HW := zz hw
    have HE : Hid (Au (ps.take (i + 1)) = Au (ps.take i) ++ a5c k) := zz (by rw [Rp hlt' (by omega), hkp])
    have hi0 : (0 : Int) < i := by omega
    have hbW := zz (Below.refl wr.heap.size wr)
    clear hw hf hkk hkp hlt' h0
    go_wp2_with fail
    refine (B7 _ _).mono ?_
    rintro e w1 ⟨rfl, hb1⟩
    replace hb1 := zz hb1
    go_wp2_with fail
    refine (Ap (P := [tP [44, 32]]) (k := 1) (HW.out.carry (Ab hb1.out (Aa w1 _))) rfl (LiesP.made (news := #[.string { data := #[44, 32] }, .int .i64 0, .int .i64 0, .int .i64 0]) w1 rfl) (by have := HL.out; omega)).mono ?_
    rintro e V1 ⟨rfl, hw1, hf1⟩
    have hF1 := zz ((Fw.below (Ab hb1.out (Aa w1 (.cells #[.string { data := #[44, 32] }, .int .i64 0, .int .i64 0, .int .i64 0] 71))) (Nat.le_of_lt hbr)).trans hf1)
    have hbr1 := hw1.lt
    replace hw1 := zz hw1
    clear hf1 hb1 hbW HW
    go_wp2_with fail
    refine (Hm _ _).mono ?_
    rintro e w2 ⟨rfl, hb2⟩
    replace hb2 := zz hb2
    go_wp2_with fail
    refine (Ap (P := [nP k]) (k := 1) (hw1.out.carry (Ab hb2.out (Aa w2 _))) rfl (LiesP.made (news := #[.string { data := #[] }, .int .i64 k, .int .i64 0, .int .i64 0]) w2 rfl) (by have := HL.out; simp only [List.length_append, List.length_cons, List.length_nil] at this ⊢; omega)).mono ?_
    rintro e V2 ⟨rfl, hw2, hf2⟩
    have hF2 := zz (hF1.out.trans ((Fw.below (Ab hb2.out (Aa w2 (.cells #[.string { data := #[] }, .int .i64 k, .int .i64 0, .int .i64 0] 71))) (Nat.le_of_lt hbr1)).trans hf2))
    replace hw2 := zz hw2
    clear hf2 hb2
    go_wp2_with fail
    go_roundw
    case rel => exact ⟨i + 1, hlt, by go_num, by show Wr _ _ _ (X ++ Au (ps.take (i + 1))) _ _; rw [HE.out, a5c, show ([tP [44, 32], nP k] : List Pc) = [tP [44, 32]] ++ [nP k] from rfl, ← List.append_assoc, ← List.append_assoc]; exact hw2.out, HF.out.trans hF2.out, HK.out.fw hF2.out⟩
    case measure => simp [intOf]; omega
  ·have HW : Hid (Wr wr b E (X ++ Au ps) t out) := zz (by
    have hw' : Wr wr b E (X ++ Au (ps.take i)) t out := hw
    rw [List.take_of_length_le (by rw [hm.out]; omega)] at hw'
    exact hw')
   clear hw hf hkk
   go_wp2_with fail
   refine bodyPost_end (v := .tuple #[]) (by simp [results, Tryz.results155]) rfl ?_
   exact ⟨rfl, HW.out, HF.out⟩
end Go.Proofs.YtoaplbljflhheaaGreat
namespace Go.Proofs.YtoaplbljflhheaaGreat
open Go.RowKit Go.Sort
theorem Sr (a : Int) (w : World) (h0 : 0 ≤ a) (h1 : a ≤ 9223372036854775807) : Calls Tryz.prog 153 #[.int .i64 a] w fun e w' => e = .returned (.string (bs (Nm.dec a.toNat))) ∧ Below w.heap.size w w' := by
 have := Nm.ntext_any a w (by omega) h1
 rw [Nm.textL, if_neg (by omega), show a.natAbs = a.toNat by omega] at this
 exact this
abbrev ndA (k : Nat) (ln cl sz num : Int) (tx : ByteArray) : Value := .agg #[.int .u8 k, .int .i64 ln, .int .i64 cl, .int .i64 sz, .int .i64 num, .string tx]
theorem a8p (ln cl sz num : Int) (tx : ByteArray) (w : World) (h0 : 0 ≤ num) (h1 : num ≤ 9223372036854775807) : Calls Tryz.prog 118 #[.agg #[.int .u8 21, .int .i64 ln, .int .i64 cl, .int .i64 sz, .int .i64 num, .string tx]] w fun e w' => e = .returned (.string (bs (Nm.dec num.toNat))) ∧ Below w.heap.size w w' := by
 have H := zz (fun w => Sr num w h0 h1)
 clear h0 h1
 go_enter Tryz.func118, Tryz.ntmps118
 go_wp2_with fail
 refine (H.out _).mono ?_
 rintro e w1 ⟨rfl, hb⟩
 go_wp2_with fail
 go_ret
 exact ⟨rfl, Ab (Aa _ _) hb⟩
theorem a8o (ln cl sz num : Int) (tx : ByteArray) (w : World) (h0 : 0 ≤ num) (h1 : num ≤ 9223372036854775807) : Calls Tryz.prog 118 #[.agg #[.int .u8 22, .int .i64 ln, .int .i64 cl, .int .i64 sz, .int .i64 num, .string tx]] w fun e w' => e = .returned (.string (bs (Nm.dec num.toNat ++ [105]))) ∧ Below w.heap.size w w' := by
 have H := zz (fun w => Sr num w h0 h1)
 have hl : (Nm.dec num.toNat).length ≤ 20 := Nm.dec_len_le _ (by omega)
 obtain ⟨D, hD⟩ : ∃ D, bs (Nm.dec num.toNat) = D := ⟨_, rfl⟩
 have hs : D.size ≤ 20 := by rw [← hD, An]; exact hl
 have he : D ++ ({ data := #[105] } : ByteArray) = bs (Nm.dec num.toNat ++ [105]) := by
  rw [← hD, show ({ data := #[105] } : ByteArray) = bs [105] from rfl, P9]
 rw [hD] at H
 rw [← he]
 clear h0 h1 hl he hD
 go_enter Tryz.func118, Tryz.ntmps118
 go_wp2_with fail
 refine (H.out _).mono ?_
 rintro e w1 ⟨rfl, hb⟩
 replace hb := zz hb
 go_wp2_with fail
 go_ret
 exact ⟨rfl, Ab (Aa _ _) hb.out⟩
theorem a8n (ln cl sz num : Int) (tx : ByteArray) (w : World) (ht : tx.size ≤ 100000) : Calls Tryz.prog 118 #[.agg #[.int .u8 23, .int .i64 ln, .int .i64 cl, .int .i64 sz, .int .i64 num, .string tx]] w fun e w' => e = .returned (.string (bs (lit tx.data.toList))) ∧ Below w.heap.size w w' := by
 have H := zz (fun w => Yh tx w ht)
 go_enter Tryz.func118, Tryz.ntmps118
 go_wp2_with fail
 refine (H.out _).mono ?_
 rintro e w1 ⟨rfl, hb⟩
 go_wp2_with fail
 go_ret
 exact ⟨rfl, Ab (Aa _ _) hb⟩
theorem a39 (ln cl sz : Int) (tx : ByteArray) (w : World) : Calls Tryz.prog 118 #[.agg #[.int .u8 24, .int .i64 ln, .int .i64 cl, .int .i64 sz, .int .i64 0, .string tx]] w fun e w' => e = .returned (.string { data := #[102, 97, 108, 115, 101] }) ∧ Below w.heap.size w w' := by
 go_enter Tryz.func118, Tryz.ntmps118
 go_wp2_with fail
 go_ret
 exact ⟨rfl, Aa _ _⟩
theorem a38 (ln cl sz num : Int) (h : num ≠ 0) (tx : ByteArray) (w : World) : Calls Tryz.prog 118 #[.agg #[.int .u8 24, .int .i64 ln, .int .i64 cl, .int .i64 sz, .int .i64 num, .string tx]] w fun e w' => e = .returned (.string { data := #[116, 114, 117, 101] }) ∧ Below w.heap.size w w' := by
 have h' : (num == 0) = false := by simpa using h
 clear h
 go_enter Tryz.func118, Tryz.ntmps118
 go_wp2_with fail
 go_ret
 exact ⟨rfl, Aa _ _⟩
theorem a8m (ln cl sz num : Int) (tx : ByteArray) (w : World) : Calls Tryz.prog 118 #[.agg #[.int .u8 25, .int .i64 ln, .int .i64 cl, .int .i64 sz, .int .i64 num, .string tx]] w fun e w' => e = .returned (.string { data := #[110, 105, 108] }) ∧ Below w.heap.size w w' := by
 go_enter Tryz.func118, Tryz.ntmps118
 go_wp2_with fail
 go_ret
 exact ⟨rfl, Aa _ _⟩
theorem a8l (ln cl sz num : Int) (tx : ByteArray) (w : World) : Calls Tryz.prog 118 #[.agg #[.int .u8 26, .int .i64 ln, .int .i64 cl, .int .i64 sz, .int .i64 num, .string tx]] w fun e w' => e = .returned (.string tx) ∧ Below w.heap.size w w' := by
 go_enter Tryz.func118, Tryz.ntmps118
 go_wp2_with fail
 go_ret
 exact ⟨rfl, Aa _ _⟩
theorem a36 (i : Inf) (hk : 21 ≤ i.kind ∧ i.kind ≤ 26) (h0 : i.kind = 21 ∨ i.kind = 22 → 0 ≤ i.num) (h1 : i.num ≤ 9223372036854775807) (ht : i.text.length ≤ 100000) (ln cl sz : Int) (w : World) :
  Calls Tryz.prog 118 #[ndA i.kind ln cl sz i.num (bs i.text)] w fun e w' => e = .returned (.string (bs (Hx i))) ∧ Below w.heap.size w w' := by
 obtain ⟨k, l, c, n, t⟩ := i
 simp only at *
 obtain ⟨hk1, hk2⟩ := hk
 have hc : k = 21 ∨ k = 22 ∨ k = 23 ∨ k = 24 ∨ k = 25 ∨ k = 26 := by omega
 rcases hc with rfl | rfl | rfl | rfl | rfl | rfl
 ·exact a8p ln cl sz n _ w (h0 (.inl rfl)) h1
 ·exact a8o ln cl sz n _ w (h0 (.inr rfl)) h1
 ·have := a8n ln cl sz n (bs t) w (by rw [An]; exact ht)
  rw [Bk] at this
  exact this
 ·by_cases hn : n = 0
  ·subst hn; exact a39 ln cl sz _ w
  ·rw [show Hx ⟨24, l, c, n, t⟩ = [116, 114, 117, 101] by simp [Hx, hn]]
   exact a38 ln cl sz n hn (bs t) w
 ·exact a8m ln cl sz n _ w
 ·exact a8l ln cl sz n _ w
end Go.Proofs.YtoaplbljflhheaaGreat
namespace Go.Proofs.YtoaplbljflhheaaGreat
open Go.RowKit Go.Sort
theorem Fj (kk : Nat) (h : kk ≠ 1 ∧ kk ≠ 2 ∧ kk ≠ 3 ∧ kk ≠ 5 ∧ kk ≠ 20 ∧ kk ≠ 4 ∧ kk ≠ 6 ∧ kk ≠ 7 ∧ kk ≠ 8 ∧ kk ≠ 9 ∧ kk ≠ 10 ∧ kk ≠ 11 ∧ kk ≠ 12 ∧ kk ≠ 29 ∧ kk ≠ 30 ∧ kk ≠ 13 ∧ kk ≠ 27 ∧ kk ≠ 28 ∧ kk ≠ 31 ∧ kk ≠ 32) {root : Bool} {num : Int} {ks : List Nat} : Di root kk num ks = (ks.map srt == [] && (decide (14 ≤ kk) && decide (kk ≤ 26))) := by
 obtain ⟨h1, h2, h3, h5, h20, h4, h6, h7, h8, h9, h10, h11, h12, h29, h30, h13, h27, h28, h31, h32⟩ := h
 unfold Di
 split <;> first | rfl | omega
theorem b58 (kk : Nat) (hK : Hid (kk = 4 ∨ (kk ≠ 1 ∧ kk ≠ 2 ∧ kk ≠ 3 ∧ kk ≠ 5 ∧ kk ≠ 20 ∧ kk ≠ 4 ∧ kk ≠ 6 ∧ kk ≠ 7 ∧ kk ≠ 8 ∧ kk ≠ 9 ∧ kk ≠ 10 ∧ kk ≠ 11 ∧ kk ≠ 12 ∧ kk ≠ 29 ∧ kk ≠ 30 ∧ kk ≠ 13 ∧ kk ≠ 27 ∧ kk ≠ 28 ∧ kk ≠ 31 ∧ kk ≠ 32))) (b o n cap : Nat) (l : List Nd) (w : World) (hn : Hid (l.length = n)) (hl : n ≤ 1000000) (hr : Hid (Li w b o l)) (k : Nat) (hk : k < n) (hok : Hid (Ok (sz l) n k)) (xs : List Nat) (hxs : Hid (Ai (sz l) k = xs)) (hxn : Hid (∀ x, x ∈ xs → x < n)) (hxl : xs.length ≤ 1000000)
  (num : Int) (hnum : Ax num) (hkd : Hid (Ag l k = kk)) (hnm : Hid ((nd l k).num = num)) (q : Bool) (hq : Hid (Di (decide (k = 0)) kk num (xs.map (Ag l)) = q)) :
  Calls Tryz.prog 27 #[.slice (some ⟨b, o, none⟩) n cap, .int .i64 (k : Nat)] w fun e w' => e = .returned (.bool q) ∧ Below w.heap.size w w' := by
 have HC0 := zz (fun w2 (h : Below w.heap.size w w2) => show w2.cell? ⟨b, o + k * 6, none⟩ = some (.int .u8 (kk : Nat)) by
  rw [((hr.out.carry h) k (by rw [hn.out]; exact hk)).1.c0, show (nd l k).kind = kk from hkd.out])
 have HC4 := zz (fun w2 (h : Below w.heap.size w w2) => show w2.cell? ⟨b, o + k * 6 + 4, none⟩ = some (.int .i64 num) by
  rw [((hr.out.carry h) k (by rw [hn.out]; exact hk)).1.c4, hnm.out])
 have HKI := zz (Ib b o n cap l w hn hl hr k hk hok xs hxs)
 clear hkd hnm
 go_enter Tryz.func27, Tryz.ntmps27
 go_wp2_with fail
 refine HKI.out.mono ?_
 rintro e w1 ⟨v, rfl, hown, hb1⟩
 obtain ⟨a', cap', rfl, hcell⟩ := Aq hown
 replace hcell := zz hcell
 replace hb1 := zz hb1
 clear hown HKI
 go_wp2_with fail
 go_loopw [6, 17] (fun v j wr => a5e l xs w1 v j wr) (fun _ j _ => xs.length - (intOf j).toNat)
 case atStart => exact ⟨0, Nat.zero_le _, rfl, Kq [] rfl (Nat.le_refl _) 0 rfl (by decide), Aa _ _⟩
 case round =>
  obtain ⟨i, hi, rfl, ho, hbel⟩ := hrel
  have hsz := hbel.size
  by_cases hlt : i < xs.length
  ·obtain ⟨g, rfl, _, hc⟩ := hcell.out i hlt
   have hxm := hxn.out _ (F0 hlt)
   obtain ⟨x, hx⟩ : ∃ x, xs.getD i 0 = x := ⟨_, rfl⟩
   rw [hx] at hc hxm
   have hc' := Ad hbel hc
   obtain ⟨hat, hwf⟩ := (hr.out.carry (Ab hb1.out hbel)) x (by rw [hn.out]; exact hxm)
   obtain ⟨c0, c1, c2, c3, c4, c5⟩ := hat
   obtain ⟨kd, ln, cl, s, nm, tx, hN⟩ : ∃ kd ln cl s nm tx, nd l x = ⟨kd, ln, cl, s, nm, tx⟩ := ⟨_, _, _, _, _, _, rfl⟩
   rw [hN] at c0 c1 c2 c3 c4 c5
   simp only at c0 c1 c2 c3 c4 c5
   have hkk : srt (Ag l (xs.getD i 0)) = srt kd := by rw [hx, Ag, hN]
   replace hkk := zz hkk
   have HB := zz hbel
   replace ho := zz ho
   clear hc hN hx hwf hbel
   go_wp2_with fail
   refine (Mv ⟨kd, ln, cl, s, nm, tx⟩ _).mono ?_
   rintro e w2 ⟨rfl, hb2⟩
   replace ho := zz (Du ho.out hb2)
   have hsz2 := hb2.size
   replace hb2 := zz (Ab HB.out hb2)
   clear HB
   have hlen : ((xs.take i).map fun x => srt (Ag l x)).length + 1 ≤ 100000000 := by simp; omega
   go_wp2_with (at_builtin; refine A5 rfl _ _ rfl w1.heap.size u6 _ [srt kd] 1 rfl rfl rfl rfl ho.out (by omega) hlen ?_; intro v2 w3 ho2 hb3; replace ho2 := zz ho2; replace hb3 := zz (hb2.out.trans hb3))
   go_roundw
   case rel => exact a5e.step (wr := wr) hlt (by go_num) (by rw [hkk.out]; exact ho2.out) hb3.out
   case measure => simp [intOf]; omega
  ·have hil : i = xs.length := by omega
   subst hil
   rw [List.take_length] at ho
   have htx := Fu ho
   have hS : (xs.map fun x => srt (Ag l x)) = (xs.map (Ag l)).map srt := by simp
   rw [hS] at htx
   have HC0' := HC0.out wr (Ab hb1.out hbel)
   have HC4' := HC4.out wr (Ab hb1.out hbel)
   have HB := zz (Ab hb1.out hbel)
   have hHd : Hid ((xs.map (Ag l)).headD 0 = (if xs.length = 0 then 0 else Ag l (xs.getD 0 0))) := zz (by cases xs <;> rfl)
   obtain ⟨ks, hks⟩ : ∃ ks, xs.map (Ag l) = ks := ⟨_, rfl⟩
   have hkl : ks.length = xs.length := by rw [← hks, List.length_map]
   rw [hks] at htx hHd hq
   replace hkl := zz hkl
   obtain ⟨T, hT⟩ : ∃ T, bs (ks.map srt) = T := ⟨_, rfl⟩
   rw [hT] at htx
   have hTl : T.toList = ks.map srt := by rw [ByteArray.toList_eq, ← hT, Bk]
   replace hTl := zz hTl
   have hTz : T.size = xs.length := by rw [← hT, An, List.length_map, hkl.out]
   replace hTz := zz hTz
   obtain ⟨fk, hfk⟩ : ∃ fk, hdK ks = fk := ⟨_, rfl⟩
   have hfk0 := hHd.out
   rw [show ks.headD 0 = fk from hfk] at hfk0
   clear hS hks hHd hlt ho
   by_cases hx0 : xs.length = 0
   ·rw [if_pos hx0] at hfk0
    subst hfk0
    have e0 : ¬ (0 : Int) < (xs.length : Int) := by omega
    rw [hx0] at hTz
    have d0 := fun O => Ah HC0' O
    have d4 := fun O => Ah HC4' O
    replace hT := zz hT
    replace hfk := zz hfk
    clear HC0' HC4' hbel
    rcases hK.out with rfl | HK
    ·have g1 : decide ((2 : Int) ≤ (T.size : Int)) = false := by rw [hTz.out]; rfl
     obtain rfl : q = false := by rw [← hq.out]; simp [Di, hkl.out, hx0]
     go_wp2_with fail
     go_ret
     exact ⟨rfl, Ab HB.out (Aa wr _)⟩
    ·have z1 : ((kk : Int) == 1) = false := by have := HK; rw [beq_eq_false_iff_ne]; omega
     have z2 : ((kk : Int) == 2) = false := by have := HK; rw [beq_eq_false_iff_ne]; omega
     have z3 : ((kk : Int) == 3) = false := by have := HK; rw [beq_eq_false_iff_ne]; omega
     have z5 : ((kk : Int) == 5) = false := by have := HK; rw [beq_eq_false_iff_ne]; omega
     have z20 : ((kk : Int) == 20) = false := by have := HK; rw [beq_eq_false_iff_ne]; omega
     have z4 : ((kk : Int) == 4) = false := by have := HK; rw [beq_eq_false_iff_ne]; omega
     have z6 : ((kk : Int) == 6) = false := by have := HK; rw [beq_eq_false_iff_ne]; omega
     have z7 : ((kk : Int) == 7) = false := by have := HK; rw [beq_eq_false_iff_ne]; omega
     have z8 : ((kk : Int) == 8) = false := by have := HK; rw [beq_eq_false_iff_ne]; omega
     have z9 : ((kk : Int) == 9) = false := by have := HK; rw [beq_eq_false_iff_ne]; omega
     have z10 : ((kk : Int) == 10) = false := by have := HK; rw [beq_eq_false_iff_ne]; omega
     have z11 : ((kk : Int) == 11) = false := by have := HK; rw [beq_eq_false_iff_ne]; omega
     have z12 : ((kk : Int) == 12) = false := by have := HK; rw [beq_eq_false_iff_ne]; omega
     have z29 : ((kk : Int) == 29) = false := by have := HK; rw [beq_eq_false_iff_ne]; omega
     have z30 : ((kk : Int) == 30) = false := by have := HK; rw [beq_eq_false_iff_ne]; omega
     have z13 : ((kk : Int) == 13) = false := by have := HK; rw [beq_eq_false_iff_ne]; omega
     have z27 : ((kk : Int) == 27) = false := by have := HK; rw [beq_eq_false_iff_ne]; omega
     have z28 : ((kk : Int) == 28) = false := by have := HK; rw [beq_eq_false_iff_ne]; omega
     have z31 : ((kk : Int) == 31) = false := by have := HK; rw [beq_eq_false_iff_ne]; omega
     have z32 : ((kk : Int) == 32) = false := by have := HK; rw [beq_eq_false_iff_ne]; omega
     cases ha : (ks.map srt == []) with
     | true =>
      have a : (T.toList == []) = true := by rw [hTl.out]; exact ha
      have ae : T.toList.isEmpty = true := by rw [hTl.out]; revert ha; cases ks.map srt <;> simp
      by_cases b1 : 14 ≤ kk
      ·have g1 : (14 : Int) ≤ (kk : Int) := by omega
       have t3 : decide ((kk : Int) ≤ 26) = q := by rw [← hq.out, Fj kk HK, ha, decide_eq_true b1, Bool.true_and, Bool.true_and, decide_eq_decide]; omega
       clear ha b1
       go_wp2_with fail
       go_ret
       exact ⟨rfl, Ab HB.out (Aa wr _)⟩
      ·have g1 : decide ((14 : Int) ≤ (kk : Int)) = false := by simp; omega
       obtain rfl : q = false := by rw [← hq.out, Fj kk HK, decide_eq_false b1]; simp
       clear ha b1
       go_wp2_with fail
       go_ret
       exact ⟨rfl, Ab HB.out (Aa wr _)⟩
     | false =>
      have a : (T.toList == []) = false := by rw [hTl.out]; exact ha
      have ae : T.toList.isEmpty = false := by rw [hTl.out]; revert ha; cases ks.map srt <;> simp
      obtain rfl : q = false := by rw [← hq.out, Fj kk HK, ha]; rfl
      clear ha
      go_wp2_with fail
      go_ret
      exact ⟨rfl, Ab HB.out (Aa wr _)⟩
   ·rw [if_neg hx0] at hfk0
    obtain ⟨g, rfl, _, hc⟩ := hcell.out 0 (by omega)
    have hxm := hxn.out _ (F0 (x := xs) (k := 0) (by omega))
    obtain ⟨x, hx⟩ : ∃ x, xs.getD 0 0 = x := ⟨_, rfl⟩
    rw [hx] at hc hxm hfk0
    have hc' := Ad hbel hc
    obtain ⟨hat, hwf⟩ := (hr.out.carry HB.out) x (by rw [hn.out]; exact hxm)
    obtain ⟨c0, c1, c2, c3, c4, c5⟩ := hat
    obtain ⟨kd, ln, cl, s, nm, tx, hN⟩ : ∃ kd ln cl s nm tx, nd l x = ⟨kd, ln, cl, s, nm, tx⟩ := ⟨_, _, _, _, _, _, rfl⟩
    rw [hN] at c0 c1 c2 c3 c4 c5
    simp only at c0 c1 c2 c3 c4 c5
    obtain rfl : fk = kd := by rw [hfk0, Ag, hN]
    have hx1 : 0 < xs.length := by omega
    have e0 : (0 : Int) < (xs.length : Int) := by omega
    replace hT := zz hT
    replace hfk := zz hfk
    have d0 := fun O => Ah HC0' O
    have d4 := fun O => Ah HC4' O
    replace hc' := fun O => Ah hc' O
    replace c0 := fun O => Ah c0 O
    replace c1 := fun O => Ah c1 O
    replace c2 := fun O => Ah c2 O
    replace c3 := fun O => Ah c3 O
    replace c4 := fun O => Ah c4 O
    replace c5 := fun O => Ah c5 O
    clear hc hN hx hfk0 hwf hx0 HC0' HC4' hbel
    rcases hK.out with rfl | HK
    ·obtain ⟨Z, hZ⟩ : ∃ Z, T.size = Z := ⟨_, rfl⟩
     have hZx : Z = xs.length := by rw [← hZ]; exact hTz.out
     have hkl2 : ks.length = Z := by rw [hkl.out, hZx]
     have hqq := hq.out
     rw [Di, hkl2] at hqq
     by_cases h2 : 2 ≤ Z
     ·obtain ⟨m, hm⟩ : ∃ m, Z = m + 2 := ⟨Z - 2, by omega⟩
      have g1 : (2 : Int) ≤ (T.size : Int) := by omega
      have r2 : (T.size : Int) - 2 = (m : Nat) := by omega
      have r1 : (T.size : Int) - 1 = ((m + 1 : Nat) : Int) := by omega
      have i1 : m < T.size := by omega
      have i2 : m + 1 < T.size := by omega
      have hml : m ≤ 1000000 := by omega
      rw [decide_eq_true h2, Bool.true_and, show (Z : Int) - 2 = (m : Nat) by omega, show Z - 2 = m by omega, show Z - 1 = m + 1 by omega] at hqq
      have hX : (T.extract 0 m).data.toList = (ks.map srt).take m := by rw [De, ← ByteArray.toList_eq, hTl.out]; simp
      have hA1 : (ks.map srt).getD m 0 = T[m] := by
       have := Jy T m i1
       rw [← ByteArray.toList_eq, hTl.out] at this
       simp [List.getD, this]
      have hA2 : (ks.map srt).getD (m + 1) 0 = T[m + 1] := by
       have := Jy T (m + 1) i2
       rw [← ByteArray.toList_eq, hTl.out] at this
       simp [List.getD, this]
      rw [hA1, hA2] at hqq
      have hXs : (T.extract 0 m).size ≤ 9000000000 := by rw [← Ae, hX, List.length_take]; omega
      clear hA1 hA2 hm h2 hkl2 hZx hZ
      by_cases hnm : (m : Int) = num
      ·have g2 : ((m : Int) == num) = true := by rw [hnm]; simp
       rw [g2, Bool.true_and] at hqq
       have HO := zz (fun w q (h : a0y 112 ((ks.map srt).take m) = q) => D2 (T.extract 0 m) 112 w q hXs (zz (by rw [hX]; exact h)))
       clear hX hXs hnm
       cases hall : a0y 112 ((ks.map srt).take m) with
       | false =>
        obtain rfl : q = false := by rw [← hqq, hall]; rfl
        replace hall := zz hall
        clear hqq
        go_wp2_with fail
        refine (HO.out _ false hall.out).mono ?_
        rintro e w9 ⟨rfl, rfl⟩
        go_wp2_with fail
        go_ret
        exact ⟨rfl, Ab HB.out (Aa wr _)⟩
       | true =>
        rw [hall, Bool.true_and] at hqq
        replace hall := zz hall
        have ez : ∀ (c : UInt8) (z : Nat), z < 256 → (c == UInt8.ofNat z) = ((c.toNat : Int) == (z : Int)) := fun c z hz => by
         rw [Bool.eq_iff_iff, beq_iff_eq, beq_iff_eq]
         constructor
         ·intro h; rw [h, UInt8.toNat_ofNat_of_lt' (by simpa using hz)]
         ·intro h; exact a8h hz (by rw [h]; simp)
        have z1 := ez T[m] 116 (by decide)
        have z2 := ez T[m] 48 (by decide)
        have z3 := ez T[m + 1] 98 (by decide)
        rw [show (T[m] == 116) = ((T[m].toNat : Int) == 116) from z1, show (T[m] == 48) = ((T[m].toNat : Int) == 48) from z2, show (T[m + 1] == 98) = ((T[m + 1].toNat : Int) == 98) from z3] at hqq
        clear z1 z2 z3 ez
        cases ha : ((T[m].toNat : Int) == 116) with
        | true =>
         rw [ha, Bool.true_or, Bool.true_and] at hqq
         go_wp2_with fail
         refine (HO.out _ true hall.out).mono ?_
         rintro e w9 ⟨rfl, rfl⟩
         go_wp2_with fail
         go_ret
         exact ⟨rfl, Ab HB.out (Aa wr _)⟩
        | false =>
         rw [ha, Bool.false_or] at hqq
         cases hb : ((T[m].toNat : Int) == 48) with
         | true =>
          rw [hb, Bool.true_and] at hqq
          go_wp2_with fail
          refine (HO.out _ true hall.out).mono ?_
          rintro e w9 ⟨rfl, rfl⟩
          go_wp2_with fail
          go_ret
          exact ⟨rfl, Ab HB.out (Aa wr _)⟩
         | false =>
          rw [hb, Bool.false_and] at hqq
          subst hqq
          go_wp2_with fail
          refine (HO.out _ true hall.out).mono ?_
          rintro e w9 ⟨rfl, rfl⟩
          go_wp2_with fail
          go_ret
          exact ⟨rfl, Ab HB.out (Aa wr _)⟩
      ·have g2 : ((m : Int) == num) = false := by rw [beq_eq_false_iff_ne]; exact hnm
       rw [g2, Bool.false_and] at hqq
       subst hqq
       clear hX hXs hnm
       go_wp2_with fail
       go_ret
       exact ⟨rfl, Ab HB.out (Aa wr _)⟩
     ·have g1 : decide ((2 : Int) ≤ (T.size : Int)) = false := by simp; omega
      rw [decide_eq_false h2, Bool.false_and] at hqq
      subst hqq
      clear h2 hZ hZx hkl2
      go_wp2_with fail
      go_ret
      exact ⟨rfl, Ab HB.out (Aa wr _)⟩
    ·have z1 : ((kk : Int) == 1) = false := by have := HK; rw [beq_eq_false_iff_ne]; omega
     have z2 : ((kk : Int) == 2) = false := by have := HK; rw [beq_eq_false_iff_ne]; omega
     have z3 : ((kk : Int) == 3) = false := by have := HK; rw [beq_eq_false_iff_ne]; omega
     have z5 : ((kk : Int) == 5) = false := by have := HK; rw [beq_eq_false_iff_ne]; omega
     have z20 : ((kk : Int) == 20) = false := by have := HK; rw [beq_eq_false_iff_ne]; omega
     have z4 : ((kk : Int) == 4) = false := by have := HK; rw [beq_eq_false_iff_ne]; omega
     have z6 : ((kk : Int) == 6) = false := by have := HK; rw [beq_eq_false_iff_ne]; omega
     have z7 : ((kk : Int) == 7) = false := by have := HK; rw [beq_eq_false_iff_ne]; omega
     have z8 : ((kk : Int) == 8) = false := by have := HK; rw [beq_eq_false_iff_ne]; omega
     have z9 : ((kk : Int) == 9) = false := by have := HK; rw [beq_eq_false_iff_ne]; omega
     have z10 : ((kk : Int) == 10) = false := by have := HK; rw [beq_eq_false_iff_ne]; omega
     have z11 : ((kk : Int) == 11) = false := by have := HK; rw [beq_eq_false_iff_ne]; omega
     have z12 : ((kk : Int) == 12) = false := by have := HK; rw [beq_eq_false_iff_ne]; omega
     have z29 : ((kk : Int) == 29) = false := by have := HK; rw [beq_eq_false_iff_ne]; omega
     have z30 : ((kk : Int) == 30) = false := by have := HK; rw [beq_eq_false_iff_ne]; omega
     have z13 : ((kk : Int) == 13) = false := by have := HK; rw [beq_eq_false_iff_ne]; omega
     have z27 : ((kk : Int) == 27) = false := by have := HK; rw [beq_eq_false_iff_ne]; omega
     have z28 : ((kk : Int) == 28) = false := by have := HK; rw [beq_eq_false_iff_ne]; omega
     have z31 : ((kk : Int) == 31) = false := by have := HK; rw [beq_eq_false_iff_ne]; omega
     have z32 : ((kk : Int) == 32) = false := by have := HK; rw [beq_eq_false_iff_ne]; omega
     cases ha : (ks.map srt == []) with
     | true =>
      have a : (T.toList == []) = true := by rw [hTl.out]; exact ha
      have ae : T.toList.isEmpty = true := by rw [hTl.out]; revert ha; cases ks.map srt <;> simp
      by_cases b1 : 14 ≤ kk
      ·have g1 : (14 : Int) ≤ (kk : Int) := by omega
       have t3 : decide ((kk : Int) ≤ 26) = q := by rw [← hq.out, Fj kk HK, ha, decide_eq_true b1, Bool.true_and, Bool.true_and, decide_eq_decide]; omega
       clear ha b1
       go_wp2_with fail
       go_ret
       exact ⟨rfl, Ab HB.out (Aa wr _)⟩
      ·have g1 : decide ((14 : Int) ≤ (kk : Int)) = false := by simp; omega
       obtain rfl : q = false := by rw [← hq.out, Fj kk HK, decide_eq_false b1]; simp
       clear ha b1
       go_wp2_with fail
       go_ret
       exact ⟨rfl, Ab HB.out (Aa wr _)⟩
     | false =>
      have a : (T.toList == []) = false := by rw [hTl.out]; exact ha
      have ae : T.toList.isEmpty = false := by rw [hTl.out]; revert ha; cases ks.map srt <;> simp
      obtain rfl : q = false := by rw [← hq.out, Fj kk HK, ha]; rfl
      clear ha
      go_wp2_with fail
      go_ret
      exact ⟨rfl, Ab HB.out (Aa wr _)⟩
end Go.Proofs.YtoaplbljflhheaaGreat
