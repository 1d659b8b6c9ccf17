/-
 Contract of parse.countOf, and what a part of a reader's nodes is. Conditions: as said. Contracts of parse.reader's record, result, function and declaration. Conditions: as said. Contracts of parse.reader's end and program. Conditions: as said.
-/
import Derived.Test.YtbknflaooemigaaGreatRd5
namespace Go.Proofs.YtbknflaooemigaaGreat
section
open Go.RowKit Go.Sort
set_option linter.unusedVariables false
set_option linter.unusedSimpArgs false

/-- Nodes that lie in memory one behind the other. -/
def NRow (w : World) (a : Option Addr) (l : List Nd) : Prop := ∀ i, i < l.length → ∃ g o, a = some ⟨g, o, none⟩ ∧ At w g (o + i * 6) (nd l i)
theorem NRow.carry {w w' : World} {a : Option Addr} {l : List Nd} (h : NRow w a l) (hb : Below w.heap.size w w') : NRow w' a l := fun i hi => by
 obtain ⟨g, o, h1, h2⟩ := h i hi
 exact ⟨g, o, h1, h2.carry hb⟩

theorem own_at {w : World} {B g cap n : Nat} {D : List Nd} (h : OwnN w B (.slice (some ⟨g, 0, none⟩) n cap) D) {i : Nat} {t : Nd} (hi : D[i]? = some t) : At w g (i * 6) t := by
 have hlt : i < D.length := (List.getElem?_eq_some_iff.1 hi).1
 have hc : ∀ j u, j < 6 → (ndCells t)[j]? = some u → w.cell? ⟨g, i * 6 + j, none⟩ = some u := fun j u hj hu => by
  have := World.ownsRow.cells h (g := g) rfl (i * 6 + j) u (by
   have hD : D = D.take i ++ t :: D.drop (i + 1) := by
    rw [List.getElem?_eq_getElem hlt] at hi
    rw [← Option.some.inj hi]
    simp
   rw [hD, ndFlat_app, List.getElem?_append_right (by rw [ndFlat_len, List.length_take]; omega), ndFlat_len, List.length_take, show i * 6 + j - min i D.length * 6 = j by rw [Nat.min_eq_left (by omega)]; omega]
   unfold ndFlat
   rw [List.flatMap_cons, List.getElem?_append_left (by simp [ndCells]; omega)]
   exact hu)
  rwa [plain_add] at this
 exact ⟨by simpa using hc 0 _ (by decide) rfl, hc 1 _ (by decide) rfl, hc 2 _ (by decide) rfl, hc 3 _ (by decide) rfl, hc 4 _ (by decide) rfl, hc 5 _ (by decide) rfl⟩

theorem Tryz.elem23 : Tryz.prog.elem 23 = 32 := by kernel_rfl
theorem Tryz.size32 (w : World) : (sizeOf 32).run Tryz.prog w = .ok 6 w := by kernel_rfl

set_option maxRecDepth 100000 in
theorem cut_row {w : World} {b tb to tc : Nat} {T : List Tok} {at_ : Nat} {d : Int} {v : Value} {D : List Nd} {F : Fo} (h : Rd w b tb to tc T at_ d v (D ++ F.post)) (dn : Nat) (hdn : D.length = dn) :
  ∃ a m cap a' cap', v = .slice a m cap ∧ (∀ w, (Instr.slice 23 (.slice a m cap) (some (.int .i64 dn)) none none).run Tryz.prog w = .ok (.slice a' F.cnt cap') w) ∧ NRow w a' F.post ∧ (dn : Int) ≤ m := by
 have ho := h.own
 have hlen : (D ++ F.post).length = dn + F.cnt := by rw [List.length_append, post_len, hdn]
 rcases ho.2 with ⟨hv, h0⟩ | ⟨g, cap, cur, hv, hg, hh, hc1, hc2, hr⟩
 ·refine ⟨none, 0, 0, none, 0, hv, fun w => ?_, fun i hi => ?_, by omega⟩
  ·rw [run_slice_l w 23 none 0 0 Tryz.underlying23 .i64 dn (by omega) (by omega), Tryz.elem23, Tryz.size32]
   have : F.cnt = 0 := by omega
   simp [sliced, Result.andThen, this]
  ·rw [post_len] at hi; omega
 ·rw [hlen] at hv hc1
  refine ⟨some ⟨g, 0, none⟩, dn + F.cnt, cap, if cap = dn then some ⟨g, 0, none⟩ else some ⟨g, dn * 6, none⟩, cap - dn, hv, fun w => ?_, fun i hi => ?_, by omega⟩
  ·rw [run_slice_l w 23 _ _ cap Tryz.underlying23 .i64 dn (by omega) (by omega), Tryz.elem23, Tryz.size32]
   simp only [Result.andThen, sliced]
   by_cases hcd : cap = dn
   ·simp [hcd]
   ·simp [hcd, Addr.add]
    try omega
  ·rw [post_len] at hi
   have hcd : ¬ cap = dn := by omega
   refine ⟨g, dn * 6, by rw [if_neg hcd], ?_⟩
   rw [hv] at ho
   have := own_at ho (i := dn + i) (t := nd F.post i) (by
    rw [List.getElem?_append_right (by omega), hdn, show dn + i - dn = i by omega]
    unfold nd
    simp [List.getD, post_len, hi])
   rwa [Nat.add_mul] at this

set_option maxHeartbeats 1000000 in
theorem count_any {w : World} {a : Option Addr} {n cap : Nat} {l : List Nd} (hn : Hid (l.length = n)) (hl : n ≤ 600000) (hr : Hid (NRow w a l)) (k : Nat) :
  Calls Tryz.prog 79 #[.slice a n cap, .int .u8 k] w fun e w' => e = .returned (.int .i64 (cntK k l : Nat)) ∧ Below w.heap.size w w' := by
 go_enter Tryz.func79, Tryz.ntmps79
 go_wp2_with fail
 go_loopw [5, 10] (fun c j wr => ∃ i : Nat, i ≤ n ∧ j = .int .i64 i ∧ c = .int .i64 (cntK k (l.take i) : Nat) ∧ Below w.heap.size w wr) (fun _ j _ => n - (intOf j).toNat)
 case atStart => exact ⟨0, Nat.zero_le _, rfl, by simp [cntK], Below.refl _ _⟩
 case round =>
  obtain ⟨i, hi, rfl, rfl, hb⟩ := hrel
  have hcle : cntK k (l.take i) ≤ i := by
   unfold cntK
   refine Nat.le_trans (List.length_filter_le _ _) ?_
   rw [List.length_take]; omega
  by_cases hlt : i < n
  ·obtain ⟨g, o, rfl, hat⟩ := (hr.out.carry hb) i (by rw [hn.out]; exact hlt)
   obtain ⟨t0, t1, t2, t3, t4, t5⟩ := hat
   have hgl := block_lt_of_cell t0
   have htk : l.take (i + 1) = l.take i ++ [nd l i] := by
    rw [List.take_succ_eq_append_getElem (by rw [hn.out]; exact hlt)]
    unfold nd
    simp [List.getD, hn.out, hlt]
   obtain ⟨⟨kd, ln, cl, sz, nm, tx⟩, hnd⟩ : ∃ t, nd l i = t := ⟨_, rfl⟩
   rw [hnd] at htk t0 t1 t2 t3 t4 t5
   obtain ⟨c, hc⟩ : ∃ c, cntK k (l.take i) = c := ⟨_, rfl⟩
   rw [hc] at hcle
   rw [hc]
   simp only at t0 t1 t2 t3 t4 t5
   by_cases hkk : kd = k
   ·have e1 : ((kd : Int) == (k : Int)) = true := by rw [hkk]; simp
    have HC : Hid (cntK k (l.take (i + 1)) = c + 1) := Lib.hid (by rw [htk]; unfold cntK at hc ⊢; rw [List.filter_append, List.length_append, hc]; simp [hkk])
    replace hb := Lib.hid hb
    clear htk hc hkk hnd
    go_wp2_with fail
    go_roundw
    case rel => exact ⟨i + 1, hlt, by go_num, by rw [HC.out]; go_num, below_step hb.out (by go_grown)⟩
    case measure => simp [intOf]; omega
   ·have e1 : ((kd : Int) == (k : Int)) = false := by rw [beq_eq_false_iff_ne]; omega
    have HC : Hid (cntK k (l.take (i + 1)) = c) := Lib.hid (by rw [htk]; unfold cntK at hc ⊢; rw [List.filter_append, List.length_append, hc]; simp [hkk])
    replace hb := Lib.hid hb
    clear htk hc hkk hnd
    go_wp2_with fail
    go_roundw
    case rel => exact ⟨i + 1, hlt, by go_num, by rw [HC.out], below_step hb.out (by go_grown)⟩
    case measure => simp [intOf]; omega
  ·obtain rfl : i = n := by omega
   have hq : cntK k (l.take i) = cntK k l := by rw [← hn.out, List.take_length]
   rw [hq] at hcle
   rw [hq]
   replace hb := Lib.hid hb
   go_wp2_with fail
   go_ret
   exact ⟨rfl, hb.out⟩
end
end Go.Proofs.YtbknflaooemigaaGreat

namespace Go.Proofs.YtbknflaooemigaaGreat
section
open Go.RowKit Go.Sort
set_option linter.unusedVariables false
set_option linter.unusedSimpArgs false

theorem field_does (N n : Nat) (hN : n ≤ N) : Does 97 n (fieldP N) := fun w b tb to tc T at_ d v D ts h => field_r h (fun h => typed_r h 3 ((type_does N).mono hN))
theorem parameter_does (N n : Nat) (hN : n ≤ N) : Does 99 n (typedP 5 N) := by
 intro w b tb to tc T at_ d v D ts h
 have H := Lib.hid (typed_r h 5 ((type_does N).mono hN))
 clear h
 go_enter Tryz.func99, Tryz.ntmps99
 go_wp2_with fail
 refine H.out.mono ?_
 rintro e w1 ⟨rfl, hw⟩
 replace hw := Lib.hid hw
 go_wp2_with fail
 go_ret
 exact ⟨rfl, hw.out⟩

set_option maxHeartbeats 1000000 in
theorem record_r {w : World} {b tb to tc : Nat} {T : List Tok} {at_ d : Nat} {v : Value} {D : List Nd} {n : Nat} {ts : List Tok} (h : Sit w b tb to tc T at_ d v D n ts) {N : Nat} (hq : sees [114, 101, 99] ts = true) (hN : n ≤ N) : Calls Tryz.prog 53 #[pR b] w (Post b tb to tc T d D w (recP N d ts)) := by
 have hbl := h.rd.lt
 obtain ⟨⟨kd, ln, cl, nm, tx⟩, ht⟩ : ∃ t, hd ts = t := ⟨_, rfl⟩
 obtain ⟨a, cap, hv⟩ := own_slice h.rd.own
 obtain ⟨X, hX⟩ : ∃ X, bs tx = X := ⟨_, rfl⟩
 obtain ⟨dn, hdn⟩ : ∃ dn, D.length = dn := ⟨_, rfl⟩
 have HH : Hid (Calls Tryz.prog 73 #[pR b] w fun e w' => e = .returned (sV kd ln cl nm X dn) ∧ Below w.heap.size w w') := Lib.hid (by have := here_any h ht dn hdn a cap (by rw [hv, hdn]); rw [hX] at this; exact this)
 have hk : (hd ts).kind ≠ 8 := by obtain ⟨t, l, rfl, hk, _⟩ := sees_cons hq; simp [hd]; omega
 have hlt : at_ < T.length := (List.getElem?_eq_some_iff.1 h.next).1
 have htn := h.rd.tn
 have hn : at_ < 1000000 := by omega
 replace hk := Lib.hid hk
 obtain ⟨⟨kd2, ln2, cl2, nm2, tx2⟩, ht2⟩ : ∃ t, hd ts.tail = t := ⟨_, rfl⟩
 obtain ⟨X2, hX2⟩ : ∃ X2, bs tx2 = X2 := ⟨_, rfl⟩
 have hF := tokF4 kd2 ln2 cl2 nm2 X2
 cases e1 : (kindP 2) d ts.tail with
 | bad c l k =>
  rw [show (recP N) d ts = .bad c l k by simp only [recP, nodeP, afterP, seqP, Out.bind, e1]]
  replace e1 := Lib.hid e1
  have hs := Lib.hid h
  replace ht := Lib.hid ht
  replace hX := Lib.hid hX
  replace hdn := Lib.hid hdn
  replace hv := Lib.hid hv
  replace ht2 := Lib.hid ht2
  replace hX2 := Lib.hid hX2
  clear h hlt htn
  go_enter Tryz.func53, Tryz.ntmps53
  go_wp2_with fail
  refine HH.out.mono ?_
  rintro e w1 ⟨rfl, hb⟩
  have c1 := (hs.out.rd.carry hb).c1
  have fz := (hs.out.rd.carry hb).fz
  have hbl1 := (hs.out.rd.carry hb).lt
  have HT := (hs.out.carry hb).tail ((hs.out.carry hb).rd.bump (at_ + 1)) hk.out
  rw [show ((at_ + 1 : Nat) : Int) = (at_ : Int) + 1 by omega] at HT
  replace HT := Lib.hid HT
  replace hb := Lib.hid hb
  go_wp2_with fail
  obtain ⟨W, hW⟩ : ∃ W, W = (w1.setCell ⟨b, 1, none⟩ (.int .i64 ((at_ : Int) + 1))).alloc (.cells #[.int .u8 kd, .int .i64 ln, .int .i64 cl, .int .i64 nm, .string X, .int .i64 dn] 70) := ⟨_, rfl⟩
  rw [← hW]
  have HS0 : Hid (Sit W b tb to tc T (at_ + 1) d v D (n - 1) ts.tail) := Lib.hid (by rw [hW]; exact HT.out.carry (below_alloc _ _))
  have HF0 : Hid (Fr b w W) := Lib.hid (by rw [hW]; exact ((Fr.only (Onl.below hb.out) (by omega)).trans (Fr.only (Onl.set _ _ _ _) (by omega))).trans (Fr.only (Onl.below (below_alloc _ _)) (by simp; omega)))
  have HM0 : Hid (SAt W w1.heap.size kd ln cl nm X dn) := Lib.hid (by rw [hW]; have := SAt.made (w1.setCell ⟨b, 1, none⟩ (.int .i64 ((at_ : Int) + 1))) kd ln cl nm X dn; simpa using this)
  clear hW HT c1 fz
  have HN0 := Lib.hid (HS0.out.next_at ht2.out W (Below.refl _ _))
  rw [hX2.out] at HN0
  refine HN0.out.mono ?_
  rintro e wn ⟨rfl, hbn⟩
  replace HF0 := Lib.hid (HF0.out.trans (Fr.only (Onl.below hbn) (by have := HS0.out.rd.lt; omega)))
  replace HS0 := Lib.hid (HS0.out.carry hbn)
  replace HM0 := Lib.hid (HM0.out.below hbn)
  replace hbn := Lib.hid hbn
  go_wp2_with fail
  have HC1 := Lib.hid (badOf (kind_any HS0.out 2 (by decide)) e1.out)
  refine HC1.out.mono ?_
  rintro e w2 ⟨rfl, rf, fr⟩
  replace rf := Lib.hid rf
  replace fr := Lib.hid fr
  go_wp2_with fail
  go_ret
  exact ⟨rfl, rf.out, HF0.out.trans fr.out⟩
 | ok F1 r1 =>
  cases e2 : (withinP [123] [125] (untilP [125] (fieldP N) N)) d r1 with
  | bad c l k =>
   rw [show (recP N) d ts = .bad c l k by simp only [recP, nodeP, afterP, seqP, Out.bind, e1, e2]]
   replace e1 := Lib.hid e1
   replace e2 := Lib.hid e2
   have hs := Lib.hid h
   replace ht := Lib.hid ht
   replace hX := Lib.hid hX
   replace hdn := Lib.hid hdn
   replace hv := Lib.hid hv
   replace ht2 := Lib.hid ht2
   replace hX2 := Lib.hid hX2
   clear h hlt htn
   go_enter Tryz.func53, Tryz.ntmps53
   go_wp2_with fail
   refine HH.out.mono ?_
   rintro e w1 ⟨rfl, hb⟩
   have c1 := (hs.out.rd.carry hb).c1
   have fz := (hs.out.rd.carry hb).fz
   have hbl1 := (hs.out.rd.carry hb).lt
   have HT := (hs.out.carry hb).tail ((hs.out.carry hb).rd.bump (at_ + 1)) hk.out
   rw [show ((at_ + 1 : Nat) : Int) = (at_ : Int) + 1 by omega] at HT
   replace HT := Lib.hid HT
   replace hb := Lib.hid hb
   go_wp2_with fail
   obtain ⟨W, hW⟩ : ∃ W, W = (w1.setCell ⟨b, 1, none⟩ (.int .i64 ((at_ : Int) + 1))).alloc (.cells #[.int .u8 kd, .int .i64 ln, .int .i64 cl, .int .i64 nm, .string X, .int .i64 dn] 70) := ⟨_, rfl⟩
   rw [← hW]
   have HS0 : Hid (Sit W b tb to tc T (at_ + 1) d v D (n - 1) ts.tail) := Lib.hid (by rw [hW]; exact HT.out.carry (below_alloc _ _))
   have HF0 : Hid (Fr b w W) := Lib.hid (by rw [hW]; exact ((Fr.only (Onl.below hb.out) (by omega)).trans (Fr.only (Onl.set _ _ _ _) (by omega))).trans (Fr.only (Onl.below (below_alloc _ _)) (by simp; omega)))
   have HM0 : Hid (SAt W w1.heap.size kd ln cl nm X dn) := Lib.hid (by rw [hW]; have := SAt.made (w1.setCell ⟨b, 1, none⟩ (.int .i64 ((at_ : Int) + 1))) kd ln cl nm X dn; simpa using this)
   clear hW HT c1 fz
   have HN0 := Lib.hid (HS0.out.next_at ht2.out W (Below.refl _ _))
   rw [hX2.out] at HN0
   refine HN0.out.mono ?_
   rintro e wn ⟨rfl, hbn⟩
   replace HF0 := Lib.hid (HF0.out.trans (Fr.only (Onl.below hbn) (by have := HS0.out.rd.lt; omega)))
   replace HS0 := Lib.hid (HS0.out.carry hbn)
   replace HM0 := Lib.hid (HM0.out.below hbn)
   replace hbn := Lib.hid hbn
   go_wp2_with fail
   have HC1 := Lib.hid (okOf (kind_any HS0.out 2 (by decide)) e1.out)
   refine HC1.out.mono ?_
   rintro e w2 ⟨rfl, ⟨at1, v1, dr, rd⟩, fr⟩
   have HS1 := Lib.hid (HS0.out.then (s := 1) (gd_kind 2 (by decide) (by decide) d ts.tail F1 r1 e1.out) dr rd)
   have HF1 := Lib.hid (HF0.out.trans fr)
   have HM1 := Lib.hid (HM0.out.fr fr (by omega))
   clear dr rd fr
   go_wp2_with fail
   have HC2 := Lib.hid (badOf (within_r (HS1.out) { data := #[123] } { data := #[125] } [123] [125] (by rw [ByteArray.toList_eq]) (by rw [ByteArray.toList_eq]) (fn_of (fields_does (field_does N _ (by omega)) ((gd_field N).mono (by omega)) (fun d ts F r e => one_field e) N (by omega)) (by intro args w; simp [go_sem])) (gd_until ((gd_field N).mono (by omega)) N)) e2.out)
   refine HC2.out.mono ?_
   rintro e w3 ⟨rfl, rf, fr⟩
   replace rf := Lib.hid rf
   replace fr := Lib.hid fr
   go_wp2_with fail
   go_ret
   exact ⟨rfl, rf.out, HF1.out.trans fr.out⟩
  | ok F2 r2 =>
   rw [show (recP N) d ts = .ok (.cons (mkY 2 ts) (F1.app F2) .nil) r2 by simp only [recP, nodeP, afterP, seqP, Out.bind, e1, e2]]
   replace e1 := Lib.hid e1
   replace e2 := Lib.hid e2
   have hs := Lib.hid h
   replace ht := Lib.hid ht
   replace hX := Lib.hid hX
   replace hdn := Lib.hid hdn
   replace hv := Lib.hid hv
   replace ht2 := Lib.hid ht2
   replace hX2 := Lib.hid hX2
   clear h hlt htn
   go_enter Tryz.func53, Tryz.ntmps53
   go_wp2_with fail
   refine HH.out.mono ?_
   rintro e w1 ⟨rfl, hb⟩
   have c1 := (hs.out.rd.carry hb).c1
   have fz := (hs.out.rd.carry hb).fz
   have hbl1 := (hs.out.rd.carry hb).lt
   have HT := (hs.out.carry hb).tail ((hs.out.carry hb).rd.bump (at_ + 1)) hk.out
   rw [show ((at_ + 1 : Nat) : Int) = (at_ : Int) + 1 by omega] at HT
   replace HT := Lib.hid HT
   replace hb := Lib.hid hb
   go_wp2_with fail
   obtain ⟨W, hW⟩ : ∃ W, W = (w1.setCell ⟨b, 1, none⟩ (.int .i64 ((at_ : Int) + 1))).alloc (.cells #[.int .u8 kd, .int .i64 ln, .int .i64 cl, .int .i64 nm, .string X, .int .i64 dn] 70) := ⟨_, rfl⟩
   rw [← hW]
   have HS0 : Hid (Sit W b tb to tc T (at_ + 1) d v D (n - 1) ts.tail) := Lib.hid (by rw [hW]; exact HT.out.carry (below_alloc _ _))
   have HF0 : Hid (Fr b w W) := Lib.hid (by rw [hW]; exact ((Fr.only (Onl.below hb.out) (by omega)).trans (Fr.only (Onl.set _ _ _ _) (by omega))).trans (Fr.only (Onl.below (below_alloc _ _)) (by simp; omega)))
   have HM0 : Hid (SAt W w1.heap.size kd ln cl nm X dn) := Lib.hid (by rw [hW]; have := SAt.made (w1.setCell ⟨b, 1, none⟩ (.int .i64 ((at_ : Int) + 1))) kd ln cl nm X dn; simpa using this)
   clear hW HT c1 fz
   have HN0 := Lib.hid (HS0.out.next_at ht2.out W (Below.refl _ _))
   rw [hX2.out] at HN0
   refine HN0.out.mono ?_
   rintro e wn ⟨rfl, hbn⟩
   replace HF0 := Lib.hid (HF0.out.trans (Fr.only (Onl.below hbn) (by have := HS0.out.rd.lt; omega)))
   replace HS0 := Lib.hid (HS0.out.carry hbn)
   replace HM0 := Lib.hid (HM0.out.below hbn)
   replace hbn := Lib.hid hbn
   go_wp2_with fail
   have HC1 := Lib.hid (okOf (kind_any HS0.out 2 (by decide)) e1.out)
   refine HC1.out.mono ?_
   rintro e w2 ⟨rfl, ⟨at1, v1, dr, rd⟩, fr⟩
   have HS1 := Lib.hid (HS0.out.then (s := 1) (gd_kind 2 (by decide) (by decide) d ts.tail F1 r1 e1.out) dr rd)
   have HF1 := Lib.hid (HF0.out.trans fr)
   have HM1 := Lib.hid (HM0.out.fr fr (by omega))
   clear dr rd fr
   go_wp2_with fail
   have HC2 := Lib.hid (okOf (within_r (HS1.out) { data := #[123] } { data := #[125] } [123] [125] (by rw [ByteArray.toList_eq]) (by rw [ByteArray.toList_eq]) (fn_of (fields_does (field_does N _ (by omega)) ((gd_field N).mono (by omega)) (fun d ts F r e => one_field e) N (by omega)) (by intro args w; simp [go_sem])) (gd_until ((gd_field N).mono (by omega)) N)) e2.out)
   refine HC2.out.mono ?_
   rintro e w3 ⟨rfl, ⟨at2, v2, dr, rd⟩, fr⟩
   have HS2 := Lib.hid (HS1.out.then (s := 2) (gd_within (o := [123]) (c := [125]) (gd_until ((gd_field N).mono (by omega)) N) d r1 F2 r2 e2.out) dr rd)
   have HF2 := Lib.hid (HF1.out.trans fr)
   have HM2 := Lib.hid (HM1.out.fr fr (by omega))
   clear dr rd fr
   obtain ⟨m0, m1, m2, m3, m4, m5⟩ := HM2.out.at
   go_wp2_with fail
   have HA := Lib.hid (add_any HS2.out.rd kd ln cl dn nm X 2 0 0 0 0 X2 (F1.app F2).cnt (by have := hdn.out; simp [post_len, cnt_app, Fo.cnt]; omega) (by have := HS2.out.rm; omega))
   refine HA.out.mono ?_
   rintro e wa ⟨rfl, ⟨va, rda⟩, fra⟩
   replace rda := Lib.hid rda
   replace fra := Lib.hid fra
   go_wp2_with fail
   go_ret
   exact ⟨rfl, ⟨at2, va, HS2.out.dr, rd_node rda.out (by simp [post_app, Fo.post, List.append_assoc]) (by simp [mkK, mkX, mkY, mkN, Inf.nd, ht.out, ht2.out, hX2.out]; try rfl)⟩, HF2.out.trans fra.out⟩

set_option maxHeartbeats 400000 in
theorem result_r {w : World} {b tb to tc : Nat} {T : List Tok} {at_ d : Nat} {v : Value} {D : List Nd} {n : Nat} {ts : List Tok} (h : Sit w b tb to tc T at_ d v D n ts) (N : Nat) (hN : n ≤ N) : Calls Tryz.prog 80 #[pR b] w (Post b tb to tc T d D w (resultP N d ts)) := by
 have hbl := h.rd.lt
 unfold resultP
 cases q0 : sees [58] ts with
 | false =>
  have Q0 := Lib.hid (sees_any h.rd h.next { data := #[58] } [58] (by rw [ByteArray.toList_eq]) false q0)
  rw [if_neg (by simp)]
  obtain ⟨a, cap, hv⟩ := own_slice h.rd.own
  obtain ⟨dn, hdn⟩ : ∃ dn, D.length = dn := ⟨_, rfl⟩
  have hrm := h.rm
  replace h := Lib.hid h
  replace hdn := Lib.hid hdn
  replace hv := Lib.hid hv
  go_enter Tryz.func80, Tryz.ntmps80
  go_wp2_with fail
  refine Q0.out.mono ?_
  rintro e w1 ⟨rfl, hb⟩
  have c3 := (h.out.rd.carry hb).c3
  rw [hv.out, hdn.out] at c3
  have HA := Lib.hid (add_any (h.out.rd.carry hb) 0 0 0 dn 0 { data := #[] } 14 0 0 0 0 { data := #[] } 0 (by rw [hdn.out]; rfl) (by omega))
  replace hb := Lib.hid hb
  go_wp2_with fail
  refine HA.out.mono ?_
  rintro e w2 ⟨rfl, ⟨v2, rd2⟩, fr2⟩
  replace rd2 := Lib.hid rd2
  replace fr2 := Lib.hid fr2
  go_wp2_with fail
  go_ret
  exact ⟨rfl, ⟨at_, v2, h.out.dr, by have := rd2.out; simpa [Fo.post, Fo.cnt, Inf.nd, bs] using this⟩, (Fr.only (Onl.below hb.out) (by omega)).trans fr2.out⟩
 | true =>
  have Q0 := Lib.hid (sees_any h.rd h.next { data := #[58] } [58] (by rw [ByteArray.toList_eq]) true q0)
  have hk : (hd ts).kind ≠ 8 := by
   obtain ⟨t, l, rfl, hk, _⟩ := sees_cons q0
   simp [hd]; omega
  have hlt : at_ < T.length := (List.getElem?_eq_some_iff.1 h.next).1
  have htn := h.rd.tn
  have hn : at_ < 1000000 := by omega
  rw [if_pos rfl]
  replace hk := Lib.hid hk
  replace h := Lib.hid h
  clear q0 hlt htn
  go_enter Tryz.func80, Tryz.ntmps80
  go_wp2_with fail
  refine Q0.out.mono ?_
  rintro e w1 ⟨rfl, hb⟩
  have c1 := (h.out.rd.carry hb).c1
  have fz := (h.out.rd.carry hb).fz
  have HT := (h.out.carry hb).tail ((h.out.carry hb).rd.bump (at_ + 1)) hk.out
  rw [show ((at_ + 1 : Nat) : Int) = (at_ : Int) + 1 by omega] at HT
  have HC := Lib.hid (type_does N (HT.up (by omega)))
  have HF := Lib.hid ((Fr.only (Onl.below hb) (by omega)).trans (Fr.only (Onl.set b w1 1 (.int .i64 ((at_ : Int) + 1))) (by have := (h.out.rd.carry hb).lt; omega)))
  replace hb := Lib.hid hb
  clear HT
  go_wp2_with fail
  refine HC.out.mono ?_
  rintro e w2 ⟨rfl, hw⟩
  replace hw := Lib.hid hw
  go_wp2_with fail
  go_ret
  exact ⟨rfl, hw.out.back HF.out⟩

set_option maxHeartbeats 4000000 in
theorem function_r {w : World} {b tb to tc : Nat} {T : List Tok} {at_ d : Nat} {v : Value} {D : List Nd} {n : Nat} {ts : List Tok} (h : Sit w b tb to tc T at_ d v D n ts) {N : Nat} (hN : n ≤ N) : Calls Tryz.prog 54 #[pR b] w (Post b tb to tc T d D w (fnP N d ts)) := by
 have hbl := h.rd.lt
 obtain ⟨⟨kd, ln, cl, nm, tx⟩, ht⟩ : ∃ t, hd ts = t := ⟨_, rfl⟩
 obtain ⟨a, cap, hv⟩ := own_slice h.rd.own
 obtain ⟨X, hX⟩ : ∃ X, bs tx = X := ⟨_, rfl⟩
 obtain ⟨dn, hdn⟩ : ∃ dn, D.length = dn := ⟨_, rfl⟩
 have HH : Hid (Calls Tryz.prog 73 #[pR b] w fun e w' => e = .returned (sV kd ln cl nm X dn) ∧ Below w.heap.size w w') := Lib.hid (by have := here_any h ht dn hdn a cap (by rw [hv, hdn]); rw [hX] at this; exact this)
 cases e1 : (take [102, 110]) d ts with
 | bad c l k =>
  rw [show (fnP N) d ts = .bad c l k by simp only [fnP, seqP, Out.bind, e1]]
  replace e1 := Lib.hid e1
  have hs := Lib.hid h
  replace ht := Lib.hid ht
  replace hX := Lib.hid hX
  replace hdn := Lib.hid hdn
  replace hv := Lib.hid hv
  clear h
  go_enter Tryz.func54, Tryz.ntmps54
  go_wp2_with fail
  refine HH.out.mono ?_
  rintro e w1 ⟨rfl, hb⟩
  have hbl1 := (hs.out.rd.carry hb).lt
  replace hb := Lib.hid hb
  go_wp2_with fail
  obtain ⟨W, hW⟩ : ∃ W, W = w1.alloc (.cells #[.int .u8 kd, .int .i64 ln, .int .i64 cl, .int .i64 nm, .string X, .int .i64 dn] 70) := ⟨_, rfl⟩
  rw [← hW]
  have HS0 : Hid (Sit W b tb to tc T at_ d v D n ts) := Lib.hid (by rw [hW]; exact (hs.out.carry hb.out).carry (below_alloc _ _))
  have HF0 : Hid (Fr b w W) := Lib.hid (by rw [hW]; exact (Fr.only (Onl.below hb.out) (by omega)).trans (Fr.only (Onl.below (below_alloc _ _)) (by omega)))
  have HM0 : Hid (SAt W w1.heap.size kd ln cl nm X dn) := Lib.hid (by rw [hW]; exact SAt.made w1 kd ln cl nm X dn)
  clear hW
  have HC1 := Lib.hid (badOf (take_any HS0.out { data := #[102, 110] } [102, 110] (by rw [ByteArray.toList_eq])) e1.out)
  refine HC1.out.mono ?_
  rintro e w2 ⟨rfl, rf, fr⟩
  replace rf := Lib.hid rf
  replace fr := Lib.hid fr
  go_wp2_with fail
  go_ret
  exact ⟨rfl, rf.out, HF0.out.trans fr.out⟩
 | ok F1 r1 =>
  cases e2 : (kindP 1) d r1 with
  | bad c l k =>
   rw [show (fnP N) d ts = .bad c l k by simp only [fnP, seqP, Out.bind, e1, e2]]
   replace e1 := Lib.hid e1
   replace e2 := Lib.hid e2
   have hs := Lib.hid h
   replace ht := Lib.hid ht
   replace hX := Lib.hid hX
   replace hdn := Lib.hid hdn
   replace hv := Lib.hid hv
   clear h
   go_enter Tryz.func54, Tryz.ntmps54
   go_wp2_with fail
   refine HH.out.mono ?_
   rintro e w1 ⟨rfl, hb⟩
   have hbl1 := (hs.out.rd.carry hb).lt
   replace hb := Lib.hid hb
   go_wp2_with fail
   obtain ⟨W, hW⟩ : ∃ W, W = w1.alloc (.cells #[.int .u8 kd, .int .i64 ln, .int .i64 cl, .int .i64 nm, .string X, .int .i64 dn] 70) := ⟨_, rfl⟩
   rw [← hW]
   have HS0 : Hid (Sit W b tb to tc T at_ d v D n ts) := Lib.hid (by rw [hW]; exact (hs.out.carry hb.out).carry (below_alloc _ _))
   have HF0 : Hid (Fr b w W) := Lib.hid (by rw [hW]; exact (Fr.only (Onl.below hb.out) (by omega)).trans (Fr.only (Onl.below (below_alloc _ _)) (by omega)))
   have HM0 : Hid (SAt W w1.heap.size kd ln cl nm X dn) := Lib.hid (by rw [hW]; exact SAt.made w1 kd ln cl nm X dn)
   clear hW
   have HC1 := Lib.hid (okOf (take_any HS0.out { data := #[102, 110] } [102, 110] (by rw [ByteArray.toList_eq])) e1.out)
   refine HC1.out.mono ?_
   rintro e w2 ⟨rfl, ⟨at1, v1, dr, rd⟩, fr⟩
   have HS1 := Lib.hid (HS0.out.then (s := 1) (gd_take [102, 110] d ts F1 r1 e1.out) dr rd)
   have HF1 := Lib.hid (HF0.out.trans fr)
   have HM1 := Lib.hid (HM0.out.fr fr (by omega))
   clear dr rd fr
   have z1 : F1.cnt = 0 := by rw [nil_take e1.out]; rfl
   have y1 : F1.post = [] := by rw [nil_take e1.out]; rfl
   obtain ⟨⟨kd2, ln2, cl2, nm2, tx2⟩, ht2⟩ : ∃ t, hd r1 = t := ⟨_, rfl⟩
   obtain ⟨X2, hX2⟩ : ∃ X2, bs tx2 = X2 := ⟨_, rfl⟩
   have hF := tokF4 kd2 ln2 cl2 nm2 X2
   have HN0 := Lib.hid (HS1.out.next_at ht2 w2 (Below.refl _ _))
   rw [hX2] at HN0
   replace ht2 := Lib.hid ht2
   replace hX2 := Lib.hid hX2
   replace z1 := Lib.hid z1
   replace y1 := Lib.hid y1
   go_wp2_with fail
   refine HN0.out.mono ?_
   rintro e wn ⟨rfl, hbn⟩
   replace HF1 := Lib.hid (HF1.out.trans (Fr.only (Onl.below hbn) (by have := HS1.out.rd.lt; omega)))
   replace HS1 := Lib.hid (HS1.out.carry hbn)
   replace HM1 := Lib.hid (HM1.out.below hbn)
   replace hbn := Lib.hid hbn
   go_wp2_with fail
   have HC2 := Lib.hid (badOf (kind_any HS1.out 1 (by decide)) e2.out)
   refine HC2.out.mono ?_
   rintro e w3 ⟨rfl, rf, fr⟩
   replace rf := Lib.hid rf
   replace fr := Lib.hid fr
   go_wp2_with fail
   go_ret
   exact ⟨rfl, rf.out, HF1.out.trans fr.out⟩
  | ok F2 r2 =>
   cases e3 : (withinP [40] [41] (listedP (typedP 5 N) N)) d r2 with
   | bad c l k =>
    rw [show (fnP N) d ts = .bad c l k by simp only [fnP, seqP, Out.bind, e1, e2, e3]]
    replace e1 := Lib.hid e1
    replace e2 := Lib.hid e2
    replace e3 := Lib.hid e3
    have hs := Lib.hid h
    replace ht := Lib.hid ht
    replace hX := Lib.hid hX
    replace hdn := Lib.hid hdn
    replace hv := Lib.hid hv
    clear h
    go_enter Tryz.func54, Tryz.ntmps54
    go_wp2_with fail
    refine HH.out.mono ?_
    rintro e w1 ⟨rfl, hb⟩
    have hbl1 := (hs.out.rd.carry hb).lt
    replace hb := Lib.hid hb
    go_wp2_with fail
    obtain ⟨W, hW⟩ : ∃ W, W = w1.alloc (.cells #[.int .u8 kd, .int .i64 ln, .int .i64 cl, .int .i64 nm, .string X, .int .i64 dn] 70) := ⟨_, rfl⟩
    rw [← hW]
    have HS0 : Hid (Sit W b tb to tc T at_ d v D n ts) := Lib.hid (by rw [hW]; exact (hs.out.carry hb.out).carry (below_alloc _ _))
    have HF0 : Hid (Fr b w W) := Lib.hid (by rw [hW]; exact (Fr.only (Onl.below hb.out) (by omega)).trans (Fr.only (Onl.below (below_alloc _ _)) (by omega)))
    have HM0 : Hid (SAt W w1.heap.size kd ln cl nm X dn) := Lib.hid (by rw [hW]; exact SAt.made w1 kd ln cl nm X dn)
    clear hW
    have HC1 := Lib.hid (okOf (take_any HS0.out { data := #[102, 110] } [102, 110] (by rw [ByteArray.toList_eq])) e1.out)
    refine HC1.out.mono ?_
    rintro e w2 ⟨rfl, ⟨at1, v1, dr, rd⟩, fr⟩
    have HS1 := Lib.hid (HS0.out.then (s := 1) (gd_take [102, 110] d ts F1 r1 e1.out) dr rd)
    have HF1 := Lib.hid (HF0.out.trans fr)
    have HM1 := Lib.hid (HM0.out.fr fr (by omega))
    clear dr rd fr
    have z1 : F1.cnt = 0 := by rw [nil_take e1.out]; rfl
    have y1 : F1.post = [] := by rw [nil_take e1.out]; rfl
    obtain ⟨⟨kd2, ln2, cl2, nm2, tx2⟩, ht2⟩ : ∃ t, hd r1 = t := ⟨_, rfl⟩
    obtain ⟨X2, hX2⟩ : ∃ X2, bs tx2 = X2 := ⟨_, rfl⟩
    have hF := tokF4 kd2 ln2 cl2 nm2 X2
    have HN0 := Lib.hid (HS1.out.next_at ht2 w2 (Below.refl _ _))
    rw [hX2] at HN0
    replace ht2 := Lib.hid ht2
    replace hX2 := Lib.hid hX2
    replace z1 := Lib.hid z1
    replace y1 := Lib.hid y1
    go_wp2_with fail
    refine HN0.out.mono ?_
    rintro e wn ⟨rfl, hbn⟩
    replace HF1 := Lib.hid (HF1.out.trans (Fr.only (Onl.below hbn) (by have := HS1.out.rd.lt; omega)))
    replace HS1 := Lib.hid (HS1.out.carry hbn)
    replace HM1 := Lib.hid (HM1.out.below hbn)
    replace hbn := Lib.hid hbn
    go_wp2_with fail
    have HC2 := Lib.hid (okOf (kind_any HS1.out 1 (by decide)) e2.out)
    refine HC2.out.mono ?_
    rintro e w3 ⟨rfl, ⟨at2, v2, dr, rd⟩, fr⟩
    have HS2 := Lib.hid (HS1.out.then (s := 1) (gd_kind 1 (by decide) (by decide) d r1 F2 r2 e2.out) dr rd)
    have HF2 := Lib.hid (HF1.out.trans fr)
    have HM2 := Lib.hid (HM1.out.fr fr (by omega))
    clear dr rd fr
    go_wp2_with fail
    have HC3 := Lib.hid (badOf (within_r (HS2.out) { data := #[40] } { data := #[41] } [40] [41] (by rw [ByteArray.toList_eq]) (by rw [ByteArray.toList_eq]) (fn_of (parameters_does (parameter_does N _ (by omega)) ((gd_typed 5 N).mono (by omega)) N (by omega)) (by intro args w; simp [go_sem])) (gd_listed ((gd_typed 5 N).mono (by omega)) N)) e3.out)
    refine HC3.out.mono ?_
    rintro e w4 ⟨rfl, rf, fr⟩
    replace rf := Lib.hid rf
    replace fr := Lib.hid fr
    go_wp2_with fail
    go_ret
    exact ⟨rfl, rf.out, HF2.out.trans fr.out⟩
   | ok F3 r3 =>
    cases e4 : (resultP N) d r3 with
    | bad c l k =>
     rw [show (fnP N) d ts = .bad c l k by simp only [fnP, seqP, Out.bind, e1, e2, e3, e4]]
     replace e1 := Lib.hid e1
     replace e2 := Lib.hid e2
     replace e3 := Lib.hid e3
     replace e4 := Lib.hid e4
     have hs := Lib.hid h
     replace ht := Lib.hid ht
     replace hX := Lib.hid hX
     replace hdn := Lib.hid hdn
     replace hv := Lib.hid hv
     clear h
     go_enter Tryz.func54, Tryz.ntmps54
     go_wp2_with fail
     refine HH.out.mono ?_
     rintro e w1 ⟨rfl, hb⟩
     have hbl1 := (hs.out.rd.carry hb).lt
     replace hb := Lib.hid hb
     go_wp2_with fail
     obtain ⟨W, hW⟩ : ∃ W, W = w1.alloc (.cells #[.int .u8 kd, .int .i64 ln, .int .i64 cl, .int .i64 nm, .string X, .int .i64 dn] 70) := ⟨_, rfl⟩
     rw [← hW]
     have HS0 : Hid (Sit W b tb to tc T at_ d v D n ts) := Lib.hid (by rw [hW]; exact (hs.out.carry hb.out).carry (below_alloc _ _))
     have HF0 : Hid (Fr b w W) := Lib.hid (by rw [hW]; exact (Fr.only (Onl.below hb.out) (by omega)).trans (Fr.only (Onl.below (below_alloc _ _)) (by omega)))
     have HM0 : Hid (SAt W w1.heap.size kd ln cl nm X dn) := Lib.hid (by rw [hW]; exact SAt.made w1 kd ln cl nm X dn)
     clear hW
     have HC1 := Lib.hid (okOf (take_any HS0.out { data := #[102, 110] } [102, 110] (by rw [ByteArray.toList_eq])) e1.out)
     refine HC1.out.mono ?_
     rintro e w2 ⟨rfl, ⟨at1, v1, dr, rd⟩, fr⟩
     have HS1 := Lib.hid (HS0.out.then (s := 1) (gd_take [102, 110] d ts F1 r1 e1.out) dr rd)
     have HF1 := Lib.hid (HF0.out.trans fr)
     have HM1 := Lib.hid (HM0.out.fr fr (by omega))
     clear dr rd fr
     have z1 : F1.cnt = 0 := by rw [nil_take e1.out]; rfl
     have y1 : F1.post = [] := by rw [nil_take e1.out]; rfl
     obtain ⟨⟨kd2, ln2, cl2, nm2, tx2⟩, ht2⟩ : ∃ t, hd r1 = t := ⟨_, rfl⟩
     obtain ⟨X2, hX2⟩ : ∃ X2, bs tx2 = X2 := ⟨_, rfl⟩
     have hF := tokF4 kd2 ln2 cl2 nm2 X2
     have HN0 := Lib.hid (HS1.out.next_at ht2 w2 (Below.refl _ _))
     rw [hX2] at HN0
     replace ht2 := Lib.hid ht2
     replace hX2 := Lib.hid hX2
     replace z1 := Lib.hid z1
     replace y1 := Lib.hid y1
     go_wp2_with fail
     refine HN0.out.mono ?_
     rintro e wn ⟨rfl, hbn⟩
     replace HF1 := Lib.hid (HF1.out.trans (Fr.only (Onl.below hbn) (by have := HS1.out.rd.lt; omega)))
     replace HS1 := Lib.hid (HS1.out.carry hbn)
     replace HM1 := Lib.hid (HM1.out.below hbn)
     replace hbn := Lib.hid hbn
     go_wp2_with fail
     have HC2 := Lib.hid (okOf (kind_any HS1.out 1 (by decide)) e2.out)
     refine HC2.out.mono ?_
     rintro e w3 ⟨rfl, ⟨at2, v2, dr, rd⟩, fr⟩
     have HS2 := Lib.hid (HS1.out.then (s := 1) (gd_kind 1 (by decide) (by decide) d r1 F2 r2 e2.out) dr rd)
     have HF2 := Lib.hid (HF1.out.trans fr)
     have HM2 := Lib.hid (HM1.out.fr fr (by omega))
     clear dr rd fr
     go_wp2_with fail
     have HC3 := Lib.hid (okOf (within_r (HS2.out) { data := #[40] } { data := #[41] } [40] [41] (by rw [ByteArray.toList_eq]) (by rw [ByteArray.toList_eq]) (fn_of (parameters_does (parameter_does N _ (by omega)) ((gd_typed 5 N).mono (by omega)) N (by omega)) (by intro args w; simp [go_sem])) (gd_listed ((gd_typed 5 N).mono (by omega)) N)) e3.out)
     refine HC3.out.mono ?_
     rintro e w4 ⟨rfl, ⟨at3, v3, dr, rd⟩, fr⟩
     have HS3 := Lib.hid (HS2.out.then (s := 2) (gd_within (o := [40]) (c := [41]) (gd_listed ((gd_typed 5 N).mono (by omega)) N) d r2 F3 r3 e3.out) dr rd)
     have HF3 := Lib.hid (HF2.out.trans fr)
     have HM3 := Lib.hid (HM2.out.fr fr (by omega))
     clear dr rd fr
     have hrd3 : Rd w4 b tb to tc T at3 d v3 (D ++ (F2.app F3).post) := by have := HS3.out.rd; simpa [post_app, y1.out, List.append_assoc] using this
     obtain ⟨a3, m3, cap3, a4, cap4, hv3, hcut, hrow, hle3⟩ := cut_row hrd3 dn hdn.out
     obtain ⟨cn, hcn⟩ : ∃ cn, (F2.app F3).cnt = cn := ⟨_, rfl⟩
     rw [hcn] at hcut
     obtain ⟨np, hnp⟩ : ∃ np, cntK 5 (F2.app F3).post = np := ⟨_, rfl⟩
     have c3 := hrd3.c3
     rw [hv3] at c3
     have hcn2 : cn ≤ 600000 := by have h1 := HS3.out.rm; have h2 := z1.out; simp [post_len] at h1; rw [cnt_app] at hcn; omega
     have HCN := Lib.hid (fun (w' : World) (hb : Below w4.heap.size w4 w') => count_any (cap := cap4) (Lib.hid (show (F2.app F3).post.length = cn by rw [post_len]; exact hcn)) hcn2 (Lib.hid (hrow.carry hb)) 5)
     rw [hnp] at HCN
     obtain ⟨m0, m1, m2, m3', m4, m5⟩ := HM3.out.at
     have k3 := fun D os => cell_regrown (w := w4) (a := ⟨b, 3, none⟩) (v := .slice a3 m3 cap3) c3 D os
     have k5 := fun D os => cell_regrown (w := w4) (a := ⟨w1.heap.size, 5, none⟩) (v := .int .i64 dn) m5 D os
     have cc : ∀ D os, Calls Tryz.prog 79 #[.slice a4 cn cap4, .int .u8 5] (grow (redrawn w4 D) os) fun e w'' => e = .returned (.int .i64 np) ∧ ∃ p : Regrown, w'' = grow (redrawn w4 p.d) p.os := fun D os => Calls.regrown_of (HCN.out _ (below_regrown _ _ _))
     replace hnp := Lib.hid hnp
     clear hrd3 hv3 hrow hcn m0 m1 m2 m3' m4 m5 c3
     go_wp2_with fail
     refine wp_region_quiet_below (by kernel_rfl) (by kernel_rfl) ?_
     repeat (quiet_step (first | with_reducible exact cc _ _))
     refine wpQuiet_nil ?_
     rintro _ ⟨⟨dq, osq⟩, rfl⟩
     have hbq := below_regrown w4 dq osq
     clear k3 k5 cc
     generalize grow (redrawn w4 dq) osq = wq at *
     replace HF3 := Lib.hid (HF3.out.trans (Fr.only (Onl.below hbq) (by have := HS3.out.rd.lt; omega)))
     replace HS3 := Lib.hid (HS3.out.carry hbq)
     replace HM3 := Lib.hid (HM3.out.below hbq)
     replace hbq := Lib.hid hbq
     clear hcut
     go_wp2_with fail
     have HC4 := Lib.hid (badOf (result_r (HS3.out) N (by omega)) e4.out)
     refine HC4.out.mono ?_
     rintro e w5 ⟨rfl, rf, fr⟩
     replace rf := Lib.hid rf
     replace fr := Lib.hid fr
     go_wp2_with fail
     go_ret
     exact ⟨rfl, rf.out, HF3.out.trans fr.out⟩
    | ok F4 r4 =>
     cases e5 : (blockOf (stmtP N) N) d r4 with
     | bad c l k =>
      rw [show (fnP N) d ts = .bad c l k by simp only [fnP, seqP, Out.bind, e1, e2, e3, e4, e5]]
      replace e1 := Lib.hid e1
      replace e2 := Lib.hid e2
      replace e3 := Lib.hid e3
      replace e4 := Lib.hid e4
      replace e5 := Lib.hid e5
      have hs := Lib.hid h
      replace ht := Lib.hid ht
      replace hX := Lib.hid hX
      replace hdn := Lib.hid hdn
      replace hv := Lib.hid hv
      clear h
      go_enter Tryz.func54, Tryz.ntmps54
      go_wp2_with fail
      refine HH.out.mono ?_
      rintro e w1 ⟨rfl, hb⟩
      have hbl1 := (hs.out.rd.carry hb).lt
      replace hb := Lib.hid hb
      go_wp2_with fail
      obtain ⟨W, hW⟩ : ∃ W, W = w1.alloc (.cells #[.int .u8 kd, .int .i64 ln, .int .i64 cl, .int .i64 nm, .string X, .int .i64 dn] 70) := ⟨_, rfl⟩
      rw [← hW]
      have HS0 : Hid (Sit W b tb to tc T at_ d v D n ts) := Lib.hid (by rw [hW]; exact (hs.out.carry hb.out).carry (below_alloc _ _))
      have HF0 : Hid (Fr b w W) := Lib.hid (by rw [hW]; exact (Fr.only (Onl.below hb.out) (by omega)).trans (Fr.only (Onl.below (below_alloc _ _)) (by omega)))
      have HM0 : Hid (SAt W w1.heap.size kd ln cl nm X dn) := Lib.hid (by rw [hW]; exact SAt.made w1 kd ln cl nm X dn)
      clear hW
      have HC1 := Lib.hid (okOf (take_any HS0.out { data := #[102, 110] } [102, 110] (by rw [ByteArray.toList_eq])) e1.out)
      refine HC1.out.mono ?_
      rintro e w2 ⟨rfl, ⟨at1, v1, dr, rd⟩, fr⟩
      have HS1 := Lib.hid (HS0.out.then (s := 1) (gd_take [102, 110] d ts F1 r1 e1.out) dr rd)
      have HF1 := Lib.hid (HF0.out.trans fr)
      have HM1 := Lib.hid (HM0.out.fr fr (by omega))
      clear dr rd fr
      have z1 : F1.cnt = 0 := by rw [nil_take e1.out]; rfl
      have y1 : F1.post = [] := by rw [nil_take e1.out]; rfl
      obtain ⟨⟨kd2, ln2, cl2, nm2, tx2⟩, ht2⟩ : ∃ t, hd r1 = t := ⟨_, rfl⟩
      obtain ⟨X2, hX2⟩ : ∃ X2, bs tx2 = X2 := ⟨_, rfl⟩
      have hF := tokF4 kd2 ln2 cl2 nm2 X2
      have HN0 := Lib.hid (HS1.out.next_at ht2 w2 (Below.refl _ _))
      rw [hX2] at HN0
      replace ht2 := Lib.hid ht2
      replace hX2 := Lib.hid hX2
      replace z1 := Lib.hid z1
      replace y1 := Lib.hid y1
      go_wp2_with fail
      refine HN0.out.mono ?_
      rintro e wn ⟨rfl, hbn⟩
      replace HF1 := Lib.hid (HF1.out.trans (Fr.only (Onl.below hbn) (by have := HS1.out.rd.lt; omega)))
      replace HS1 := Lib.hid (HS1.out.carry hbn)
      replace HM1 := Lib.hid (HM1.out.below hbn)
      replace hbn := Lib.hid hbn
      go_wp2_with fail
      have HC2 := Lib.hid (okOf (kind_any HS1.out 1 (by decide)) e2.out)
      refine HC2.out.mono ?_
      rintro e w3 ⟨rfl, ⟨at2, v2, dr, rd⟩, fr⟩
      have HS2 := Lib.hid (HS1.out.then (s := 1) (gd_kind 1 (by decide) (by decide) d r1 F2 r2 e2.out) dr rd)
      have HF2 := Lib.hid (HF1.out.trans fr)
      have HM2 := Lib.hid (HM1.out.fr fr (by omega))
      clear dr rd fr
      go_wp2_with fail
      have HC3 := Lib.hid (okOf (within_r (HS2.out) { data := #[40] } { data := #[41] } [40] [41] (by rw [ByteArray.toList_eq]) (by rw [ByteArray.toList_eq]) (fn_of (parameters_does (parameter_does N _ (by omega)) ((gd_typed 5 N).mono (by omega)) N (by omega)) (by intro args w; simp [go_sem])) (gd_listed ((gd_typed 5 N).mono (by omega)) N)) e3.out)
      refine HC3.out.mono ?_
      rintro e w4 ⟨rfl, ⟨at3, v3, dr, rd⟩, fr⟩
      have HS3 := Lib.hid (HS2.out.then (s := 2) (gd_within (o := [40]) (c := [41]) (gd_listed ((gd_typed 5 N).mono (by omega)) N) d r2 F3 r3 e3.out) dr rd)
      have HF3 := Lib.hid (HF2.out.trans fr)
      have HM3 := Lib.hid (HM2.out.fr fr (by omega))
      clear dr rd fr
      have hrd3 : Rd w4 b tb to tc T at3 d v3 (D ++ (F2.app F3).post) := by have := HS3.out.rd; simpa [post_app, y1.out, List.append_assoc] using this
      obtain ⟨a3, m3, cap3, a4, cap4, hv3, hcut, hrow, hle3⟩ := cut_row hrd3 dn hdn.out
      obtain ⟨cn, hcn⟩ : ∃ cn, (F2.app F3).cnt = cn := ⟨_, rfl⟩
      rw [hcn] at hcut
      obtain ⟨np, hnp⟩ : ∃ np, cntK 5 (F2.app F3).post = np := ⟨_, rfl⟩
      have c3 := hrd3.c3
      rw [hv3] at c3
      have hcn2 : cn ≤ 600000 := by have h1 := HS3.out.rm; have h2 := z1.out; simp [post_len] at h1; rw [cnt_app] at hcn; omega
      have HCN := Lib.hid (fun (w' : World) (hb : Below w4.heap.size w4 w') => count_any (cap := cap4) (Lib.hid (show (F2.app F3).post.length = cn by rw [post_len]; exact hcn)) hcn2 (Lib.hid (hrow.carry hb)) 5)
      rw [hnp] at HCN
      obtain ⟨m0, m1, m2, m3', m4, m5⟩ := HM3.out.at
      have k3 := fun D os => cell_regrown (w := w4) (a := ⟨b, 3, none⟩) (v := .slice a3 m3 cap3) c3 D os
      have k5 := fun D os => cell_regrown (w := w4) (a := ⟨w1.heap.size, 5, none⟩) (v := .int .i64 dn) m5 D os
      have cc : ∀ D os, Calls Tryz.prog 79 #[.slice a4 cn cap4, .int .u8 5] (grow (redrawn w4 D) os) fun e w'' => e = .returned (.int .i64 np) ∧ ∃ p : Regrown, w'' = grow (redrawn w4 p.d) p.os := fun D os => Calls.regrown_of (HCN.out _ (below_regrown _ _ _))
      replace hnp := Lib.hid hnp
      clear hrd3 hv3 hrow hcn m0 m1 m2 m3' m4 m5 c3
      go_wp2_with fail
      refine wp_region_quiet_below (by kernel_rfl) (by kernel_rfl) ?_
      repeat (quiet_step (first | with_reducible exact cc _ _))
      refine wpQuiet_nil ?_
      rintro _ ⟨⟨dq, osq⟩, rfl⟩
      have hbq := below_regrown w4 dq osq
      clear k3 k5 cc
      generalize grow (redrawn w4 dq) osq = wq at *
      replace HF3 := Lib.hid (HF3.out.trans (Fr.only (Onl.below hbq) (by have := HS3.out.rd.lt; omega)))
      replace HS3 := Lib.hid (HS3.out.carry hbq)
      replace HM3 := Lib.hid (HM3.out.below hbq)
      replace hbq := Lib.hid hbq
      clear hcut
      go_wp2_with fail
      have HC4 := Lib.hid (okOf (result_r (HS3.out) N (by omega)) e4.out)
      refine HC4.out.mono ?_
      rintro e w5 ⟨rfl, ⟨at4, v4, dr, rd⟩, fr⟩
      have HS4 := Lib.hid ((⟨rd, dr, (result_lft N e4.out).2.1 HS3.out.en, by have h1 := (result_lft N e4.out).1; have h2 := HS3.out.ln; omega, by have l1 := (gd_take [102, 110] d ts F1 r1 e1.out).1; have l2 := (gd_kind 1 (by decide) (by decide) d r1 F2 r2 e2.out).1; have l3 := (gd_within (o := [40]) (c := [41]) (gd_listed ((gd_typed 5 N).mono (by omega)) N) d r2 F3 r3 e3.out).1; have l4 := (result_lft N e4.out).1; have l0 := hs.out.rm; simp [post_len]; omega, HS3.out.dp⟩ : Sit w5 b tb to tc T at4 d v4 (D ++ F1.post ++ F2.post ++ F3.post ++ F4.post) (n - 1 - 1 - 2) r4))
      have HF4 := Lib.hid (HF3.out.trans fr)
      have HM4 := Lib.hid (HM3.out.fr fr (by omega))
      clear dr rd fr
      go_wp2_with fail
      have HC5 := Lib.hid (badOf ((block_does (n := N) (m := N) ((stmt_does N).mono (by omega)) (by omega)) (HS4.out.up (by omega))) e5.out)
      refine HC5.out.mono ?_
      rintro e w6 ⟨rfl, rf, fr⟩
      replace rf := Lib.hid rf
      replace fr := Lib.hid fr
      go_wp2_with fail
      go_ret
      exact ⟨rfl, rf.out, HF4.out.trans fr.out⟩
     | ok F5 r5 =>
      rw [show (fnP N) d ts = .ok (.cons (⟨4, (hd ts).line, (hd ts).col, (cntK 5 (F2.app F3).post : Nat), (hd r1).text⟩) ((F2.app F3).app (F4.app F5)) .nil) r5 by simp only [fnP, seqP, Out.bind, e1, e2, e3, e4, e5]]
      replace e1 := Lib.hid e1
      replace e2 := Lib.hid e2
      replace e3 := Lib.hid e3
      replace e4 := Lib.hid e4
      replace e5 := Lib.hid e5
      have hs := Lib.hid h
      replace ht := Lib.hid ht
      replace hX := Lib.hid hX
      replace hdn := Lib.hid hdn
      replace hv := Lib.hid hv
      clear h
      go_enter Tryz.func54, Tryz.ntmps54
      go_wp2_with fail
      refine HH.out.mono ?_
      rintro e w1 ⟨rfl, hb⟩
      have hbl1 := (hs.out.rd.carry hb).lt
      replace hb := Lib.hid hb
      go_wp2_with fail
      obtain ⟨W, hW⟩ : ∃ W, W = w1.alloc (.cells #[.int .u8 kd, .int .i64 ln, .int .i64 cl, .int .i64 nm, .string X, .int .i64 dn] 70) := ⟨_, rfl⟩
      rw [← hW]
      have HS0 : Hid (Sit W b tb to tc T at_ d v D n ts) := Lib.hid (by rw [hW]; exact (hs.out.carry hb.out).carry (below_alloc _ _))
      have HF0 : Hid (Fr b w W) := Lib.hid (by rw [hW]; exact (Fr.only (Onl.below hb.out) (by omega)).trans (Fr.only (Onl.below (below_alloc _ _)) (by omega)))
      have HM0 : Hid (SAt W w1.heap.size kd ln cl nm X dn) := Lib.hid (by rw [hW]; exact SAt.made w1 kd ln cl nm X dn)
      clear hW
      have HC1 := Lib.hid (okOf (take_any HS0.out { data := #[102, 110] } [102, 110] (by rw [ByteArray.toList_eq])) e1.out)
      refine HC1.out.mono ?_
      rintro e w2 ⟨rfl, ⟨at1, v1, dr, rd⟩, fr⟩
      have HS1 := Lib.hid (HS0.out.then (s := 1) (gd_take [102, 110] d ts F1 r1 e1.out) dr rd)
      have HF1 := Lib.hid (HF0.out.trans fr)
      have HM1 := Lib.hid (HM0.out.fr fr (by omega))
      clear dr rd fr
      have z1 : F1.cnt = 0 := by rw [nil_take e1.out]; rfl
      have y1 : F1.post = [] := by rw [nil_take e1.out]; rfl
      obtain ⟨⟨kd2, ln2, cl2, nm2, tx2⟩, ht2⟩ : ∃ t, hd r1 = t := ⟨_, rfl⟩
      obtain ⟨X2, hX2⟩ : ∃ X2, bs tx2 = X2 := ⟨_, rfl⟩
      have hF := tokF4 kd2 ln2 cl2 nm2 X2
      have HN0 := Lib.hid (HS1.out.next_at ht2 w2 (Below.refl _ _))
      rw [hX2] at HN0
      replace ht2 := Lib.hid ht2
      replace hX2 := Lib.hid hX2
      replace z1 := Lib.hid z1
      replace y1 := Lib.hid y1
      go_wp2_with fail
      refine HN0.out.mono ?_
      rintro e wn ⟨rfl, hbn⟩
      replace HF1 := Lib.hid (HF1.out.trans (Fr.only (Onl.below hbn) (by have := HS1.out.rd.lt; omega)))
      replace HS1 := Lib.hid (HS1.out.carry hbn)
      replace HM1 := Lib.hid (HM1.out.below hbn)
      replace hbn := Lib.hid hbn
      go_wp2_with fail
      have HC2 := Lib.hid (okOf (kind_any HS1.out 1 (by decide)) e2.out)
      refine HC2.out.mono ?_
      rintro e w3 ⟨rfl, ⟨at2, v2, dr, rd⟩, fr⟩
      have HS2 := Lib.hid (HS1.out.then (s := 1) (gd_kind 1 (by decide) (by decide) d r1 F2 r2 e2.out) dr rd)
      have HF2 := Lib.hid (HF1.out.trans fr)
      have HM2 := Lib.hid (HM1.out.fr fr (by omega))
      clear dr rd fr
      go_wp2_with fail
      have HC3 := Lib.hid (okOf (within_r (HS2.out) { data := #[40] } { data := #[41] } [40] [41] (by rw [ByteArray.toList_eq]) (by rw [ByteArray.toList_eq]) (fn_of (parameters_does (parameter_does N _ (by omega)) ((gd_typed 5 N).mono (by omega)) N (by omega)) (by intro args w; simp [go_sem])) (gd_listed ((gd_typed 5 N).mono (by omega)) N)) e3.out)
      refine HC3.out.mono ?_
      rintro e w4 ⟨rfl, ⟨at3, v3, dr, rd⟩, fr⟩
      have HS3 := Lib.hid (HS2.out.then (s := 2) (gd_within (o := [40]) (c := [41]) (gd_listed ((gd_typed 5 N).mono (by omega)) N) d r2 F3 r3 e3.out) dr rd)
      have HF3 := Lib.hid (HF2.out.trans fr)
      have HM3 := Lib.hid (HM2.out.fr fr (by omega))
      clear dr rd fr
      have hrd3 : Rd w4 b tb to tc T at3 d v3 (D ++ (F2.app F3).post) := by have := HS3.out.rd; simpa [post_app, y1.out, List.append_assoc] using this
      obtain ⟨a3, m3, cap3, a4, cap4, hv3, hcut, hrow, hle3⟩ := cut_row hrd3 dn hdn.out
      obtain ⟨cn, hcn⟩ : ∃ cn, (F2.app F3).cnt = cn := ⟨_, rfl⟩
      rw [hcn] at hcut
      obtain ⟨np, hnp⟩ : ∃ np, cntK 5 (F2.app F3).post = np := ⟨_, rfl⟩
      have c3 := hrd3.c3
      rw [hv3] at c3
      have hcn2 : cn ≤ 600000 := by have h1 := HS3.out.rm; have h2 := z1.out; simp [post_len] at h1; rw [cnt_app] at hcn; omega
      have HCN := Lib.hid (fun (w' : World) (hb : Below w4.heap.size w4 w') => count_any (cap := cap4) (Lib.hid (show (F2.app F3).post.length = cn by rw [post_len]; exact hcn)) hcn2 (Lib.hid (hrow.carry hb)) 5)
      rw [hnp] at HCN
      obtain ⟨m0, m1, m2, m3', m4, m5⟩ := HM3.out.at
      have k3 := fun D os => cell_regrown (w := w4) (a := ⟨b, 3, none⟩) (v := .slice a3 m3 cap3) c3 D os
      have k5 := fun D os => cell_regrown (w := w4) (a := ⟨w1.heap.size, 5, none⟩) (v := .int .i64 dn) m5 D os
      have cc : ∀ D os, Calls Tryz.prog 79 #[.slice a4 cn cap4, .int .u8 5] (grow (redrawn w4 D) os) fun e w'' => e = .returned (.int .i64 np) ∧ ∃ p : Regrown, w'' = grow (redrawn w4 p.d) p.os := fun D os => Calls.regrown_of (HCN.out _ (below_regrown _ _ _))
      replace hnp := Lib.hid hnp
      clear hrd3 hv3 hrow hcn m0 m1 m2 m3' m4 m5 c3
      go_wp2_with fail
      refine wp_region_quiet_below (by kernel_rfl) (by kernel_rfl) ?_
      repeat (quiet_step (first | with_reducible exact cc _ _))
      refine wpQuiet_nil ?_
      rintro _ ⟨⟨dq, osq⟩, rfl⟩
      have hbq := below_regrown w4 dq osq
      clear k3 k5 cc
      generalize grow (redrawn w4 dq) osq = wq at *
      replace HF3 := Lib.hid (HF3.out.trans (Fr.only (Onl.below hbq) (by have := HS3.out.rd.lt; omega)))
      replace HS3 := Lib.hid (HS3.out.carry hbq)
      replace HM3 := Lib.hid (HM3.out.below hbq)
      replace hbq := Lib.hid hbq
      clear hcut
      go_wp2_with fail
      have HC4 := Lib.hid (okOf (result_r (HS3.out) N (by omega)) e4.out)
      refine HC4.out.mono ?_
      rintro e w5 ⟨rfl, ⟨at4, v4, dr, rd⟩, fr⟩
      have HS4 := Lib.hid ((⟨rd, dr, (result_lft N e4.out).2.1 HS3.out.en, by have h1 := (result_lft N e4.out).1; have h2 := HS3.out.ln; omega, by have l1 := (gd_take [102, 110] d ts F1 r1 e1.out).1; have l2 := (gd_kind 1 (by decide) (by decide) d r1 F2 r2 e2.out).1; have l3 := (gd_within (o := [40]) (c := [41]) (gd_listed ((gd_typed 5 N).mono (by omega)) N) d r2 F3 r3 e3.out).1; have l4 := (result_lft N e4.out).1; have l0 := hs.out.rm; simp [post_len]; omega, HS3.out.dp⟩ : Sit w5 b tb to tc T at4 d v4 (D ++ F1.post ++ F2.post ++ F3.post ++ F4.post) (n - 1 - 1 - 2) r4))
      have HF4 := Lib.hid (HF3.out.trans fr)
      have HM4 := Lib.hid (HM3.out.fr fr (by omega))
      clear dr rd fr
      go_wp2_with fail
      have HC5 := Lib.hid (okOf ((block_does (n := N) (m := N) ((stmt_does N).mono (by omega)) (by omega)) (HS4.out.up (by omega))) e5.out)
      refine HC5.out.mono ?_
      rintro e w6 ⟨rfl, ⟨at5, v5, dr, rd⟩, fr⟩
      have HS5 := Lib.hid (HS4.out.then (s := 1) (gd_block (gd_stmt N) N d r4 F5 r5 e5.out) dr rd)
      have HF5 := Lib.hid (HF4.out.trans fr)
      have HM5 := Lib.hid (HM4.out.fr fr (by omega))
      clear dr rd fr
      obtain ⟨m0, m1, m2, m3, m4, m5⟩ := HM5.out.at
      go_wp2_with fail
      have HA := Lib.hid (add_any HS5.out.rd kd ln cl dn nm X 4 0 0 0 (np : Int) X2 ((F2.app F3).app (F4.app F5)).cnt (by have := hdn.out; have := z1.out; simp [post_len, cnt_app, Fo.cnt]; omega) (by have := HS5.out.rm; omega))
      refine HA.out.mono ?_
      rintro e wa ⟨rfl, ⟨va, rda⟩, fra⟩
      replace rda := Lib.hid rda
      replace fra := Lib.hid fra
      go_wp2_with fail
      go_ret
      exact ⟨rfl, ⟨at5, va, HS5.out.dr, rd_node rda.out (by simp [post_app, Fo.post, List.append_assoc, y1.out]) (by simp [mkK, mkX, mkY, mkN, Inf.nd, ht.out, ht2.out, hX2.out, hnp.out]; try rfl)⟩, HF5.out.trans fra.out⟩

set_option maxHeartbeats 400000 in
theorem declaration_r {w : World} {b tb to tc : Nat} {T : List Tok} {at_ d : Nat} {v : Value} {D : List Nd} {n : Nat} {ts : List Tok} (h : Sit w b tb to tc T at_ d v D n ts) {N : Nat} (hN : n ≤ N) : Calls Tryz.prog 36 #[pR b] w (Post b tb to tc T d D w ((declP N) d ts)) := by
 have hbl := h.rd.lt
 cases q0 : sees [114, 101, 99] ts with
 | true =>
  have HS := Lib.hid h
  have Q0 := Lib.hid (fun w' hb => sees_any (h.rd.carry (w' := w') hb) h.next { data := #[114, 101, 99] } [114, 101, 99] (by rw [ByteArray.toList_eq]) true q0)
  simp only [declP, iteP]
  rw [if_pos q0]
  have HCALL := Lib.hid (fun (w' : World) (hb : Below w.heap.size w w') => record_r (h.carry hb) q0 hN)
  clear h
  go_enter Tryz.func36, Tryz.ntmps36
  go_wp2_with fail
  refine (Q0.out _ (Below.refl _ _)).mono ?_
  rintro e w1 ⟨rfl, hb1⟩
  replace hb1 := Lib.hid hb1
  go_wp2_with fail
  refine (HCALL.out _ (hb1.out)).mono ?_
  rintro e wz ⟨rfl, hw⟩
  replace hw := Lib.hid hw
  go_wp2_with fail
  go_ret
  exact ⟨rfl, hw.out.back (Fr.only (Onl.below (hb1.out)) (by omega))⟩
 | false =>
  have HS := Lib.hid h
  have Q0 := Lib.hid (fun w' hb => sees_any (h.rd.carry (w' := w') hb) h.next { data := #[114, 101, 99] } [114, 101, 99] (by rw [ByteArray.toList_eq]) false q0)
  simp only [declP, iteP]
  rw [if_neg (show ¬ sees [114, 101, 99] ts = true by rw [q0]; simp)]
  have HCALL := Lib.hid (fun (w' : World) (hb : Below w.heap.size w w') => function_r (h.carry hb) hN)
  clear h
  go_enter Tryz.func36, Tryz.ntmps36
  go_wp2_with fail
  refine (Q0.out _ (Below.refl _ _)).mono ?_
  rintro e w1 ⟨rfl, hb1⟩
  replace hb1 := Lib.hid hb1
  go_wp2_with fail
  refine (HCALL.out _ (hb1.out)).mono ?_
  rintro e wz ⟨rfl, hw⟩
  replace hw := Lib.hid hw
  go_wp2_with fail
  go_ret
  exact ⟨rfl, hw.out.back (Fr.only (Onl.below (hb1.out)) (by omega))⟩
end
end Go.Proofs.YtbknflaooemigaaGreat

namespace Go.Proofs.YtbknflaooemigaaGreat
section
open Go.RowKit Go.Sort
set_option linter.unusedVariables false
set_option linter.unusedSimpArgs false

theorem end_yes {w : World} {b tb to tc : Nat} {T : List Tok} {at_ d : Nat} {v : Value} {D : List Nd} {n : Nat} {ts : List Tok} (h : Sit w b tb to tc T at_ d v D n ts) (hk : (hd ts).kind = 8) : Calls Tryz.prog 22 #[pR b] w fun e w' => e = .returned (.bool true) ∧ Below w.heap.size w w' := by
 obtain ⟨⟨kd, ln, cl, nm, tx⟩, ht⟩ : ∃ t, hd ts = t := ⟨_, rfl⟩
 have H := Lib.hid (h.next_at ht w (Below.refl _ _))
 have hF := tokF0 kd ln cl nm (bs tx)
 have k8 : ((kd : Int) == 8) = true := by rw [ht] at hk; simp at hk; rw [hk]; rfl
 clear h hk ht
 go_enter Tryz.func22, Tryz.ntmps22
 go_wp2_with fail
 refine H.out.mono ?_
 rintro e w1 ⟨rfl, hb⟩
 replace hb := Lib.hid hb
 go_wp2_with fail
 go_ret
 exact ⟨rfl, hb.out⟩

theorem end_no {w : World} {b tb to tc : Nat} {T : List Tok} {at_ d : Nat} {v : Value} {D : List Nd} {n : Nat} {ts : List Tok} (h : Sit w b tb to tc T at_ d v D n ts) (hk : ¬ (hd ts).kind = 8) : Calls Tryz.prog 22 #[pR b] w (BadP b w 5 (hd ts).line (hd ts).col) := by
 obtain ⟨⟨kd, ln, cl, nm, tx⟩, ht⟩ : ∃ t, hd ts = t := ⟨_, rfl⟩
 have H := Lib.hid (h.next_at ht w (Below.refl _ _))
 have HN := Lib.hid (fun (w' : World) (hb : Below w.heap.size w w') => fail_any (h.rd.carry hb) h.next 5)
 have hF := tokF0 kd ln cl nm (bs tx)
 have k8 : ((kd : Int) == 8) = false := by rw [ht] at hk; simp at hk; rw [beq_eq_false_iff_ne]; omega
 clear h hk ht
 go_enter Tryz.func22, Tryz.ntmps22
 go_wp2_with fail
 refine H.out.mono ?_
 rintro e w1 ⟨rfl, hb⟩
 replace hb := Lib.hid hb
 go_wp2_with fail
 refine (HN.out _ hb.out).mono ?_
 rintro e w2 ⟨rfl, h1, h2⟩
 replace h1 := Lib.hid h1
 replace h2 := Lib.hid h2
 go_wp2_with fail
 go_ret
 exact ⟨rfl, h1.out, (Onl.below hb.out).trans h2.out⟩

set_option maxHeartbeats 1000000 in
theorem program_r {w : World} {b tb to tc : Nat} {T : List Tok} {at_ d : Nat} {v : Value} {n : Nat} {ts : List Tok} (h : Sit w b tb to tc T at_ d v [] n ts) (N : Nat) (hN : n ≤ N) :
  Calls Tryz.prog 17 #[pR b] w (Post b tb to tc T d [] w (progP N d ts)) := by
 have hbl := h.rd.lt
 unfold progP
 obtain ⟨R, hR⟩ : ∃ R, progL (declP N) N d ts = R := ⟨_, rfl⟩
 rw [hR]
 have HS : Hid (ULoop w b tb to tc T d [] n (progL (declP N)) R w) := Lib.hid ⟨at_, v, .nil, ts, N, by simpa [Fo.post] using h, by rw [← hR]; cases progL (declP N) N d ts <;> rfl, by have := h.ln; omega, Fr.refl _ _⟩
 have hdo : Hid (Does 36 n (declP N)) := Lib.hid fun w b tb to tc T at_ d v D ts h => declaration_r h hN
 have hg := Lib.hid (gd_decl N)
 clear h hR
 go_enter Tryz.func17, Tryz.ntmps17
 go_wp2_with fail
 go_loopw [2] (fun v wr => v = .bool false ∧ ULoop w b tb to tc T d [] n (progL (declP N)) R wr) (fun _ wr => left T b wr)
 case atStart => exact ⟨rfl, HS.out⟩
 case round =>
  obtain ⟨rfl, at1, v1, A, ts1, m, hs, hRR, hm, hfr⟩ := hrel
  obtain ⟨t, l, hts⟩ := hs.en.ne
  obtain ⟨m, rfl⟩ : ∃ m', m = m' + 1 := ⟨m - 1, by rw [hts] at hm; simp at hm; omega⟩
  obtain ⟨⟨kd, ln, cl, nm, tx⟩, ht⟩ : ∃ t, hd ts1 = t := ⟨_, rfl⟩
  have H := Lib.hid (hs.next_at ht wr (Below.refl _ _))
  have hF := tokF0 kd ln cl nm (bs tx)
  by_cases hk : (hd ts1).kind = 8
  ·have HR : Hid (R = .ok A ts1) := Lib.hid (by rw [← hRR]; unfold progL; rw [if_pos hk]; simp [Out.bind, app_nil])
   have k8 : ((kd : Int) != 8) = false := by rw [ht] at hk; simp at hk; rw [hk]; rfl
   replace hs := Lib.hid hs
   replace hfr := Lib.hid hfr
   clear hRR hts hk hm ht
   go_wp2_with fail
   refine H.out.mono ?_
   rintro e w1 ⟨rfl, hb⟩
   have HA := Lib.hid (add_any (hs.out.rd.carry hb) 0 1 1 0 0 { data := #[] } 1 0 0 0 0 { data := #[] } A.cnt (by simp [post_len]) (by have := hs.out.rm; omega))
   replace hb := Lib.hid hb
   go_wp2_with fail
   refine HA.out.mono ?_
   rintro e w2 ⟨rfl, ⟨v2, rd2⟩, fr2⟩
   replace rd2 := Lib.hid rd2
   replace fr2 := Lib.hid fr2
   go_wp2_with fail
   go_ret
   rw [HR.out]
   exact ⟨rfl, ⟨at1, v2, hs.out.dr, rd_node rd2.out rfl (by simp [Inf.nd]; rfl)⟩, (hfr.out.trans (Fr.only (Onl.below hb.out) (by have := hs.out.rd.lt; omega))).trans fr2.out⟩
  ·have k8 : ((kd : Int) != 8) = true := bne_of (by rw [ht] at hk; simp at hk; omega)
   have HD := Lib.hid (fun (w' : World) (hb : Below wr.heap.size wr w') => hdo.out (hs.carry hb))
   obtain ⟨o, ho⟩ : ∃ o, declP N d ts1 = o := ⟨_, rfl⟩
   have HRR : Hid ((o.bind fun F r => (progL (declP N) m d r).bind fun G r' => .ok (F.app G) r').bind (fun G r' => .ok (A.app G) r') = R) := Lib.hid (by rw [← hRR, ← ho]; conv => rhs; unfold progL; rw [if_neg hk])
   rw [ho] at HD
   have HL := Lib.hid (fun F r e => hg.out d ts1 F r (ho.trans e))
   have H1 := Lib.hid (fun F r e => one_decl N (d := d) (ts := ts1) (F := F) (r := r) (ho.trans e))
   replace hs := Lib.hid hs
   replace hfr := Lib.hid hfr
   clear hRR hts hk ho ht
   go_wp2_with fail
   refine H.out.mono ?_
   rintro e w1 ⟨rfl, hb⟩
   replace hb := Lib.hid hb
   go_wp2_with fail
   refine (HD.out _ hb.out).mono ?_
   rintro e w2 ⟨rfl, hw⟩
   cases o with
   | bad c l k =>
    replace hw := Lib.hid hw
    go_wp2_with fail
    go_ret
    rw [← HRR.out]
    exact ⟨rfl, hw.out.1, (hfr.out.trans (Fr.only (Onl.below hb.out) (by have := hs.out.rd.lt; omega))).trans hw.out.2⟩
   | ok F r =>
    obtain ⟨⟨at', v', hdr, hrd⟩, hf2⟩ := hw
    have hS2 := Lib.hid (hs.out.then (s := 0) (HL.out F r rfl) hdr hrd)
    replace hf2 := Lib.hid hf2
    clear hdr hrd
    go_wp2_with fail
    go_roundw
    case rel =>
     refine ⟨rfl, at', v', A.app F, r, m, by rw [post_app, ← List.append_assoc]; exact hS2.out, ?_, ?_, (hfr.out.trans (Fr.only (Onl.below hb.out) (by have := hs.out.rd.lt; omega))).trans hf2.out⟩
     ·rw [← HRR.out]
      show _ = (((progL (declP N) m d r).bind fun G r' => .ok (F.app G) r').bind fun G r' => .ok (A.app G) r')
      cases progL (declP N) m d r with
      | ok G r' => simp [Out.bind, app_assoc]
      | bad c l k => rfl
     ·have := (HL.out F r rfl).1
      have := H1.out F r rfl
      omega
    case measure =>
     rw [left_at hs.out, left_at hS2.out]
     have := (HL.out F r rfl).1
     have := H1.out F r rfl
     omega
end
end Go.Proofs.YtbknflaooemigaaGreat
