/-
 Contracts of parse.reader's otherwise, answer, variable, setOrDo. Conditions: as said. Contract of parse.reader's worded: a statement that begins with a word of its own. Conditions: as said. Contracts of parse.reader's statement and block. Conditions: as said.
-/
import Derived.Test.YtbknflaooemigaaGreatRd4
import Derived.Test.YtbknflaooemigaaGreatGra
import Derived.IntWalk
namespace Go.Proofs.YtbknflaooemigaaGreat
section
open Go.RowKit Go.Sort
set_option linter.unusedVariables false
set_option linter.unusedSimpArgs false

set_option maxHeartbeats 400000 in
theorem else_r {w : World} {b tb to tc : Nat} {T : List Tok} {at_ d : Nat} {v : Value} {D : List Nd} {n : Nat} {ts : List Tok} (h : Sit w b tb to tc T at_ d v D n ts) {B : Pt} (hB : Does 81 (n - 1) B) : Calls Tryz.prog 121 #[pR b] w (Post b tb to tc T d D w (elseP B d ts)) := by
 have hbl := h.rd.lt
 unfold elseP iteP
 cases q0 : sees [101, 108, 115, 101] ts with
 | false =>
  have Q0 := Lib.hid (sees_any h.rd h.next { data := #[101, 108, 115, 101] } [101, 108, 115, 101] (by rw [ByteArray.toList_eq]) false q0)
  rw [if_neg (by simp)]
  replace h := Lib.hid h
  go_enter Tryz.func121, Tryz.ntmps121
  go_wp2_with fail
  refine Q0.out.mono ?_
  rintro e w1 ⟨rfl, hb⟩
  replace hb := Lib.hid hb
  go_wp2_with fail
  go_ret
  exact ⟨rfl, ⟨at_, v, h.out.dr, by simpa [Fo.post] using h.out.rd.carry hb.out⟩, Fr.only (Onl.below hb.out) (by omega)⟩
 | true =>
  have Q0 := Lib.hid (sees_any h.rd h.next { data := #[101, 108, 115, 101] } [101, 108, 115, 101] (by rw [ByteArray.toList_eq]) true q0)
  have hk : (hd ts).kind ≠ 8 := by
   obtain ⟨t, l, rfl, hk, _⟩ := sees_cons q0
   simp [hd]; omega
  have hlt : at_ < T.length := (List.getElem?_eq_some_iff.1 h.next).1
  have htn := h.rd.tn
  have hn : at_ < 1000000 := by omega
  rw [if_pos rfl]
  unfold afterP
  replace hk := Lib.hid hk
  replace h := Lib.hid h
  clear q0 hlt htn
  go_enter Tryz.func121, Tryz.ntmps121
  go_wp2_with fail
  refine Q0.out.mono ?_
  rintro e w1 ⟨rfl, hb⟩
  have c1 := (h.out.rd.carry hb).c1
  have fz := (h.out.rd.carry hb).fz
  have HT := (h.out.carry hb).tail ((h.out.carry hb).rd.bump (at_ + 1)) hk.out
  rw [show ((at_ + 1 : Nat) : Int) = (at_ : Int) + 1 by omega] at HT
  have HC := Lib.hid (hB HT)
  have HF := Lib.hid ((Fr.only (Onl.below hb) (by omega)).trans (Fr.only (Onl.set b w1 1 (.int .i64 ((at_ : Int) + 1))) (by have := (h.out.rd.carry hb).lt; omega)))
  replace hb := Lib.hid hb
  clear HT
  go_wp2_with fail
  refine HC.out.mono ?_
  rintro e w2 ⟨rfl, hw⟩
  replace hw := Lib.hid hw
  go_wp2_with fail
  go_ret
  exact ⟨rfl, hw.out.back HF.out⟩

set_option maxHeartbeats 400000 in
theorem answer_r {w : World} {b tb to tc : Nat} {T : List Tok} {at_ d : Nat} {v : Value} {D : List Nd} {n : Nat} {ts : List Tok} (h : Sit w b tb to tc T at_ d v D n ts) {E : Pt} (hE : Does 13 n E) : Calls Tryz.prog 122 #[pR b] w (Post b tb to tc T d D w (answerP E d ts)) := by
 have hbl := h.rd.lt
 unfold answerP iteP
 cases q0 : sees [59] ts with
 | true =>
  have Q0 := Lib.hid (sees_any h.rd h.next { data := #[59] } [59] (by rw [ByteArray.toList_eq]) true q0)
  rw [if_pos rfl]
  replace h := Lib.hid h
  go_enter Tryz.func122, Tryz.ntmps122
  go_wp2_with fail
  refine Q0.out.mono ?_
  rintro e w1 ⟨rfl, hb⟩
  replace hb := Lib.hid hb
  go_wp2_with fail
  go_ret
  exact ⟨rfl, ⟨at_, v, h.out.dr, by simpa [Fo.post] using h.out.rd.carry hb.out⟩, Fr.only (Onl.below hb.out) (by omega)⟩
 | false =>
  have Q0 := Lib.hid (sees_any h.rd h.next { data := #[59] } [59] (by rw [ByteArray.toList_eq]) false q0)
  rw [if_neg (by simp)]
  have HC := Lib.hid (fun (w' : World) (hb : Below w.heap.size w w') => hE (h.carry hb))
  clear h
  go_enter Tryz.func122, Tryz.ntmps122
  go_wp2_with fail
  refine Q0.out.mono ?_
  rintro e w1 ⟨rfl, hb⟩
  replace hb := Lib.hid hb
  go_wp2_with fail
  refine (HC.out _ hb.out).mono ?_
  rintro e w2 ⟨rfl, hw⟩
  replace hw := Lib.hid hw
  go_wp2_with fail
  go_ret
  exact ⟨rfl, hw.out.back (Fr.only (Onl.below hb.out) (by omega))⟩

set_option maxHeartbeats 2000000 in
theorem var_r {w : World} {b tb to tc : Nat} {T : List Tok} {at_ d : Nat} {v : Value} {D : List Nd} {n : Nat} {ts : List Tok} (h : Sit w b tb to tc T at_ d v D n ts) {E : Pt} {N : Nat} (hq : sees [118, 97, 114] ts = true) (hE : Does 13 n E) (hg : Gd 0 E) (hN : n ≤ N) : Calls Tryz.prog 119 #[pR b] w (Post b tb to tc T d D w (varP E N d ts)) := by
 have hbl := h.rd.lt
 obtain ⟨⟨kd, ln, cl, nm, tx⟩, ht⟩ : ∃ t, hd ts = t := ⟨_, rfl⟩
 obtain ⟨a, cap, hv⟩ := own_slice h.rd.own
 obtain ⟨X, hX⟩ : ∃ X, bs tx = X := ⟨_, rfl⟩
 obtain ⟨dn, hdn⟩ : ∃ dn, D.length = dn := ⟨_, rfl⟩
 have HH : Hid (Calls Tryz.prog 73 #[pR b] w fun e w' => e = .returned (sV kd ln cl nm X dn) ∧ Below w.heap.size w w') := Lib.hid (by have := here_any h ht dn hdn a cap (by rw [hv, hdn]); rw [hX] at this; exact this)
 have hk : (hd ts).kind ≠ 8 := by obtain ⟨t, l, rfl, hk, _⟩ := sees_cons hq; simp [hd]; omega
 have hlt : at_ < T.length := (List.getElem?_eq_some_iff.1 h.next).1
 have htn := h.rd.tn
 have hn : at_ < 1000000 := by omega
 replace hk := Lib.hid hk
 obtain ⟨⟨kd2, ln2, cl2, nm2, tx2⟩, ht2⟩ : ∃ t, hd ts.tail = t := ⟨_, rfl⟩
 obtain ⟨X2, hX2⟩ : ∃ X2, bs tx2 = X2 := ⟨_, rfl⟩
 have hF := tokF4 kd2 ln2 cl2 nm2 X2
 cases e1 : (kindP 1) d ts.tail with
 | bad c l k =>
  rw [show (varP E N) d ts = .bad c l k by simp only [varP, nodeP, afterP, seqAll, seqP, nothingP, Out.bind, e1]]
  replace e1 := Lib.hid e1
  have hs := Lib.hid h
  replace ht := Lib.hid ht
  replace hX := Lib.hid hX
  replace hdn := Lib.hid hdn
  replace hv := Lib.hid hv
  replace ht2 := Lib.hid ht2
  replace hX2 := Lib.hid hX2
  clear h hlt htn
  go_enter Tryz.func119, Tryz.ntmps119
  go_wp2_with fail
  refine HH.out.mono ?_
  rintro e w1 ⟨rfl, hb⟩
  have c1 := (hs.out.rd.carry hb).c1
  have fz := (hs.out.rd.carry hb).fz
  have hbl1 := (hs.out.rd.carry hb).lt
  have HT := (hs.out.carry hb).tail ((hs.out.carry hb).rd.bump (at_ + 1)) hk.out
  rw [show ((at_ + 1 : Nat) : Int) = (at_ : Int) + 1 by omega] at HT
  replace HT := Lib.hid HT
  replace hb := Lib.hid hb
  go_wp2_with fail
  obtain ⟨W, hW⟩ : ∃ W, W = (w1.setCell ⟨b, 1, none⟩ (.int .i64 ((at_ : Int) + 1))).alloc (.cells #[.int .u8 kd, .int .i64 ln, .int .i64 cl, .int .i64 nm, .string X, .int .i64 dn] 70) := ⟨_, rfl⟩
  rw [← hW]
  have HS0 : Hid (Sit W b tb to tc T (at_ + 1) d v D (n - 1) ts.tail) := Lib.hid (by rw [hW]; exact HT.out.carry (below_alloc _ _))
  have HF0 : Hid (Fr b w W) := Lib.hid (by rw [hW]; exact ((Fr.only (Onl.below hb.out) (by omega)).trans (Fr.only (Onl.set _ _ _ _) (by omega))).trans (Fr.only (Onl.below (below_alloc _ _)) (by simp; omega)))
  have HM0 : Hid (SAt W w1.heap.size kd ln cl nm X dn) := Lib.hid (by rw [hW]; have := SAt.made (w1.setCell ⟨b, 1, none⟩ (.int .i64 ((at_ : Int) + 1))) kd ln cl nm X dn; simpa using this)
  clear hW HT c1 fz
  have HN0 := Lib.hid (HS0.out.next_at ht2.out W (Below.refl _ _))
  rw [hX2.out] at HN0
  refine HN0.out.mono ?_
  rintro e wn ⟨rfl, hbn⟩
  replace HF0 := Lib.hid (HF0.out.trans (Fr.only (Onl.below hbn) (by have := HS0.out.rd.lt; omega)))
  replace HS0 := Lib.hid (HS0.out.carry hbn)
  replace HM0 := Lib.hid (HM0.out.below hbn)
  replace hbn := Lib.hid hbn
  go_wp2_with fail
  have HC1 := Lib.hid (badOf (kind_any HS0.out 1 (by decide)) e1.out)
  refine HC1.out.mono ?_
  rintro e w2 ⟨rfl, rf, fr⟩
  replace rf := Lib.hid rf
  replace fr := Lib.hid fr
  go_wp2_with fail
  go_ret
  exact ⟨rfl, rf.out, HF0.out.trans fr.out⟩
 | ok F1 r1 =>
  cases e2 : (take [58]) d r1 with
  | bad c l k =>
   rw [show (varP E N) d ts = .bad c l k by simp only [varP, nodeP, afterP, seqAll, seqP, nothingP, Out.bind, e1, e2]]
   replace e1 := Lib.hid e1
   replace e2 := Lib.hid e2
   have hs := Lib.hid h
   replace ht := Lib.hid ht
   replace hX := Lib.hid hX
   replace hdn := Lib.hid hdn
   replace hv := Lib.hid hv
   replace ht2 := Lib.hid ht2
   replace hX2 := Lib.hid hX2
   clear h hlt htn
   go_enter Tryz.func119, Tryz.ntmps119
   go_wp2_with fail
   refine HH.out.mono ?_
   rintro e w1 ⟨rfl, hb⟩
   have c1 := (hs.out.rd.carry hb).c1
   have fz := (hs.out.rd.carry hb).fz
   have hbl1 := (hs.out.rd.carry hb).lt
   have HT := (hs.out.carry hb).tail ((hs.out.carry hb).rd.bump (at_ + 1)) hk.out
   rw [show ((at_ + 1 : Nat) : Int) = (at_ : Int) + 1 by omega] at HT
   replace HT := Lib.hid HT
   replace hb := Lib.hid hb
   go_wp2_with fail
   obtain ⟨W, hW⟩ : ∃ W, W = (w1.setCell ⟨b, 1, none⟩ (.int .i64 ((at_ : Int) + 1))).alloc (.cells #[.int .u8 kd, .int .i64 ln, .int .i64 cl, .int .i64 nm, .string X, .int .i64 dn] 70) := ⟨_, rfl⟩
   rw [← hW]
   have HS0 : Hid (Sit W b tb to tc T (at_ + 1) d v D (n - 1) ts.tail) := Lib.hid (by rw [hW]; exact HT.out.carry (below_alloc _ _))
   have HF0 : Hid (Fr b w W) := Lib.hid (by rw [hW]; exact ((Fr.only (Onl.below hb.out) (by omega)).trans (Fr.only (Onl.set _ _ _ _) (by omega))).trans (Fr.only (Onl.below (below_alloc _ _)) (by simp; omega)))
   have HM0 : Hid (SAt W w1.heap.size kd ln cl nm X dn) := Lib.hid (by rw [hW]; have := SAt.made (w1.setCell ⟨b, 1, none⟩ (.int .i64 ((at_ : Int) + 1))) kd ln cl nm X dn; simpa using this)
   clear hW HT c1 fz
   have HN0 := Lib.hid (HS0.out.next_at ht2.out W (Below.refl _ _))
   rw [hX2.out] at HN0
   refine HN0.out.mono ?_
   rintro e wn ⟨rfl, hbn⟩
   replace HF0 := Lib.hid (HF0.out.trans (Fr.only (Onl.below hbn) (by have := HS0.out.rd.lt; omega)))
   replace HS0 := Lib.hid (HS0.out.carry hbn)
   replace HM0 := Lib.hid (HM0.out.below hbn)
   replace hbn := Lib.hid hbn
   go_wp2_with fail
   have HC1 := Lib.hid (okOf (kind_any HS0.out 1 (by decide)) e1.out)
   refine HC1.out.mono ?_
   rintro e w2 ⟨rfl, ⟨at1, v1, dr, rd⟩, fr⟩
   have HS1 := Lib.hid (HS0.out.then (s := 1) (gd_kind 1 (by decide) (by decide) d ts.tail F1 r1 e1.out) dr rd)
   have HF1 := Lib.hid (HF0.out.trans fr)
   have HM1 := Lib.hid (HM0.out.fr fr (by omega))
   clear dr rd fr
   go_wp2_with fail
   have HC2 := Lib.hid (badOf (take_any HS1.out { data := #[58] } [58] (by rw [ByteArray.toList_eq])) e2.out)
   refine HC2.out.mono ?_
   rintro e w3 ⟨rfl, rf, fr⟩
   replace rf := Lib.hid rf
   replace fr := Lib.hid fr
   go_wp2_with fail
   go_ret
   exact ⟨rfl, rf.out, HF1.out.trans fr.out⟩
  | ok F2 r2 =>
   cases e3 : (typeP N) d r2 with
   | bad c l k =>
    rw [show (varP E N) d ts = .bad c l k by simp only [varP, nodeP, afterP, seqAll, seqP, nothingP, Out.bind, e1, e2, e3]]
    replace e1 := Lib.hid e1
    replace e2 := Lib.hid e2
    replace e3 := Lib.hid e3
    have hs := Lib.hid h
    replace ht := Lib.hid ht
    replace hX := Lib.hid hX
    replace hdn := Lib.hid hdn
    replace hv := Lib.hid hv
    replace ht2 := Lib.hid ht2
    replace hX2 := Lib.hid hX2
    clear h hlt htn
    go_enter Tryz.func119, Tryz.ntmps119
    go_wp2_with fail
    refine HH.out.mono ?_
    rintro e w1 ⟨rfl, hb⟩
    have c1 := (hs.out.rd.carry hb).c1
    have fz := (hs.out.rd.carry hb).fz
    have hbl1 := (hs.out.rd.carry hb).lt
    have HT := (hs.out.carry hb).tail ((hs.out.carry hb).rd.bump (at_ + 1)) hk.out
    rw [show ((at_ + 1 : Nat) : Int) = (at_ : Int) + 1 by omega] at HT
    replace HT := Lib.hid HT
    replace hb := Lib.hid hb
    go_wp2_with fail
    obtain ⟨W, hW⟩ : ∃ W, W = (w1.setCell ⟨b, 1, none⟩ (.int .i64 ((at_ : Int) + 1))).alloc (.cells #[.int .u8 kd, .int .i64 ln, .int .i64 cl, .int .i64 nm, .string X, .int .i64 dn] 70) := ⟨_, rfl⟩
    rw [← hW]
    have HS0 : Hid (Sit W b tb to tc T (at_ + 1) d v D (n - 1) ts.tail) := Lib.hid (by rw [hW]; exact HT.out.carry (below_alloc _ _))
    have HF0 : Hid (Fr b w W) := Lib.hid (by rw [hW]; exact ((Fr.only (Onl.below hb.out) (by omega)).trans (Fr.only (Onl.set _ _ _ _) (by omega))).trans (Fr.only (Onl.below (below_alloc _ _)) (by simp; omega)))
    have HM0 : Hid (SAt W w1.heap.size kd ln cl nm X dn) := Lib.hid (by rw [hW]; have := SAt.made (w1.setCell ⟨b, 1, none⟩ (.int .i64 ((at_ : Int) + 1))) kd ln cl nm X dn; simpa using this)
    clear hW HT c1 fz
    have HN0 := Lib.hid (HS0.out.next_at ht2.out W (Below.refl _ _))
    rw [hX2.out] at HN0
    refine HN0.out.mono ?_
    rintro e wn ⟨rfl, hbn⟩
    replace HF0 := Lib.hid (HF0.out.trans (Fr.only (Onl.below hbn) (by have := HS0.out.rd.lt; omega)))
    replace HS0 := Lib.hid (HS0.out.carry hbn)
    replace HM0 := Lib.hid (HM0.out.below hbn)
    replace hbn := Lib.hid hbn
    go_wp2_with fail
    have HC1 := Lib.hid (okOf (kind_any HS0.out 1 (by decide)) e1.out)
    refine HC1.out.mono ?_
    rintro e w2 ⟨rfl, ⟨at1, v1, dr, rd⟩, fr⟩
    have HS1 := Lib.hid (HS0.out.then (s := 1) (gd_kind 1 (by decide) (by decide) d ts.tail F1 r1 e1.out) dr rd)
    have HF1 := Lib.hid (HF0.out.trans fr)
    have HM1 := Lib.hid (HM0.out.fr fr (by omega))
    clear dr rd fr
    go_wp2_with fail
    have HC2 := Lib.hid (okOf (take_any HS1.out { data := #[58] } [58] (by rw [ByteArray.toList_eq])) e2.out)
    refine HC2.out.mono ?_
    rintro e w3 ⟨rfl, ⟨at2, v2, dr, rd⟩, fr⟩
    have HS2 := Lib.hid (HS1.out.then (s := 1) (gd_take [58] d r1 F2 r2 e2.out) dr rd)
    have HF2 := Lib.hid (HF1.out.trans fr)
    have HM2 := Lib.hid (HM1.out.fr fr (by omega))
    clear dr rd fr
    go_wp2_with fail
    have HC3 := Lib.hid (badOf ((type_does N) (HS2.out.up (by omega))) e3.out)
    refine HC3.out.mono ?_
    rintro e w4 ⟨rfl, rf, fr⟩
    replace rf := Lib.hid rf
    replace fr := Lib.hid fr
    go_wp2_with fail
    go_ret
    exact ⟨rfl, rf.out, HF2.out.trans fr.out⟩
   | ok F3 r3 =>
    cases e4 : (take [61]) d r3 with
    | bad c l k =>
     rw [show (varP E N) d ts = .bad c l k by simp only [varP, nodeP, afterP, seqAll, seqP, nothingP, Out.bind, e1, e2, e3, e4]]
     replace e1 := Lib.hid e1
     replace e2 := Lib.hid e2
     replace e3 := Lib.hid e3
     replace e4 := Lib.hid e4
     have hs := Lib.hid h
     replace ht := Lib.hid ht
     replace hX := Lib.hid hX
     replace hdn := Lib.hid hdn
     replace hv := Lib.hid hv
     replace ht2 := Lib.hid ht2
     replace hX2 := Lib.hid hX2
     clear h hlt htn
     go_enter Tryz.func119, Tryz.ntmps119
     go_wp2_with fail
     refine HH.out.mono ?_
     rintro e w1 ⟨rfl, hb⟩
     have c1 := (hs.out.rd.carry hb).c1
     have fz := (hs.out.rd.carry hb).fz
     have hbl1 := (hs.out.rd.carry hb).lt
     have HT := (hs.out.carry hb).tail ((hs.out.carry hb).rd.bump (at_ + 1)) hk.out
     rw [show ((at_ + 1 : Nat) : Int) = (at_ : Int) + 1 by omega] at HT
     replace HT := Lib.hid HT
     replace hb := Lib.hid hb
     go_wp2_with fail
     obtain ⟨W, hW⟩ : ∃ W, W = (w1.setCell ⟨b, 1, none⟩ (.int .i64 ((at_ : Int) + 1))).alloc (.cells #[.int .u8 kd, .int .i64 ln, .int .i64 cl, .int .i64 nm, .string X, .int .i64 dn] 70) := ⟨_, rfl⟩
     rw [← hW]
     have HS0 : Hid (Sit W b tb to tc T (at_ + 1) d v D (n - 1) ts.tail) := Lib.hid (by rw [hW]; exact HT.out.carry (below_alloc _ _))
     have HF0 : Hid (Fr b w W) := Lib.hid (by rw [hW]; exact ((Fr.only (Onl.below hb.out) (by omega)).trans (Fr.only (Onl.set _ _ _ _) (by omega))).trans (Fr.only (Onl.below (below_alloc _ _)) (by simp; omega)))
     have HM0 : Hid (SAt W w1.heap.size kd ln cl nm X dn) := Lib.hid (by rw [hW]; have := SAt.made (w1.setCell ⟨b, 1, none⟩ (.int .i64 ((at_ : Int) + 1))) kd ln cl nm X dn; simpa using this)
     clear hW HT c1 fz
     have HN0 := Lib.hid (HS0.out.next_at ht2.out W (Below.refl _ _))
     rw [hX2.out] at HN0
     refine HN0.out.mono ?_
     rintro e wn ⟨rfl, hbn⟩
     replace HF0 := Lib.hid (HF0.out.trans (Fr.only (Onl.below hbn) (by have := HS0.out.rd.lt; omega)))
     replace HS0 := Lib.hid (HS0.out.carry hbn)
     replace HM0 := Lib.hid (HM0.out.below hbn)
     replace hbn := Lib.hid hbn
     go_wp2_with fail
     have HC1 := Lib.hid (okOf (kind_any HS0.out 1 (by decide)) e1.out)
     refine HC1.out.mono ?_
     rintro e w2 ⟨rfl, ⟨at1, v1, dr, rd⟩, fr⟩
     have HS1 := Lib.hid (HS0.out.then (s := 1) (gd_kind 1 (by decide) (by decide) d ts.tail F1 r1 e1.out) dr rd)
     have HF1 := Lib.hid (HF0.out.trans fr)
     have HM1 := Lib.hid (HM0.out.fr fr (by omega))
     clear dr rd fr
     go_wp2_with fail
     have HC2 := Lib.hid (okOf (take_any HS1.out { data := #[58] } [58] (by rw [ByteArray.toList_eq])) e2.out)
     refine HC2.out.mono ?_
     rintro e w3 ⟨rfl, ⟨at2, v2, dr, rd⟩, fr⟩
     have HS2 := Lib.hid (HS1.out.then (s := 1) (gd_take [58] d r1 F2 r2 e2.out) dr rd)
     have HF2 := Lib.hid (HF1.out.trans fr)
     have HM2 := Lib.hid (HM1.out.fr fr (by omega))
     clear dr rd fr
     go_wp2_with fail
     have HC3 := Lib.hid (okOf ((type_does N) (HS2.out.up (by omega))) e3.out)
     refine HC3.out.mono ?_
     rintro e w4 ⟨rfl, ⟨at3, v3, dr, rd⟩, fr⟩
     have HS3 := Lib.hid (HS2.out.then (s := 0) (gd_type N d r2 F3 r3 e3.out) dr rd)
     have HF3 := Lib.hid (HF2.out.trans fr)
     have HM3 := Lib.hid (HM2.out.fr fr (by omega))
     clear dr rd fr
     go_wp2_with fail
     have HC4 := Lib.hid (badOf (take_any HS3.out { data := #[61] } [61] (by rw [ByteArray.toList_eq])) e4.out)
     refine HC4.out.mono ?_
     rintro e w5 ⟨rfl, rf, fr⟩
     replace rf := Lib.hid rf
     replace fr := Lib.hid fr
     go_wp2_with fail
     go_ret
     exact ⟨rfl, rf.out, HF3.out.trans fr.out⟩
    | ok F4 r4 =>
     cases e5 : (E) d r4 with
     | bad c l k =>
      rw [show (varP E N) d ts = .bad c l k by simp only [varP, nodeP, afterP, seqAll, seqP, nothingP, Out.bind, e1, e2, e3, e4, e5]]
      replace e1 := Lib.hid e1
      replace e2 := Lib.hid e2
      replace e3 := Lib.hid e3
      replace e4 := Lib.hid e4
      replace e5 := Lib.hid e5
      have hs := Lib.hid h
      replace ht := Lib.hid ht
      replace hX := Lib.hid hX
      replace hdn := Lib.hid hdn
      replace hv := Lib.hid hv
      replace ht2 := Lib.hid ht2
      replace hX2 := Lib.hid hX2
      clear h hlt htn
      go_enter Tryz.func119, Tryz.ntmps119
      go_wp2_with fail
      refine HH.out.mono ?_
      rintro e w1 ⟨rfl, hb⟩
      have c1 := (hs.out.rd.carry hb).c1
      have fz := (hs.out.rd.carry hb).fz
      have hbl1 := (hs.out.rd.carry hb).lt
      have HT := (hs.out.carry hb).tail ((hs.out.carry hb).rd.bump (at_ + 1)) hk.out
      rw [show ((at_ + 1 : Nat) : Int) = (at_ : Int) + 1 by omega] at HT
      replace HT := Lib.hid HT
      replace hb := Lib.hid hb
      go_wp2_with fail
      obtain ⟨W, hW⟩ : ∃ W, W = (w1.setCell ⟨b, 1, none⟩ (.int .i64 ((at_ : Int) + 1))).alloc (.cells #[.int .u8 kd, .int .i64 ln, .int .i64 cl, .int .i64 nm, .string X, .int .i64 dn] 70) := ⟨_, rfl⟩
      rw [← hW]
      have HS0 : Hid (Sit W b tb to tc T (at_ + 1) d v D (n - 1) ts.tail) := Lib.hid (by rw [hW]; exact HT.out.carry (below_alloc _ _))
      have HF0 : Hid (Fr b w W) := Lib.hid (by rw [hW]; exact ((Fr.only (Onl.below hb.out) (by omega)).trans (Fr.only (Onl.set _ _ _ _) (by omega))).trans (Fr.only (Onl.below (below_alloc _ _)) (by simp; omega)))
      have HM0 : Hid (SAt W w1.heap.size kd ln cl nm X dn) := Lib.hid (by rw [hW]; have := SAt.made (w1.setCell ⟨b, 1, none⟩ (.int .i64 ((at_ : Int) + 1))) kd ln cl nm X dn; simpa using this)
      clear hW HT c1 fz
      have HN0 := Lib.hid (HS0.out.next_at ht2.out W (Below.refl _ _))
      rw [hX2.out] at HN0
      refine HN0.out.mono ?_
      rintro e wn ⟨rfl, hbn⟩
      replace HF0 := Lib.hid (HF0.out.trans (Fr.only (Onl.below hbn) (by have := HS0.out.rd.lt; omega)))
      replace HS0 := Lib.hid (HS0.out.carry hbn)
      replace HM0 := Lib.hid (HM0.out.below hbn)
      replace hbn := Lib.hid hbn
      go_wp2_with fail
      have HC1 := Lib.hid (okOf (kind_any HS0.out 1 (by decide)) e1.out)
      refine HC1.out.mono ?_
      rintro e w2 ⟨rfl, ⟨at1, v1, dr, rd⟩, fr⟩
      have HS1 := Lib.hid (HS0.out.then (s := 1) (gd_kind 1 (by decide) (by decide) d ts.tail F1 r1 e1.out) dr rd)
      have HF1 := Lib.hid (HF0.out.trans fr)
      have HM1 := Lib.hid (HM0.out.fr fr (by omega))
      clear dr rd fr
      go_wp2_with fail
      have HC2 := Lib.hid (okOf (take_any HS1.out { data := #[58] } [58] (by rw [ByteArray.toList_eq])) e2.out)
      refine HC2.out.mono ?_
      rintro e w3 ⟨rfl, ⟨at2, v2, dr, rd⟩, fr⟩
      have HS2 := Lib.hid (HS1.out.then (s := 1) (gd_take [58] d r1 F2 r2 e2.out) dr rd)
      have HF2 := Lib.hid (HF1.out.trans fr)
      have HM2 := Lib.hid (HM1.out.fr fr (by omega))
      clear dr rd fr
      go_wp2_with fail
      have HC3 := Lib.hid (okOf ((type_does N) (HS2.out.up (by omega))) e3.out)
      refine HC3.out.mono ?_
      rintro e w4 ⟨rfl, ⟨at3, v3, dr, rd⟩, fr⟩
      have HS3 := Lib.hid (HS2.out.then (s := 0) (gd_type N d r2 F3 r3 e3.out) dr rd)
      have HF3 := Lib.hid (HF2.out.trans fr)
      have HM3 := Lib.hid (HM2.out.fr fr (by omega))
      clear dr rd fr
      go_wp2_with fail
      have HC4 := Lib.hid (okOf (take_any HS3.out { data := #[61] } [61] (by rw [ByteArray.toList_eq])) e4.out)
      refine HC4.out.mono ?_
      rintro e w5 ⟨rfl, ⟨at4, v4, dr, rd⟩, fr⟩
      have HS4 := Lib.hid (HS3.out.then (s := 1) (gd_take [61] d r3 F4 r4 e4.out) dr rd)
      have HF4 := Lib.hid (HF3.out.trans fr)
      have HM4 := Lib.hid (HM3.out.fr fr (by omega))
      clear dr rd fr
      go_wp2_with fail
      have HC5 := Lib.hid (badOf (hE (HS4.out.up (by omega))) e5.out)
      refine HC5.out.mono ?_
      rintro e w6 ⟨rfl, rf, fr⟩
      replace rf := Lib.hid rf
      replace fr := Lib.hid fr
      go_wp2_with fail
      go_ret
      exact ⟨rfl, rf.out, HF4.out.trans fr.out⟩
     | ok F5 r5 =>
      cases e6 : (take [59]) d r5 with
      | bad c l k =>
       rw [show (varP E N) d ts = .bad c l k by simp only [varP, nodeP, afterP, seqAll, seqP, nothingP, Out.bind, e1, e2, e3, e4, e5, e6]]
       replace e1 := Lib.hid e1
       replace e2 := Lib.hid e2
       replace e3 := Lib.hid e3
       replace e4 := Lib.hid e4
       replace e5 := Lib.hid e5
       replace e6 := Lib.hid e6
       have hs := Lib.hid h
       replace ht := Lib.hid ht
       replace hX := Lib.hid hX
       replace hdn := Lib.hid hdn
       replace hv := Lib.hid hv
       replace ht2 := Lib.hid ht2
       replace hX2 := Lib.hid hX2
       clear h hlt htn
       go_enter Tryz.func119, Tryz.ntmps119
       go_wp2_with fail
       refine HH.out.mono ?_
       rintro e w1 ⟨rfl, hb⟩
       have c1 := (hs.out.rd.carry hb).c1
       have fz := (hs.out.rd.carry hb).fz
       have hbl1 := (hs.out.rd.carry hb).lt
       have HT := (hs.out.carry hb).tail ((hs.out.carry hb).rd.bump (at_ + 1)) hk.out
       rw [show ((at_ + 1 : Nat) : Int) = (at_ : Int) + 1 by omega] at HT
       replace HT := Lib.hid HT
       replace hb := Lib.hid hb
       go_wp2_with fail
       obtain ⟨W, hW⟩ : ∃ W, W = (w1.setCell ⟨b, 1, none⟩ (.int .i64 ((at_ : Int) + 1))).alloc (.cells #[.int .u8 kd, .int .i64 ln, .int .i64 cl, .int .i64 nm, .string X, .int .i64 dn] 70) := ⟨_, rfl⟩
       rw [← hW]
       have HS0 : Hid (Sit W b tb to tc T (at_ + 1) d v D (n - 1) ts.tail) := Lib.hid (by rw [hW]; exact HT.out.carry (below_alloc _ _))
       have HF0 : Hid (Fr b w W) := Lib.hid (by rw [hW]; exact ((Fr.only (Onl.below hb.out) (by omega)).trans (Fr.only (Onl.set _ _ _ _) (by omega))).trans (Fr.only (Onl.below (below_alloc _ _)) (by simp; omega)))
       have HM0 : Hid (SAt W w1.heap.size kd ln cl nm X dn) := Lib.hid (by rw [hW]; have := SAt.made (w1.setCell ⟨b, 1, none⟩ (.int .i64 ((at_ : Int) + 1))) kd ln cl nm X dn; simpa using this)
       clear hW HT c1 fz
       have HN0 := Lib.hid (HS0.out.next_at ht2.out W (Below.refl _ _))
       rw [hX2.out] at HN0
       refine HN0.out.mono ?_
       rintro e wn ⟨rfl, hbn⟩
       replace HF0 := Lib.hid (HF0.out.trans (Fr.only (Onl.below hbn) (by have := HS0.out.rd.lt; omega)))
       replace HS0 := Lib.hid (HS0.out.carry hbn)
       replace HM0 := Lib.hid (HM0.out.below hbn)
       replace hbn := Lib.hid hbn
       go_wp2_with fail
       have HC1 := Lib.hid (okOf (kind_any HS0.out 1 (by decide)) e1.out)
       refine HC1.out.mono ?_
       rintro e w2 ⟨rfl, ⟨at1, v1, dr, rd⟩, fr⟩
       have HS1 := Lib.hid (HS0.out.then (s := 1) (gd_kind 1 (by decide) (by decide) d ts.tail F1 r1 e1.out) dr rd)
       have HF1 := Lib.hid (HF0.out.trans fr)
       have HM1 := Lib.hid (HM0.out.fr fr (by omega))
       clear dr rd fr
       go_wp2_with fail
       have HC2 := Lib.hid (okOf (take_any HS1.out { data := #[58] } [58] (by rw [ByteArray.toList_eq])) e2.out)
       refine HC2.out.mono ?_
       rintro e w3 ⟨rfl, ⟨at2, v2, dr, rd⟩, fr⟩
       have HS2 := Lib.hid (HS1.out.then (s := 1) (gd_take [58] d r1 F2 r2 e2.out) dr rd)
       have HF2 := Lib.hid (HF1.out.trans fr)
       have HM2 := Lib.hid (HM1.out.fr fr (by omega))
       clear dr rd fr
       go_wp2_with fail
       have HC3 := Lib.hid (okOf ((type_does N) (HS2.out.up (by omega))) e3.out)
       refine HC3.out.mono ?_
       rintro e w4 ⟨rfl, ⟨at3, v3, dr, rd⟩, fr⟩
       have HS3 := Lib.hid (HS2.out.then (s := 0) (gd_type N d r2 F3 r3 e3.out) dr rd)
       have HF3 := Lib.hid (HF2.out.trans fr)
       have HM3 := Lib.hid (HM2.out.fr fr (by omega))
       clear dr rd fr
       go_wp2_with fail
       have HC4 := Lib.hid (okOf (take_any HS3.out { data := #[61] } [61] (by rw [ByteArray.toList_eq])) e4.out)
       refine HC4.out.mono ?_
       rintro e w5 ⟨rfl, ⟨at4, v4, dr, rd⟩, fr⟩
       have HS4 := Lib.hid (HS3.out.then (s := 1) (gd_take [61] d r3 F4 r4 e4.out) dr rd)
       have HF4 := Lib.hid (HF3.out.trans fr)
       have HM4 := Lib.hid (HM3.out.fr fr (by omega))
       clear dr rd fr
       go_wp2_with fail
       have HC5 := Lib.hid (okOf (hE (HS4.out.up (by omega))) e5.out)
       refine HC5.out.mono ?_
       rintro e w6 ⟨rfl, ⟨at5, v5, dr, rd⟩, fr⟩
       have HS5 := Lib.hid (HS4.out.then (s := 0) (hg d r4 F5 r5 e5.out) dr rd)
       have HF5 := Lib.hid (HF4.out.trans fr)
       have HM5 := Lib.hid (HM4.out.fr fr (by omega))
       clear dr rd fr
       go_wp2_with fail
       have HC6 := Lib.hid (badOf (semi_does _ HS5.out) e6.out)
       refine HC6.out.mono ?_
       rintro e w7 ⟨rfl, rf, fr⟩
       replace rf := Lib.hid rf
       replace fr := Lib.hid fr
       go_wp2_with fail
       go_ret
       exact ⟨rfl, rf.out, HF5.out.trans fr.out⟩
      | ok F6 r6 =>
       rw [show (varP E N) d ts = .ok (.cons (mkY 7 ts) (F1.app (F2.app (F3.app (F4.app (F5.app (F6.app .nil)))))) .nil) r6 by simp only [varP, nodeP, afterP, seqAll, seqP, nothingP, Out.bind, e1, e2, e3, e4, e5, e6]]
       replace e1 := Lib.hid e1
       replace e2 := Lib.hid e2
       replace e3 := Lib.hid e3
       replace e4 := Lib.hid e4
       replace e5 := Lib.hid e5
       replace e6 := Lib.hid e6
       have hs := Lib.hid h
       replace ht := Lib.hid ht
       replace hX := Lib.hid hX
       replace hdn := Lib.hid hdn
       replace hv := Lib.hid hv
       replace ht2 := Lib.hid ht2
       replace hX2 := Lib.hid hX2
       clear h hlt htn
       go_enter Tryz.func119, Tryz.ntmps119
       go_wp2_with fail
       refine HH.out.mono ?_
       rintro e w1 ⟨rfl, hb⟩
       have c1 := (hs.out.rd.carry hb).c1
       have fz := (hs.out.rd.carry hb).fz
       have hbl1 := (hs.out.rd.carry hb).lt
       have HT := (hs.out.carry hb).tail ((hs.out.carry hb).rd.bump (at_ + 1)) hk.out
       rw [show ((at_ + 1 : Nat) : Int) = (at_ : Int) + 1 by omega] at HT
       replace HT := Lib.hid HT
       replace hb := Lib.hid hb
       go_wp2_with fail
       obtain ⟨W, hW⟩ : ∃ W, W = (w1.setCell ⟨b, 1, none⟩ (.int .i64 ((at_ : Int) + 1))).alloc (.cells #[.int .u8 kd, .int .i64 ln, .int .i64 cl, .int .i64 nm, .string X, .int .i64 dn] 70) := ⟨_, rfl⟩
       rw [← hW]
       have HS0 : Hid (Sit W b tb to tc T (at_ + 1) d v D (n - 1) ts.tail) := Lib.hid (by rw [hW]; exact HT.out.carry (below_alloc _ _))
       have HF0 : Hid (Fr b w W) := Lib.hid (by rw [hW]; exact ((Fr.only (Onl.below hb.out) (by omega)).trans (Fr.only (Onl.set _ _ _ _) (by omega))).trans (Fr.only (Onl.below (below_alloc _ _)) (by simp; omega)))
       have HM0 : Hid (SAt W w1.heap.size kd ln cl nm X dn) := Lib.hid (by rw [hW]; have := SAt.made (w1.setCell ⟨b, 1, none⟩ (.int .i64 ((at_ : Int) + 1))) kd ln cl nm X dn; simpa using this)
       clear hW HT c1 fz
       have HN0 := Lib.hid (HS0.out.next_at ht2.out W (Below.refl _ _))
       rw [hX2.out] at HN0
       refine HN0.out.mono ?_
       rintro e wn ⟨rfl, hbn⟩
       replace HF0 := Lib.hid (HF0.out.trans (Fr.only (Onl.below hbn) (by have := HS0.out.rd.lt; omega)))
       replace HS0 := Lib.hid (HS0.out.carry hbn)
       replace HM0 := Lib.hid (HM0.out.below hbn)
       replace hbn := Lib.hid hbn
       go_wp2_with fail
       have HC1 := Lib.hid (okOf (kind_any HS0.out 1 (by decide)) e1.out)
       refine HC1.out.mono ?_
       rintro e w2 ⟨rfl, ⟨at1, v1, dr, rd⟩, fr⟩
       have HS1 := Lib.hid (HS0.out.then (s := 1) (gd_kind 1 (by decide) (by decide) d ts.tail F1 r1 e1.out) dr rd)
       have HF1 := Lib.hid (HF0.out.trans fr)
       have HM1 := Lib.hid (HM0.out.fr fr (by omega))
       clear dr rd fr
       go_wp2_with fail
       have HC2 := Lib.hid (okOf (take_any HS1.out { data := #[58] } [58] (by rw [ByteArray.toList_eq])) e2.out)
       refine HC2.out.mono ?_
       rintro e w3 ⟨rfl, ⟨at2, v2, dr, rd⟩, fr⟩
       have HS2 := Lib.hid (HS1.out.then (s := 1) (gd_take [58] d r1 F2 r2 e2.out) dr rd)
       have HF2 := Lib.hid (HF1.out.trans fr)
       have HM2 := Lib.hid (HM1.out.fr fr (by omega))
       clear dr rd fr
       go_wp2_with fail
       have HC3 := Lib.hid (okOf ((type_does N) (HS2.out.up (by omega))) e3.out)
       refine HC3.out.mono ?_
       rintro e w4 ⟨rfl, ⟨at3, v3, dr, rd⟩, fr⟩
       have HS3 := Lib.hid (HS2.out.then (s := 0) (gd_type N d r2 F3 r3 e3.out) dr rd)
       have HF3 := Lib.hid (HF2.out.trans fr)
       have HM3 := Lib.hid (HM2.out.fr fr (by omega))
       clear dr rd fr
       go_wp2_with fail
       have HC4 := Lib.hid (okOf (take_any HS3.out { data := #[61] } [61] (by rw [ByteArray.toList_eq])) e4.out)
       refine HC4.out.mono ?_
       rintro e w5 ⟨rfl, ⟨at4, v4, dr, rd⟩, fr⟩
       have HS4 := Lib.hid (HS3.out.then (s := 1) (gd_take [61] d r3 F4 r4 e4.out) dr rd)
       have HF4 := Lib.hid (HF3.out.trans fr)
       have HM4 := Lib.hid (HM3.out.fr fr (by omega))
       clear dr rd fr
       go_wp2_with fail
       have HC5 := Lib.hid (okOf (hE (HS4.out.up (by omega))) e5.out)
       refine HC5.out.mono ?_
       rintro e w6 ⟨rfl, ⟨at5, v5, dr, rd⟩, fr⟩
       have HS5 := Lib.hid (HS4.out.then (s := 0) (hg d r4 F5 r5 e5.out) dr rd)
       have HF5 := Lib.hid (HF4.out.trans fr)
       have HM5 := Lib.hid (HM4.out.fr fr (by omega))
       clear dr rd fr
       go_wp2_with fail
       have HC6 := Lib.hid (okOf (semi_does _ HS5.out) e6.out)
       refine HC6.out.mono ?_
       rintro e w7 ⟨rfl, ⟨at6, v6, dr, rd⟩, fr⟩
       have HS6 := Lib.hid (HS5.out.then (s := 1) (gd_take [59] d r5 F6 r6 e6.out) dr rd)
       have HF6 := Lib.hid (HF5.out.trans fr)
       have HM6 := Lib.hid (HM5.out.fr fr (by omega))
       clear dr rd fr
       obtain ⟨m0, m1, m2, m3, m4, m5⟩ := HM6.out.at
       go_wp2_with fail
       have HA := Lib.hid (add_any HS6.out.rd kd ln cl dn nm X 7 0 0 0 0 X2 (F1.app (F2.app (F3.app (F4.app (F5.app (F6.app .nil)))))).cnt (by have := hdn.out; simp [post_len, cnt_app, Fo.cnt]; omega) (by have := HS6.out.rm; omega))
       refine HA.out.mono ?_
       rintro e wa ⟨rfl, ⟨va, rda⟩, fra⟩
       replace rda := Lib.hid rda
       replace fra := Lib.hid fra
       go_wp2_with fail
       go_ret
       exact ⟨rfl, ⟨at6, va, HS6.out.dr, rd_node rda.out (by simp [post_app, Fo.post, List.append_assoc]) (by simp [mkK, mkX, mkY, mkN, Inf.nd, ht.out, ht2.out, hX2.out]; try rfl)⟩, HF6.out.trans fra.out⟩

/-- The last node that a reader has made, in memory. -/
theorem last_cell {w : World} {b tb to tc : Nat} {T : List Tok} {at_ : Nat} {d : Int} {v : Value} {D : List Nd} {F : Fo} (h : Rd w b tb to tc T at_ d v (D ++ F.post)) (h1 : One1 F) :
  ∃ g j cap, v = .slice (some ⟨g, 0, none⟩) (j + 1) cap ∧ w.cell? ⟨g, j * 6, none⟩ = some (.int .u8 (rootK F)) ∧ (D ++ F.post).length = j + 1 := by
 obtain ⟨i, k, rfl, _⟩ := h1
 have hD : D ++ (Fo.cons i k .nil).post = (D ++ k.post) ++ [i.nd k.cnt] := by simp [Fo.post]
 rw [hD] at h ⊢
 have ho := h.own
 rcases ho.2 with ⟨_, h0⟩ | ⟨g, cap, cur, hv, hr⟩
 ·simp at h0
 ·refine ⟨g, (D ++ k.post).length, cap, by rw [hv]; simp; omega, ?_, by simp; omega⟩
  have := World.ownsRow.cells ho (g := g) (by rw [hv]; rfl) ((D ++ k.post).length * 6) (.int .u8 (i.kind : Nat)) (by
   rw [ndFlat_app, List.getElem?_append_right (by rw [ndFlat_len]; omega), ndFlat_len]
   simp [ndFlat, ndCells, Inf.nd])
  rw [plain_add] at this
  simpa [rootK] using this

set_option maxHeartbeats 2000000 in
theorem set_26 {w : World} {b tb to tc : Nat} {T : List Tok} {at_ d : Nat} {v : Value} {D : List Nd} {n : Nat} {ts : List Tok} (h : Sit w b tb to tc T at_ d v D n ts) {E : Pt} (hE : Does 13 n E) (hg : Gd 0 E) {F1 : Fo} {r1 : List Tok} (e1 : E d ts = .ok F1 r1) (h1 : One1 F1) (hkv : rootK F1 = 26) : Calls Tryz.prog 123 #[pR b] w (Post b tb to tc T d D w (setP E d ts)) := by
 have hbl := h.rd.lt
 replace h1 := Lib.hid h1
 have hkv0 := hkv
 replace hkv := Lib.hid hkv
 obtain ⟨⟨kd, ln, cl, nm, tx⟩, ht⟩ : ∃ t, hd ts = t := ⟨_, rfl⟩
 obtain ⟨a, cap, hv⟩ := own_slice h.rd.own
 obtain ⟨X, hX⟩ : ∃ X, bs tx = X := ⟨_, rfl⟩
 obtain ⟨dn, hdn⟩ : ∃ dn, D.length = dn := ⟨_, rfl⟩
 have HH : Hid (Calls Tryz.prog 73 #[pR b] w fun e w' => e = .returned (sV kd ln cl nm X dn) ∧ Below w.heap.size w w') := Lib.hid (by have := here_any h ht dn hdn a cap (by rw [hv, hdn]); rw [hX] at this; exact this)
 cases e2 : (take [61]) d r1 with
 | bad c l k =>
  rw [show (setP E) d ts = .bad c l k by simp only [setP, seqP, Out.bind, hkv0, true_or, or_true, if_true, e1, e2]]
  replace e1 := Lib.hid e1
  replace e2 := Lib.hid e2
  have hs := Lib.hid h
  replace ht := Lib.hid ht
  replace hX := Lib.hid hX
  replace hdn := Lib.hid hdn
  replace hv := Lib.hid hv
  clear h hkv0
  go_enter Tryz.func123, Tryz.ntmps123
  go_wp2_with fail
  refine HH.out.mono ?_
  rintro e w1 ⟨rfl, hb⟩
  have hbl1 := (hs.out.rd.carry hb).lt
  replace hb := Lib.hid hb
  go_wp2_with fail
  obtain ⟨W, hW⟩ : ∃ W, W = w1.alloc (.cells #[.int .u8 kd, .int .i64 ln, .int .i64 cl, .int .i64 nm, .string X, .int .i64 dn] 70) := ⟨_, rfl⟩
  rw [← hW]
  have HS0 : Hid (Sit W b tb to tc T at_ d v D n ts) := Lib.hid (by rw [hW]; exact (hs.out.carry hb.out).carry (below_alloc _ _))
  have HF0 : Hid (Fr b w W) := Lib.hid (by rw [hW]; exact (Fr.only (Onl.below hb.out) (by omega)).trans (Fr.only (Onl.below (below_alloc _ _)) (by omega)))
  have HM0 : Hid (SAt W w1.heap.size kd ln cl nm X dn) := Lib.hid (by rw [hW]; exact SAt.made w1 kd ln cl nm X dn)
  clear hW
  have HC1 := Lib.hid (okOf (hE (HS0.out.up (by omega))) e1.out)
  refine HC1.out.mono ?_
  rintro e w2 ⟨rfl, ⟨at1, v1, dr, rd⟩, fr⟩
  have HS1 := Lib.hid (HS0.out.then (s := 0) (hg d ts F1 r1 e1.out) dr rd)
  have HF1 := Lib.hid (HF0.out.trans fr)
  have HM1 := Lib.hid (HM0.out.fr fr (by omega))
  clear dr rd fr
  obtain ⟨g, j, cap1, hv1, kc, hj⟩ := last_cell HS1.out.rd h1.out
  have c3 := HS1.out.rd.c3
  rw [hv1] at c3
  rw [hkv.out] at kc
  have hjm := HS1.out.rm
  rw [hj] at hjm
  have hj1 : IntKind.i64.wrap (j : Int) = (j : Int) := IntWalk.i64_in _ (by omega)
  clear hj hjm hv1
  go_wp2_with fail
  go_quiet (fail)
  replace HF1 := Lib.hid (HF1.out.trans (Fr.only (Onl.below (below_drewN _ nq)) (by have := HS1.out.rd.lt; omega)))
  replace HS1 := Lib.hid (HS1.out.carry (below_drewN _ nq))
  replace HM1 := Lib.hid (HM1.out.below (below_drewN _ nq))
  clear kc c3 hj1
  go_wp2_with fail
  have HC2 := Lib.hid (badOf (take_any HS1.out { data := #[61] } [61] (by rw [ByteArray.toList_eq])) e2.out)
  refine HC2.out.mono ?_
  rintro e w3 ⟨rfl, rf, fr⟩
  replace rf := Lib.hid rf
  replace fr := Lib.hid fr
  go_wp2_with fail
  go_ret
  exact ⟨rfl, rf.out, HF1.out.trans fr.out⟩
 | ok F2 r2 =>
  cases e3 : (E) d r2 with
  | bad c l k =>
   rw [show (setP E) d ts = .bad c l k by simp only [setP, seqP, Out.bind, hkv0, true_or, or_true, if_true, e1, e2, e3]]
   replace e1 := Lib.hid e1
   replace e2 := Lib.hid e2
   replace e3 := Lib.hid e3
   have hs := Lib.hid h
   replace ht := Lib.hid ht
   replace hX := Lib.hid hX
   replace hdn := Lib.hid hdn
   replace hv := Lib.hid hv
   clear h hkv0
   go_enter Tryz.func123, Tryz.ntmps123
   go_wp2_with fail
   refine HH.out.mono ?_
   rintro e w1 ⟨rfl, hb⟩
   have hbl1 := (hs.out.rd.carry hb).lt
   replace hb := Lib.hid hb
   go_wp2_with fail
   obtain ⟨W, hW⟩ : ∃ W, W = w1.alloc (.cells #[.int .u8 kd, .int .i64 ln, .int .i64 cl, .int .i64 nm, .string X, .int .i64 dn] 70) := ⟨_, rfl⟩
   rw [← hW]
   have HS0 : Hid (Sit W b tb to tc T at_ d v D n ts) := Lib.hid (by rw [hW]; exact (hs.out.carry hb.out).carry (below_alloc _ _))
   have HF0 : Hid (Fr b w W) := Lib.hid (by rw [hW]; exact (Fr.only (Onl.below hb.out) (by omega)).trans (Fr.only (Onl.below (below_alloc _ _)) (by omega)))
   have HM0 : Hid (SAt W w1.heap.size kd ln cl nm X dn) := Lib.hid (by rw [hW]; exact SAt.made w1 kd ln cl nm X dn)
   clear hW
   have HC1 := Lib.hid (okOf (hE (HS0.out.up (by omega))) e1.out)
   refine HC1.out.mono ?_
   rintro e w2 ⟨rfl, ⟨at1, v1, dr, rd⟩, fr⟩
   have HS1 := Lib.hid (HS0.out.then (s := 0) (hg d ts F1 r1 e1.out) dr rd)
   have HF1 := Lib.hid (HF0.out.trans fr)
   have HM1 := Lib.hid (HM0.out.fr fr (by omega))
   clear dr rd fr
   obtain ⟨g, j, cap1, hv1, kc, hj⟩ := last_cell HS1.out.rd h1.out
   have c3 := HS1.out.rd.c3
   rw [hv1] at c3
   rw [hkv.out] at kc
   have hjm := HS1.out.rm
   rw [hj] at hjm
   have hj1 : IntKind.i64.wrap (j : Int) = (j : Int) := IntWalk.i64_in _ (by omega)
   clear hj hjm hv1
   go_wp2_with fail
   go_quiet (fail)
   replace HF1 := Lib.hid (HF1.out.trans (Fr.only (Onl.below (below_drewN _ nq)) (by have := HS1.out.rd.lt; omega)))
   replace HS1 := Lib.hid (HS1.out.carry (below_drewN _ nq))
   replace HM1 := Lib.hid (HM1.out.below (below_drewN _ nq))
   clear kc c3 hj1
   go_wp2_with fail
   have HC2 := Lib.hid (okOf (take_any HS1.out { data := #[61] } [61] (by rw [ByteArray.toList_eq])) e2.out)
   refine HC2.out.mono ?_
   rintro e w3 ⟨rfl, ⟨at2, v2, dr, rd⟩, fr⟩
   have HS2 := Lib.hid (HS1.out.then (s := 1) (gd_take [61] d r1 F2 r2 e2.out) dr rd)
   have HF2 := Lib.hid (HF1.out.trans fr)
   have HM2 := Lib.hid (HM1.out.fr fr (by omega))
   clear dr rd fr
   go_wp2_with fail
   have HC3 := Lib.hid (badOf (hE (HS2.out.up (by omega))) e3.out)
   refine HC3.out.mono ?_
   rintro e w4 ⟨rfl, rf, fr⟩
   replace rf := Lib.hid rf
   replace fr := Lib.hid fr
   go_wp2_with fail
   go_ret
   exact ⟨rfl, rf.out, HF2.out.trans fr.out⟩
  | ok F3 r3 =>
   cases e4 : (take [59]) d r3 with
   | bad c l k =>
    rw [show (setP E) d ts = .bad c l k by simp only [setP, seqP, Out.bind, hkv0, true_or, or_true, if_true, e1, e2, e3, e4]]
    replace e1 := Lib.hid e1
    replace e2 := Lib.hid e2
    replace e3 := Lib.hid e3
    replace e4 := Lib.hid e4
    have hs := Lib.hid h
    replace ht := Lib.hid ht
    replace hX := Lib.hid hX
    replace hdn := Lib.hid hdn
    replace hv := Lib.hid hv
    clear h hkv0
    go_enter Tryz.func123, Tryz.ntmps123
    go_wp2_with fail
    refine HH.out.mono ?_
    rintro e w1 ⟨rfl, hb⟩
    have hbl1 := (hs.out.rd.carry hb).lt
    replace hb := Lib.hid hb
    go_wp2_with fail
    obtain ⟨W, hW⟩ : ∃ W, W = w1.alloc (.cells #[.int .u8 kd, .int .i64 ln, .int .i64 cl, .int .i64 nm, .string X, .int .i64 dn] 70) := ⟨_, rfl⟩
    rw [← hW]
    have HS0 : Hid (Sit W b tb to tc T at_ d v D n ts) := Lib.hid (by rw [hW]; exact (hs.out.carry hb.out).carry (below_alloc _ _))
    have HF0 : Hid (Fr b w W) := Lib.hid (by rw [hW]; exact (Fr.only (Onl.below hb.out) (by omega)).trans (Fr.only (Onl.below (below_alloc _ _)) (by omega)))
    have HM0 : Hid (SAt W w1.heap.size kd ln cl nm X dn) := Lib.hid (by rw [hW]; exact SAt.made w1 kd ln cl nm X dn)
    clear hW
    have HC1 := Lib.hid (okOf (hE (HS0.out.up (by omega))) e1.out)
    refine HC1.out.mono ?_
    rintro e w2 ⟨rfl, ⟨at1, v1, dr, rd⟩, fr⟩
    have HS1 := Lib.hid (HS0.out.then (s := 0) (hg d ts F1 r1 e1.out) dr rd)
    have HF1 := Lib.hid (HF0.out.trans fr)
    have HM1 := Lib.hid (HM0.out.fr fr (by omega))
    clear dr rd fr
    obtain ⟨g, j, cap1, hv1, kc, hj⟩ := last_cell HS1.out.rd h1.out
    have c3 := HS1.out.rd.c3
    rw [hv1] at c3
    rw [hkv.out] at kc
    have hjm := HS1.out.rm
    rw [hj] at hjm
    have hj1 : IntKind.i64.wrap (j : Int) = (j : Int) := IntWalk.i64_in _ (by omega)
    clear hj hjm hv1
    go_wp2_with fail
    go_quiet (fail)
    replace HF1 := Lib.hid (HF1.out.trans (Fr.only (Onl.below (below_drewN _ nq)) (by have := HS1.out.rd.lt; omega)))
    replace HS1 := Lib.hid (HS1.out.carry (below_drewN _ nq))
    replace HM1 := Lib.hid (HM1.out.below (below_drewN _ nq))
    clear kc c3 hj1
    go_wp2_with fail
    have HC2 := Lib.hid (okOf (take_any HS1.out { data := #[61] } [61] (by rw [ByteArray.toList_eq])) e2.out)
    refine HC2.out.mono ?_
    rintro e w3 ⟨rfl, ⟨at2, v2, dr, rd⟩, fr⟩
    have HS2 := Lib.hid (HS1.out.then (s := 1) (gd_take [61] d r1 F2 r2 e2.out) dr rd)
    have HF2 := Lib.hid (HF1.out.trans fr)
    have HM2 := Lib.hid (HM1.out.fr fr (by omega))
    clear dr rd fr
    go_wp2_with fail
    have HC3 := Lib.hid (okOf (hE (HS2.out.up (by omega))) e3.out)
    refine HC3.out.mono ?_
    rintro e w4 ⟨rfl, ⟨at3, v3, dr, rd⟩, fr⟩
    have HS3 := Lib.hid (HS2.out.then (s := 0) (hg d r2 F3 r3 e3.out) dr rd)
    have HF3 := Lib.hid (HF2.out.trans fr)
    have HM3 := Lib.hid (HM2.out.fr fr (by omega))
    clear dr rd fr
    go_wp2_with fail
    have HC4 := Lib.hid (badOf (semi_does _ HS3.out) e4.out)
    refine HC4.out.mono ?_
    rintro e w5 ⟨rfl, rf, fr⟩
    replace rf := Lib.hid rf
    replace fr := Lib.hid fr
    go_wp2_with fail
    go_ret
    exact ⟨rfl, rf.out, HF3.out.trans fr.out⟩
   | ok F4 r4 =>
    rw [show (setP E) d ts = .ok (.cons (mkK 8 ts) (F1.app (F2.app (F3.app F4))) .nil) r4 by simp only [setP, seqP, Out.bind, hkv0, true_or, or_true, if_true, e1, e2, e3, e4]]
    replace e1 := Lib.hid e1
    replace e2 := Lib.hid e2
    replace e3 := Lib.hid e3
    replace e4 := Lib.hid e4
    have hs := Lib.hid h
    replace ht := Lib.hid ht
    replace hX := Lib.hid hX
    replace hdn := Lib.hid hdn
    replace hv := Lib.hid hv
    clear h hkv0
    go_enter Tryz.func123, Tryz.ntmps123
    go_wp2_with fail
    refine HH.out.mono ?_
    rintro e w1 ⟨rfl, hb⟩
    have hbl1 := (hs.out.rd.carry hb).lt
    replace hb := Lib.hid hb
    go_wp2_with fail
    obtain ⟨W, hW⟩ : ∃ W, W = w1.alloc (.cells #[.int .u8 kd, .int .i64 ln, .int .i64 cl, .int .i64 nm, .string X, .int .i64 dn] 70) := ⟨_, rfl⟩
    rw [← hW]
    have HS0 : Hid (Sit W b tb to tc T at_ d v D n ts) := Lib.hid (by rw [hW]; exact (hs.out.carry hb.out).carry (below_alloc _ _))
    have HF0 : Hid (Fr b w W) := Lib.hid (by rw [hW]; exact (Fr.only (Onl.below hb.out) (by omega)).trans (Fr.only (Onl.below (below_alloc _ _)) (by omega)))
    have HM0 : Hid (SAt W w1.heap.size kd ln cl nm X dn) := Lib.hid (by rw [hW]; exact SAt.made w1 kd ln cl nm X dn)
    clear hW
    have HC1 := Lib.hid (okOf (hE (HS0.out.up (by omega))) e1.out)
    refine HC1.out.mono ?_
    rintro e w2 ⟨rfl, ⟨at1, v1, dr, rd⟩, fr⟩
    have HS1 := Lib.hid (HS0.out.then (s := 0) (hg d ts F1 r1 e1.out) dr rd)
    have HF1 := Lib.hid (HF0.out.trans fr)
    have HM1 := Lib.hid (HM0.out.fr fr (by omega))
    clear dr rd fr
    obtain ⟨g, j, cap1, hv1, kc, hj⟩ := last_cell HS1.out.rd h1.out
    have c3 := HS1.out.rd.c3
    rw [hv1] at c3
    rw [hkv.out] at kc
    have hjm := HS1.out.rm
    rw [hj] at hjm
    have hj1 : IntKind.i64.wrap (j : Int) = (j : Int) := IntWalk.i64_in _ (by omega)
    clear hj hjm hv1
    go_wp2_with fail
    go_quiet (fail)
    replace HF1 := Lib.hid (HF1.out.trans (Fr.only (Onl.below (below_drewN _ nq)) (by have := HS1.out.rd.lt; omega)))
    replace HS1 := Lib.hid (HS1.out.carry (below_drewN _ nq))
    replace HM1 := Lib.hid (HM1.out.below (below_drewN _ nq))
    clear kc c3 hj1
    go_wp2_with fail
    have HC2 := Lib.hid (okOf (take_any HS1.out { data := #[61] } [61] (by rw [ByteArray.toList_eq])) e2.out)
    refine HC2.out.mono ?_
    rintro e w3 ⟨rfl, ⟨at2, v2, dr, rd⟩, fr⟩
    have HS2 := Lib.hid (HS1.out.then (s := 1) (gd_take [61] d r1 F2 r2 e2.out) dr rd)
    have HF2 := Lib.hid (HF1.out.trans fr)
    have HM2 := Lib.hid (HM1.out.fr fr (by omega))
    clear dr rd fr
    go_wp2_with fail
    have HC3 := Lib.hid (okOf (hE (HS2.out.up (by omega))) e3.out)
    refine HC3.out.mono ?_
    rintro e w4 ⟨rfl, ⟨at3, v3, dr, rd⟩, fr⟩
    have HS3 := Lib.hid (HS2.out.then (s := 0) (hg d r2 F3 r3 e3.out) dr rd)
    have HF3 := Lib.hid (HF2.out.trans fr)
    have HM3 := Lib.hid (HM2.out.fr fr (by omega))
    clear dr rd fr
    go_wp2_with fail
    have HC4 := Lib.hid (okOf (semi_does _ HS3.out) e4.out)
    refine HC4.out.mono ?_
    rintro e w5 ⟨rfl, ⟨at4, v4, dr, rd⟩, fr⟩
    have HS4 := Lib.hid (HS3.out.then (s := 1) (gd_take [59] d r3 F4 r4 e4.out) dr rd)
    have HF4 := Lib.hid (HF3.out.trans fr)
    have HM4 := Lib.hid (HM3.out.fr fr (by omega))
    clear dr rd fr
    obtain ⟨m0, m1, m2, m3, m4, m5⟩ := HM4.out.at
    go_wp2_with fail
    have HA := Lib.hid (add_any HS4.out.rd kd ln cl dn nm X 8 0 0 0 0 { data := #[] } (F1.app (F2.app (F3.app F4))).cnt (by have := hdn.out; simp [post_len, cnt_app, Fo.cnt]; omega) (by have := HS4.out.rm; omega))
    refine HA.out.mono ?_
    rintro e wa ⟨rfl, ⟨va, rda⟩, fra⟩
    replace rda := Lib.hid rda
    replace fra := Lib.hid fra
    go_wp2_with fail
    go_ret
    exact ⟨rfl, ⟨at4, va, HS4.out.dr, rd_node rda.out (by simp [post_app, Fo.post, List.append_assoc]) (by simp [mkK, mkX, mkY, mkN, Inf.nd, ht.out]; try rfl)⟩, HF4.out.trans fra.out⟩

set_option maxHeartbeats 2000000 in
theorem set_28 {w : World} {b tb to tc : Nat} {T : List Tok} {at_ d : Nat} {v : Value} {D : List Nd} {n : Nat} {ts : List Tok} (h : Sit w b tb to tc T at_ d v D n ts) {E : Pt} (hE : Does 13 n E) (hg : Gd 0 E) {F1 : Fo} {r1 : List Tok} (e1 : E d ts = .ok F1 r1) (h1 : One1 F1) (hkv : rootK F1 = 28) : Calls Tryz.prog 123 #[pR b] w (Post b tb to tc T d D w (setP E d ts)) := by
 have hbl := h.rd.lt
 replace h1 := Lib.hid h1
 have hkv0 := hkv
 replace hkv := Lib.hid hkv
 obtain ⟨⟨kd, ln, cl, nm, tx⟩, ht⟩ : ∃ t, hd ts = t := ⟨_, rfl⟩
 obtain ⟨a, cap, hv⟩ := own_slice h.rd.own
 obtain ⟨X, hX⟩ : ∃ X, bs tx = X := ⟨_, rfl⟩
 obtain ⟨dn, hdn⟩ : ∃ dn, D.length = dn := ⟨_, rfl⟩
 have HH : Hid (Calls Tryz.prog 73 #[pR b] w fun e w' => e = .returned (sV kd ln cl nm X dn) ∧ Below w.heap.size w w') := Lib.hid (by have := here_any h ht dn hdn a cap (by rw [hv, hdn]); rw [hX] at this; exact this)
 cases e2 : (take [61]) d r1 with
 | bad c l k =>
  rw [show (setP E) d ts = .bad c l k by simp only [setP, seqP, Out.bind, hkv0, true_or, or_true, if_true, e1, e2]]
  replace e1 := Lib.hid e1
  replace e2 := Lib.hid e2
  have hs := Lib.hid h
  replace ht := Lib.hid ht
  replace hX := Lib.hid hX
  replace hdn := Lib.hid hdn
  replace hv := Lib.hid hv
  clear h hkv0
  go_enter Tryz.func123, Tryz.ntmps123
  go_wp2_with fail
  refine HH.out.mono ?_
  rintro e w1 ⟨rfl, hb⟩
  have hbl1 := (hs.out.rd.carry hb).lt
  replace hb := Lib.hid hb
  go_wp2_with fail
  obtain ⟨W, hW⟩ : ∃ W, W = w1.alloc (.cells #[.int .u8 kd, .int .i64 ln, .int .i64 cl, .int .i64 nm, .string X, .int .i64 dn] 70) := ⟨_, rfl⟩
  rw [← hW]
  have HS0 : Hid (Sit W b tb to tc T at_ d v D n ts) := Lib.hid (by rw [hW]; exact (hs.out.carry hb.out).carry (below_alloc _ _))
  have HF0 : Hid (Fr b w W) := Lib.hid (by rw [hW]; exact (Fr.only (Onl.below hb.out) (by omega)).trans (Fr.only (Onl.below (below_alloc _ _)) (by omega)))
  have HM0 : Hid (SAt W w1.heap.size kd ln cl nm X dn) := Lib.hid (by rw [hW]; exact SAt.made w1 kd ln cl nm X dn)
  clear hW
  have HC1 := Lib.hid (okOf (hE (HS0.out.up (by omega))) e1.out)
  refine HC1.out.mono ?_
  rintro e w2 ⟨rfl, ⟨at1, v1, dr, rd⟩, fr⟩
  have HS1 := Lib.hid (HS0.out.then (s := 0) (hg d ts F1 r1 e1.out) dr rd)
  have HF1 := Lib.hid (HF0.out.trans fr)
  have HM1 := Lib.hid (HM0.out.fr fr (by omega))
  clear dr rd fr
  obtain ⟨g, j, cap1, hv1, kc, hj⟩ := last_cell HS1.out.rd h1.out
  have c3 := HS1.out.rd.c3
  rw [hv1] at c3
  rw [hkv.out] at kc
  have hjm := HS1.out.rm
  rw [hj] at hjm
  have hj1 : IntKind.i64.wrap (j : Int) = (j : Int) := IntWalk.i64_in _ (by omega)
  clear hj hjm hv1
  go_wp2_with fail
  go_quiet (fail)
  replace HF1 := Lib.hid (HF1.out.trans (Fr.only (Onl.below (below_drewN _ nq)) (by have := HS1.out.rd.lt; omega)))
  replace HS1 := Lib.hid (HS1.out.carry (below_drewN _ nq))
  replace HM1 := Lib.hid (HM1.out.below (below_drewN _ nq))
  clear kc c3 hj1
  go_wp2_with fail
  have HC2 := Lib.hid (badOf (take_any HS1.out { data := #[61] } [61] (by rw [ByteArray.toList_eq])) e2.out)
  refine HC2.out.mono ?_
  rintro e w3 ⟨rfl, rf, fr⟩
  replace rf := Lib.hid rf
  replace fr := Lib.hid fr
  go_wp2_with fail
  go_ret
  exact ⟨rfl, rf.out, HF1.out.trans fr.out⟩
 | ok F2 r2 =>
  cases e3 : (E) d r2 with
  | bad c l k =>
   rw [show (setP E) d ts = .bad c l k by simp only [setP, seqP, Out.bind, hkv0, true_or, or_true, if_true, e1, e2, e3]]
   replace e1 := Lib.hid e1
   replace e2 := Lib.hid e2
   replace e3 := Lib.hid e3
   have hs := Lib.hid h
   replace ht := Lib.hid ht
   replace hX := Lib.hid hX
   replace hdn := Lib.hid hdn
   replace hv := Lib.hid hv
   clear h hkv0
   go_enter Tryz.func123, Tryz.ntmps123
   go_wp2_with fail
   refine HH.out.mono ?_
   rintro e w1 ⟨rfl, hb⟩
   have hbl1 := (hs.out.rd.carry hb).lt
   replace hb := Lib.hid hb
   go_wp2_with fail
   obtain ⟨W, hW⟩ : ∃ W, W = w1.alloc (.cells #[.int .u8 kd, .int .i64 ln, .int .i64 cl, .int .i64 nm, .string X, .int .i64 dn] 70) := ⟨_, rfl⟩
   rw [← hW]
   have HS0 : Hid (Sit W b tb to tc T at_ d v D n ts) := Lib.hid (by rw [hW]; exact (hs.out.carry hb.out).carry (below_alloc _ _))
   have HF0 : Hid (Fr b w W) := Lib.hid (by rw [hW]; exact (Fr.only (Onl.below hb.out) (by omega)).trans (Fr.only (Onl.below (below_alloc _ _)) (by omega)))
   have HM0 : Hid (SAt W w1.heap.size kd ln cl nm X dn) := Lib.hid (by rw [hW]; exact SAt.made w1 kd ln cl nm X dn)
   clear hW
   have HC1 := Lib.hid (okOf (hE (HS0.out.up (by omega))) e1.out)
   refine HC1.out.mono ?_
   rintro e w2 ⟨rfl, ⟨at1, v1, dr, rd⟩, fr⟩
   have HS1 := Lib.hid (HS0.out.then (s := 0) (hg d ts F1 r1 e1.out) dr rd)
   have HF1 := Lib.hid (HF0.out.trans fr)
   have HM1 := Lib.hid (HM0.out.fr fr (by omega))
   clear dr rd fr
   obtain ⟨g, j, cap1, hv1, kc, hj⟩ := last_cell HS1.out.rd h1.out
   have c3 := HS1.out.rd.c3
   rw [hv1] at c3
   rw [hkv.out] at kc
   have hjm := HS1.out.rm
   rw [hj] at hjm
   have hj1 : IntKind.i64.wrap (j : Int) = (j : Int) := IntWalk.i64_in _ (by omega)
   clear hj hjm hv1
   go_wp2_with fail
   go_quiet (fail)
   replace HF1 := Lib.hid (HF1.out.trans (Fr.only (Onl.below (below_drewN _ nq)) (by have := HS1.out.rd.lt; omega)))
   replace HS1 := Lib.hid (HS1.out.carry (below_drewN _ nq))
   replace HM1 := Lib.hid (HM1.out.below (below_drewN _ nq))
   clear kc c3 hj1
   go_wp2_with fail
   have HC2 := Lib.hid (okOf (take_any HS1.out { data := #[61] } [61] (by rw [ByteArray.toList_eq])) e2.out)
   refine HC2.out.mono ?_
   rintro e w3 ⟨rfl, ⟨at2, v2, dr, rd⟩, fr⟩
   have HS2 := Lib.hid (HS1.out.then (s := 1) (gd_take [61] d r1 F2 r2 e2.out) dr rd)
   have HF2 := Lib.hid (HF1.out.trans fr)
   have HM2 := Lib.hid (HM1.out.fr fr (by omega))
   clear dr rd fr
   go_wp2_with fail
   have HC3 := Lib.hid (badOf (hE (HS2.out.up (by omega))) e3.out)
   refine HC3.out.mono ?_
   rintro e w4 ⟨rfl, rf, fr⟩
   replace rf := Lib.hid rf
   replace fr := Lib.hid fr
   go_wp2_with fail
   go_ret
   exact ⟨rfl, rf.out, HF2.out.trans fr.out⟩
  | ok F3 r3 =>
   cases e4 : (take [59]) d r3 with
   | bad c l k =>
    rw [show (setP E) d ts = .bad c l k by simp only [setP, seqP, Out.bind, hkv0, true_or, or_true, if_true, e1, e2, e3, e4]]
    replace e1 := Lib.hid e1
    replace e2 := Lib.hid e2
    replace e3 := Lib.hid e3
    replace e4 := Lib.hid e4
    have hs := Lib.hid h
    replace ht := Lib.hid ht
    replace hX := Lib.hid hX
    replace hdn := Lib.hid hdn
    replace hv := Lib.hid hv
    clear h hkv0
    go_enter Tryz.func123, Tryz.ntmps123
    go_wp2_with fail
    refine HH.out.mono ?_
    rintro e w1 ⟨rfl, hb⟩
    have hbl1 := (hs.out.rd.carry hb).lt
    replace hb := Lib.hid hb
    go_wp2_with fail
    obtain ⟨W, hW⟩ : ∃ W, W = w1.alloc (.cells #[.int .u8 kd, .int .i64 ln, .int .i64 cl, .int .i64 nm, .string X, .int .i64 dn] 70) := ⟨_, rfl⟩
    rw [← hW]
    have HS0 : Hid (Sit W b tb to tc T at_ d v D n ts) := Lib.hid (by rw [hW]; exact (hs.out.carry hb.out).carry (below_alloc _ _))
    have HF0 : Hid (Fr b w W) := Lib.hid (by rw [hW]; exact (Fr.only (Onl.below hb.out) (by omega)).trans (Fr.only (Onl.below (below_alloc _ _)) (by omega)))
    have HM0 : Hid (SAt W w1.heap.size kd ln cl nm X dn) := Lib.hid (by rw [hW]; exact SAt.made w1 kd ln cl nm X dn)
    clear hW
    have HC1 := Lib.hid (okOf (hE (HS0.out.up (by omega))) e1.out)
    refine HC1.out.mono ?_
    rintro e w2 ⟨rfl, ⟨at1, v1, dr, rd⟩, fr⟩
    have HS1 := Lib.hid (HS0.out.then (s := 0) (hg d ts F1 r1 e1.out) dr rd)
    have HF1 := Lib.hid (HF0.out.trans fr)
    have HM1 := Lib.hid (HM0.out.fr fr (by omega))
    clear dr rd fr
    obtain ⟨g, j, cap1, hv1, kc, hj⟩ := last_cell HS1.out.rd h1.out
    have c3 := HS1.out.rd.c3
    rw [hv1] at c3
    rw [hkv.out] at kc
    have hjm := HS1.out.rm
    rw [hj] at hjm
    have hj1 : IntKind.i64.wrap (j : Int) = (j : Int) := IntWalk.i64_in _ (by omega)
    clear hj hjm hv1
    go_wp2_with fail
    go_quiet (fail)
    replace HF1 := Lib.hid (HF1.out.trans (Fr.only (Onl.below (below_drewN _ nq)) (by have := HS1.out.rd.lt; omega)))
    replace HS1 := Lib.hid (HS1.out.carry (below_drewN _ nq))
    replace HM1 := Lib.hid (HM1.out.below (below_drewN _ nq))
    clear kc c3 hj1
    go_wp2_with fail
    have HC2 := Lib.hid (okOf (take_any HS1.out { data := #[61] } [61] (by rw [ByteArray.toList_eq])) e2.out)
    refine HC2.out.mono ?_
    rintro e w3 ⟨rfl, ⟨at2, v2, dr, rd⟩, fr⟩
    have HS2 := Lib.hid (HS1.out.then (s := 1) (gd_take [61] d r1 F2 r2 e2.out) dr rd)
    have HF2 := Lib.hid (HF1.out.trans fr)
    have HM2 := Lib.hid (HM1.out.fr fr (by omega))
    clear dr rd fr
    go_wp2_with fail
    have HC3 := Lib.hid (okOf (hE (HS2.out.up (by omega))) e3.out)
    refine HC3.out.mono ?_
    rintro e w4 ⟨rfl, ⟨at3, v3, dr, rd⟩, fr⟩
    have HS3 := Lib.hid (HS2.out.then (s := 0) (hg d r2 F3 r3 e3.out) dr rd)
    have HF3 := Lib.hid (HF2.out.trans fr)
    have HM3 := Lib.hid (HM2.out.fr fr (by omega))
    clear dr rd fr
    go_wp2_with fail
    have HC4 := Lib.hid (badOf (semi_does _ HS3.out) e4.out)
    refine HC4.out.mono ?_
    rintro e w5 ⟨rfl, rf, fr⟩
    replace rf := Lib.hid rf
    replace fr := Lib.hid fr
    go_wp2_with fail
    go_ret
    exact ⟨rfl, rf.out, HF3.out.trans fr.out⟩
   | ok F4 r4 =>
    rw [show (setP E) d ts = .ok (.cons (mkK 8 ts) (F1.app (F2.app (F3.app F4))) .nil) r4 by simp only [setP, seqP, Out.bind, hkv0, true_or, or_true, if_true, e1, e2, e3, e4]]
    replace e1 := Lib.hid e1
    replace e2 := Lib.hid e2
    replace e3 := Lib.hid e3
    replace e4 := Lib.hid e4
    have hs := Lib.hid h
    replace ht := Lib.hid ht
    replace hX := Lib.hid hX
    replace hdn := Lib.hid hdn
    replace hv := Lib.hid hv
    clear h hkv0
    go_enter Tryz.func123, Tryz.ntmps123
    go_wp2_with fail
    refine HH.out.mono ?_
    rintro e w1 ⟨rfl, hb⟩
    have hbl1 := (hs.out.rd.carry hb).lt
    replace hb := Lib.hid hb
    go_wp2_with fail
    obtain ⟨W, hW⟩ : ∃ W, W = w1.alloc (.cells #[.int .u8 kd, .int .i64 ln, .int .i64 cl, .int .i64 nm, .string X, .int .i64 dn] 70) := ⟨_, rfl⟩
    rw [← hW]
    have HS0 : Hid (Sit W b tb to tc T at_ d v D n ts) := Lib.hid (by rw [hW]; exact (hs.out.carry hb.out).carry (below_alloc _ _))
    have HF0 : Hid (Fr b w W) := Lib.hid (by rw [hW]; exact (Fr.only (Onl.below hb.out) (by omega)).trans (Fr.only (Onl.below (below_alloc _ _)) (by omega)))
    have HM0 : Hid (SAt W w1.heap.size kd ln cl nm X dn) := Lib.hid (by rw [hW]; exact SAt.made w1 kd ln cl nm X dn)
    clear hW
    have HC1 := Lib.hid (okOf (hE (HS0.out.up (by omega))) e1.out)
    refine HC1.out.mono ?_
    rintro e w2 ⟨rfl, ⟨at1, v1, dr, rd⟩, fr⟩
    have HS1 := Lib.hid (HS0.out.then (s := 0) (hg d ts F1 r1 e1.out) dr rd)
    have HF1 := Lib.hid (HF0.out.trans fr)
    have HM1 := Lib.hid (HM0.out.fr fr (by omega))
    clear dr rd fr
    obtain ⟨g, j, cap1, hv1, kc, hj⟩ := last_cell HS1.out.rd h1.out
    have c3 := HS1.out.rd.c3
    rw [hv1] at c3
    rw [hkv.out] at kc
    have hjm := HS1.out.rm
    rw [hj] at hjm
    have hj1 : IntKind.i64.wrap (j : Int) = (j : Int) := IntWalk.i64_in _ (by omega)
    clear hj hjm hv1
    go_wp2_with fail
    go_quiet (fail)
    replace HF1 := Lib.hid (HF1.out.trans (Fr.only (Onl.below (below_drewN _ nq)) (by have := HS1.out.rd.lt; omega)))
    replace HS1 := Lib.hid (HS1.out.carry (below_drewN _ nq))
    replace HM1 := Lib.hid (HM1.out.below (below_drewN _ nq))
    clear kc c3 hj1
    go_wp2_with fail
    have HC2 := Lib.hid (okOf (take_any HS1.out { data := #[61] } [61] (by rw [ByteArray.toList_eq])) e2.out)
    refine HC2.out.mono ?_
    rintro e w3 ⟨rfl, ⟨at2, v2, dr, rd⟩, fr⟩
    have HS2 := Lib.hid (HS1.out.then (s := 1) (gd_take [61] d r1 F2 r2 e2.out) dr rd)
    have HF2 := Lib.hid (HF1.out.trans fr)
    have HM2 := Lib.hid (HM1.out.fr fr (by omega))
    clear dr rd fr
    go_wp2_with fail
    have HC3 := Lib.hid (okOf (hE (HS2.out.up (by omega))) e3.out)
    refine HC3.out.mono ?_
    rintro e w4 ⟨rfl, ⟨at3, v3, dr, rd⟩, fr⟩
    have HS3 := Lib.hid (HS2.out.then (s := 0) (hg d r2 F3 r3 e3.out) dr rd)
    have HF3 := Lib.hid (HF2.out.trans fr)
    have HM3 := Lib.hid (HM2.out.fr fr (by omega))
    clear dr rd fr
    go_wp2_with fail
    have HC4 := Lib.hid (okOf (semi_does _ HS3.out) e4.out)
    refine HC4.out.mono ?_
    rintro e w5 ⟨rfl, ⟨at4, v4, dr, rd⟩, fr⟩
    have HS4 := Lib.hid (HS3.out.then (s := 1) (gd_take [59] d r3 F4 r4 e4.out) dr rd)
    have HF4 := Lib.hid (HF3.out.trans fr)
    have HM4 := Lib.hid (HM3.out.fr fr (by omega))
    clear dr rd fr
    obtain ⟨m0, m1, m2, m3, m4, m5⟩ := HM4.out.at
    go_wp2_with fail
    have HA := Lib.hid (add_any HS4.out.rd kd ln cl dn nm X 8 0 0 0 0 { data := #[] } (F1.app (F2.app (F3.app F4))).cnt (by have := hdn.out; simp [post_len, cnt_app, Fo.cnt]; omega) (by have := HS4.out.rm; omega))
    refine HA.out.mono ?_
    rintro e wa ⟨rfl, ⟨va, rda⟩, fra⟩
    replace rda := Lib.hid rda
    replace fra := Lib.hid fra
    go_wp2_with fail
    go_ret
    exact ⟨rfl, ⟨at4, va, HS4.out.dr, rd_node rda.out (by simp [post_app, Fo.post, List.append_assoc]) (by simp [mkK, mkX, mkY, mkN, Inf.nd, ht.out]; try rfl)⟩, HF4.out.trans fra.out⟩

set_option maxHeartbeats 2000000 in
theorem set_29 {w : World} {b tb to tc : Nat} {T : List Tok} {at_ d : Nat} {v : Value} {D : List Nd} {n : Nat} {ts : List Tok} (h : Sit w b tb to tc T at_ d v D n ts) {E : Pt} (hE : Does 13 n E) (hg : Gd 0 E) {F1 : Fo} {r1 : List Tok} (e1 : E d ts = .ok F1 r1) (h1 : One1 F1) (hkv : rootK F1 = 29) : Calls Tryz.prog 123 #[pR b] w (Post b tb to tc T d D w (setP E d ts)) := by
 have hbl := h.rd.lt
 replace h1 := Lib.hid h1
 have hkv0 := hkv
 replace hkv := Lib.hid hkv
 obtain ⟨⟨kd, ln, cl, nm, tx⟩, ht⟩ : ∃ t, hd ts = t := ⟨_, rfl⟩
 obtain ⟨a, cap, hv⟩ := own_slice h.rd.own
 obtain ⟨X, hX⟩ : ∃ X, bs tx = X := ⟨_, rfl⟩
 obtain ⟨dn, hdn⟩ : ∃ dn, D.length = dn := ⟨_, rfl⟩
 have HH : Hid (Calls Tryz.prog 73 #[pR b] w fun e w' => e = .returned (sV kd ln cl nm X dn) ∧ Below w.heap.size w w') := Lib.hid (by have := here_any h ht dn hdn a cap (by rw [hv, hdn]); rw [hX] at this; exact this)
 cases e2 : (take [61]) d r1 with
 | bad c l k =>
  rw [show (setP E) d ts = .bad c l k by simp only [setP, seqP, Out.bind, hkv0, true_or, or_true, if_true, e1, e2]]
  replace e1 := Lib.hid e1
  replace e2 := Lib.hid e2
  have hs := Lib.hid h
  replace ht := Lib.hid ht
  replace hX := Lib.hid hX
  replace hdn := Lib.hid hdn
  replace hv := Lib.hid hv
  clear h hkv0
  go_enter Tryz.func123, Tryz.ntmps123
  go_wp2_with fail
  refine HH.out.mono ?_
  rintro e w1 ⟨rfl, hb⟩
  have hbl1 := (hs.out.rd.carry hb).lt
  replace hb := Lib.hid hb
  go_wp2_with fail
  obtain ⟨W, hW⟩ : ∃ W, W = w1.alloc (.cells #[.int .u8 kd, .int .i64 ln, .int .i64 cl, .int .i64 nm, .string X, .int .i64 dn] 70) := ⟨_, rfl⟩
  rw [← hW]
  have HS0 : Hid (Sit W b tb to tc T at_ d v D n ts) := Lib.hid (by rw [hW]; exact (hs.out.carry hb.out).carry (below_alloc _ _))
  have HF0 : Hid (Fr b w W) := Lib.hid (by rw [hW]; exact (Fr.only (Onl.below hb.out) (by omega)).trans (Fr.only (Onl.below (below_alloc _ _)) (by omega)))
  have HM0 : Hid (SAt W w1.heap.size kd ln cl nm X dn) := Lib.hid (by rw [hW]; exact SAt.made w1 kd ln cl nm X dn)
  clear hW
  have HC1 := Lib.hid (okOf (hE (HS0.out.up (by omega))) e1.out)
  refine HC1.out.mono ?_
  rintro e w2 ⟨rfl, ⟨at1, v1, dr, rd⟩, fr⟩
  have HS1 := Lib.hid (HS0.out.then (s := 0) (hg d ts F1 r1 e1.out) dr rd)
  have HF1 := Lib.hid (HF0.out.trans fr)
  have HM1 := Lib.hid (HM0.out.fr fr (by omega))
  clear dr rd fr
  obtain ⟨g, j, cap1, hv1, kc, hj⟩ := last_cell HS1.out.rd h1.out
  have c3 := HS1.out.rd.c3
  rw [hv1] at c3
  rw [hkv.out] at kc
  have hjm := HS1.out.rm
  rw [hj] at hjm
  have hj1 : IntKind.i64.wrap (j : Int) = (j : Int) := IntWalk.i64_in _ (by omega)
  clear hj hjm hv1
  go_wp2_with fail
  go_quiet (fail)
  replace HF1 := Lib.hid (HF1.out.trans (Fr.only (Onl.below (below_drewN _ nq)) (by have := HS1.out.rd.lt; omega)))
  replace HS1 := Lib.hid (HS1.out.carry (below_drewN _ nq))
  replace HM1 := Lib.hid (HM1.out.below (below_drewN _ nq))
  clear kc c3 hj1
  go_wp2_with fail
  have HC2 := Lib.hid (badOf (take_any HS1.out { data := #[61] } [61] (by rw [ByteArray.toList_eq])) e2.out)
  refine HC2.out.mono ?_
  rintro e w3 ⟨rfl, rf, fr⟩
  replace rf := Lib.hid rf
  replace fr := Lib.hid fr
  go_wp2_with fail
  go_ret
  exact ⟨rfl, rf.out, HF1.out.trans fr.out⟩
 | ok F2 r2 =>
  cases e3 : (E) d r2 with
  | bad c l k =>
   rw [show (setP E) d ts = .bad c l k by simp only [setP, seqP, Out.bind, hkv0, true_or, or_true, if_true, e1, e2, e3]]
   replace e1 := Lib.hid e1
   replace e2 := Lib.hid e2
   replace e3 := Lib.hid e3
   have hs := Lib.hid h
   replace ht := Lib.hid ht
   replace hX := Lib.hid hX
   replace hdn := Lib.hid hdn
   replace hv := Lib.hid hv
   clear h hkv0
   go_enter Tryz.func123, Tryz.ntmps123
   go_wp2_with fail
   refine HH.out.mono ?_
   rintro e w1 ⟨rfl, hb⟩
   have hbl1 := (hs.out.rd.carry hb).lt
   replace hb := Lib.hid hb
   go_wp2_with fail
   obtain ⟨W, hW⟩ : ∃ W, W = w1.alloc (.cells #[.int .u8 kd, .int .i64 ln, .int .i64 cl, .int .i64 nm, .string X, .int .i64 dn] 70) := ⟨_, rfl⟩
   rw [← hW]
   have HS0 : Hid (Sit W b tb to tc T at_ d v D n ts) := Lib.hid (by rw [hW]; exact (hs.out.carry hb.out).carry (below_alloc _ _))
   have HF0 : Hid (Fr b w W) := Lib.hid (by rw [hW]; exact (Fr.only (Onl.below hb.out) (by omega)).trans (Fr.only (Onl.below (below_alloc _ _)) (by omega)))
   have HM0 : Hid (SAt W w1.heap.size kd ln cl nm X dn) := Lib.hid (by rw [hW]; exact SAt.made w1 kd ln cl nm X dn)
   clear hW
   have HC1 := Lib.hid (okOf (hE (HS0.out.up (by omega))) e1.out)
   refine HC1.out.mono ?_
   rintro e w2 ⟨rfl, ⟨at1, v1, dr, rd⟩, fr⟩
   have HS1 := Lib.hid (HS0.out.then (s := 0) (hg d ts F1 r1 e1.out) dr rd)
   have HF1 := Lib.hid (HF0.out.trans fr)
   have HM1 := Lib.hid (HM0.out.fr fr (by omega))
   clear dr rd fr
   obtain ⟨g, j, cap1, hv1, kc, hj⟩ := last_cell HS1.out.rd h1.out
   have c3 := HS1.out.rd.c3
   rw [hv1] at c3
   rw [hkv.out] at kc
   have hjm := HS1.out.rm
   rw [hj] at hjm
   have hj1 : IntKind.i64.wrap (j : Int) = (j : Int) := IntWalk.i64_in _ (by omega)
   clear hj hjm hv1
   go_wp2_with fail
   go_quiet (fail)
   replace HF1 := Lib.hid (HF1.out.trans (Fr.only (Onl.below (below_drewN _ nq)) (by have := HS1.out.rd.lt; omega)))
   replace HS1 := Lib.hid (HS1.out.carry (below_drewN _ nq))
   replace HM1 := Lib.hid (HM1.out.below (below_drewN _ nq))
   clear kc c3 hj1
   go_wp2_with fail
   have HC2 := Lib.hid (okOf (take_any HS1.out { data := #[61] } [61] (by rw [ByteArray.toList_eq])) e2.out)
   refine HC2.out.mono ?_
   rintro e w3 ⟨rfl, ⟨at2, v2, dr, rd⟩, fr⟩
   have HS2 := Lib.hid (HS1.out.then (s := 1) (gd_take [61] d r1 F2 r2 e2.out) dr rd)
   have HF2 := Lib.hid (HF1.out.trans fr)
   have HM2 := Lib.hid (HM1.out.fr fr (by omega))
   clear dr rd fr
   go_wp2_with fail
   have HC3 := Lib.hid (badOf (hE (HS2.out.up (by omega))) e3.out)
   refine HC3.out.mono ?_
   rintro e w4 ⟨rfl, rf, fr⟩
   replace rf := Lib.hid rf
   replace fr := Lib.hid fr
   go_wp2_with fail
   go_ret
   exact ⟨rfl, rf.out, HF2.out.trans fr.out⟩
  | ok F3 r3 =>
   cases e4 : (take [59]) d r3 with
   | bad c l k =>
    rw [show (setP E) d ts = .bad c l k by simp only [setP, seqP, Out.bind, hkv0, true_or, or_true, if_true, e1, e2, e3, e4]]
    replace e1 := Lib.hid e1
    replace e2 := Lib.hid e2
    replace e3 := Lib.hid e3
    replace e4 := Lib.hid e4
    have hs := Lib.hid h
    replace ht := Lib.hid ht
    replace hX := Lib.hid hX
    replace hdn := Lib.hid hdn
    replace hv := Lib.hid hv
    clear h hkv0
    go_enter Tryz.func123, Tryz.ntmps123
    go_wp2_with fail
    refine HH.out.mono ?_
    rintro e w1 ⟨rfl, hb⟩
    have hbl1 := (hs.out.rd.carry hb).lt
    replace hb := Lib.hid hb
    go_wp2_with fail
    obtain ⟨W, hW⟩ : ∃ W, W = w1.alloc (.cells #[.int .u8 kd, .int .i64 ln, .int .i64 cl, .int .i64 nm, .string X, .int .i64 dn] 70) := ⟨_, rfl⟩
    rw [← hW]
    have HS0 : Hid (Sit W b tb to tc T at_ d v D n ts) := Lib.hid (by rw [hW]; exact (hs.out.carry hb.out).carry (below_alloc _ _))
    have HF0 : Hid (Fr b w W) := Lib.hid (by rw [hW]; exact (Fr.only (Onl.below hb.out) (by omega)).trans (Fr.only (Onl.below (below_alloc _ _)) (by omega)))
    have HM0 : Hid (SAt W w1.heap.size kd ln cl nm X dn) := Lib.hid (by rw [hW]; exact SAt.made w1 kd ln cl nm X dn)
    clear hW
    have HC1 := Lib.hid (okOf (hE (HS0.out.up (by omega))) e1.out)
    refine HC1.out.mono ?_
    rintro e w2 ⟨rfl, ⟨at1, v1, dr, rd⟩, fr⟩
    have HS1 := Lib.hid (HS0.out.then (s := 0) (hg d ts F1 r1 e1.out) dr rd)
    have HF1 := Lib.hid (HF0.out.trans fr)
    have HM1 := Lib.hid (HM0.out.fr fr (by omega))
    clear dr rd fr
    obtain ⟨g, j, cap1, hv1, kc, hj⟩ := last_cell HS1.out.rd h1.out
    have c3 := HS1.out.rd.c3
    rw [hv1] at c3
    rw [hkv.out] at kc
    have hjm := HS1.out.rm
    rw [hj] at hjm
    have hj1 : IntKind.i64.wrap (j : Int) = (j : Int) := IntWalk.i64_in _ (by omega)
    clear hj hjm hv1
    go_wp2_with fail
    go_quiet (fail)
    replace HF1 := Lib.hid (HF1.out.trans (Fr.only (Onl.below (below_drewN _ nq)) (by have := HS1.out.rd.lt; omega)))
    replace HS1 := Lib.hid (HS1.out.carry (below_drewN _ nq))
    replace HM1 := Lib.hid (HM1.out.below (below_drewN _ nq))
    clear kc c3 hj1
    go_wp2_with fail
    have HC2 := Lib.hid (okOf (take_any HS1.out { data := #[61] } [61] (by rw [ByteArray.toList_eq])) e2.out)
    refine HC2.out.mono ?_
    rintro e w3 ⟨rfl, ⟨at2, v2, dr, rd⟩, fr⟩
    have HS2 := Lib.hid (HS1.out.then (s := 1) (gd_take [61] d r1 F2 r2 e2.out) dr rd)
    have HF2 := Lib.hid (HF1.out.trans fr)
    have HM2 := Lib.hid (HM1.out.fr fr (by omega))
    clear dr rd fr
    go_wp2_with fail
    have HC3 := Lib.hid (okOf (hE (HS2.out.up (by omega))) e3.out)
    refine HC3.out.mono ?_
    rintro e w4 ⟨rfl, ⟨at3, v3, dr, rd⟩, fr⟩
    have HS3 := Lib.hid (HS2.out.then (s := 0) (hg d r2 F3 r3 e3.out) dr rd)
    have HF3 := Lib.hid (HF2.out.trans fr)
    have HM3 := Lib.hid (HM2.out.fr fr (by omega))
    clear dr rd fr
    go_wp2_with fail
    have HC4 := Lib.hid (badOf (semi_does _ HS3.out) e4.out)
    refine HC4.out.mono ?_
    rintro e w5 ⟨rfl, rf, fr⟩
    replace rf := Lib.hid rf
    replace fr := Lib.hid fr
    go_wp2_with fail
    go_ret
    exact ⟨rfl, rf.out, HF3.out.trans fr.out⟩
   | ok F4 r4 =>
    rw [show (setP E) d ts = .ok (.cons (mkK 8 ts) (F1.app (F2.app (F3.app F4))) .nil) r4 by simp only [setP, seqP, Out.bind, hkv0, true_or, or_true, if_true, e1, e2, e3, e4]]
    replace e1 := Lib.hid e1
    replace e2 := Lib.hid e2
    replace e3 := Lib.hid e3
    replace e4 := Lib.hid e4
    have hs := Lib.hid h
    replace ht := Lib.hid ht
    replace hX := Lib.hid hX
    replace hdn := Lib.hid hdn
    replace hv := Lib.hid hv
    clear h hkv0
    go_enter Tryz.func123, Tryz.ntmps123
    go_wp2_with fail
    refine HH.out.mono ?_
    rintro e w1 ⟨rfl, hb⟩
    have hbl1 := (hs.out.rd.carry hb).lt
    replace hb := Lib.hid hb
    go_wp2_with fail
    obtain ⟨W, hW⟩ : ∃ W, W = w1.alloc (.cells #[.int .u8 kd, .int .i64 ln, .int .i64 cl, .int .i64 nm, .string X, .int .i64 dn] 70) := ⟨_, rfl⟩
    rw [← hW]
    have HS0 : Hid (Sit W b tb to tc T at_ d v D n ts) := Lib.hid (by rw [hW]; exact (hs.out.carry hb.out).carry (below_alloc _ _))
    have HF0 : Hid (Fr b w W) := Lib.hid (by rw [hW]; exact (Fr.only (Onl.below hb.out) (by omega)).trans (Fr.only (Onl.below (below_alloc _ _)) (by omega)))
    have HM0 : Hid (SAt W w1.heap.size kd ln cl nm X dn) := Lib.hid (by rw [hW]; exact SAt.made w1 kd ln cl nm X dn)
    clear hW
    have HC1 := Lib.hid (okOf (hE (HS0.out.up (by omega))) e1.out)
    refine HC1.out.mono ?_
    rintro e w2 ⟨rfl, ⟨at1, v1, dr, rd⟩, fr⟩
    have HS1 := Lib.hid (HS0.out.then (s := 0) (hg d ts F1 r1 e1.out) dr rd)
    have HF1 := Lib.hid (HF0.out.trans fr)
    have HM1 := Lib.hid (HM0.out.fr fr (by omega))
    clear dr rd fr
    obtain ⟨g, j, cap1, hv1, kc, hj⟩ := last_cell HS1.out.rd h1.out
    have c3 := HS1.out.rd.c3
    rw [hv1] at c3
    rw [hkv.out] at kc
    have hjm := HS1.out.rm
    rw [hj] at hjm
    have hj1 : IntKind.i64.wrap (j : Int) = (j : Int) := IntWalk.i64_in _ (by omega)
    clear hj hjm hv1
    go_wp2_with fail
    go_quiet (fail)
    replace HF1 := Lib.hid (HF1.out.trans (Fr.only (Onl.below (below_drewN _ nq)) (by have := HS1.out.rd.lt; omega)))
    replace HS1 := Lib.hid (HS1.out.carry (below_drewN _ nq))
    replace HM1 := Lib.hid (HM1.out.below (below_drewN _ nq))
    clear kc c3 hj1
    go_wp2_with fail
    have HC2 := Lib.hid (okOf (take_any HS1.out { data := #[61] } [61] (by rw [ByteArray.toList_eq])) e2.out)
    refine HC2.out.mono ?_
    rintro e w3 ⟨rfl, ⟨at2, v2, dr, rd⟩, fr⟩
    have HS2 := Lib.hid (HS1.out.then (s := 1) (gd_take [61] d r1 F2 r2 e2.out) dr rd)
    have HF2 := Lib.hid (HF1.out.trans fr)
    have HM2 := Lib.hid (HM1.out.fr fr (by omega))
    clear dr rd fr
    go_wp2_with fail
    have HC3 := Lib.hid (okOf (hE (HS2.out.up (by omega))) e3.out)
    refine HC3.out.mono ?_
    rintro e w4 ⟨rfl, ⟨at3, v3, dr, rd⟩, fr⟩
    have HS3 := Lib.hid (HS2.out.then (s := 0) (hg d r2 F3 r3 e3.out) dr rd)
    have HF3 := Lib.hid (HF2.out.trans fr)
    have HM3 := Lib.hid (HM2.out.fr fr (by omega))
    clear dr rd fr
    go_wp2_with fail
    have HC4 := Lib.hid (okOf (semi_does _ HS3.out) e4.out)
    refine HC4.out.mono ?_
    rintro e w5 ⟨rfl, ⟨at4, v4, dr, rd⟩, fr⟩
    have HS4 := Lib.hid (HS3.out.then (s := 1) (gd_take [59] d r3 F4 r4 e4.out) dr rd)
    have HF4 := Lib.hid (HF3.out.trans fr)
    have HM4 := Lib.hid (HM3.out.fr fr (by omega))
    clear dr rd fr
    obtain ⟨m0, m1, m2, m3, m4, m5⟩ := HM4.out.at
    go_wp2_with fail
    have HA := Lib.hid (add_any HS4.out.rd kd ln cl dn nm X 8 0 0 0 0 { data := #[] } (F1.app (F2.app (F3.app F4))).cnt (by have := hdn.out; simp [post_len, cnt_app, Fo.cnt]; omega) (by have := HS4.out.rm; omega))
    refine HA.out.mono ?_
    rintro e wa ⟨rfl, ⟨va, rda⟩, fra⟩
    replace rda := Lib.hid rda
    replace fra := Lib.hid fra
    go_wp2_with fail
    go_ret
    exact ⟨rfl, ⟨at4, va, HS4.out.dr, rd_node rda.out (by simp [post_app, Fo.post, List.append_assoc]) (by simp [mkK, mkX, mkY, mkN, Inf.nd, ht.out]; try rfl)⟩, HF4.out.trans fra.out⟩

set_option maxHeartbeats 2000000 in
theorem set_27 {w : World} {b tb to tc : Nat} {T : List Tok} {at_ d : Nat} {v : Value} {D : List Nd} {n : Nat} {ts : List Tok} (h : Sit w b tb to tc T at_ d v D n ts) {E : Pt} (hE : Does 13 n E) (hg : Gd 0 E) {F1 : Fo} {r1 : List Tok} (e1 : E d ts = .ok F1 r1) (h1 : One1 F1) (hkv : rootK F1 = 27) : Calls Tryz.prog 123 #[pR b] w (Post b tb to tc T d D w (setP E d ts)) := by
 have hbl := h.rd.lt
 replace h1 := Lib.hid h1
 have hkv0 := hkv
 replace hkv := Lib.hid hkv
 obtain ⟨⟨kd, ln, cl, nm, tx⟩, ht⟩ : ∃ t, hd ts = t := ⟨_, rfl⟩
 obtain ⟨a, cap, hv⟩ := own_slice h.rd.own
 obtain ⟨X, hX⟩ : ∃ X, bs tx = X := ⟨_, rfl⟩
 obtain ⟨dn, hdn⟩ : ∃ dn, D.length = dn := ⟨_, rfl⟩
 have HH : Hid (Calls Tryz.prog 73 #[pR b] w fun e w' => e = .returned (sV kd ln cl nm X dn) ∧ Below w.heap.size w w') := Lib.hid (by have := here_any h ht dn hdn a cap (by rw [hv, hdn]); rw [hX] at this; exact this)
 cases e2 : (take [59]) d r1 with
 | bad c l k =>
  rw [show (setP E) d ts = .bad c l k by simp only [setP, Out.bind, hkv0, Nat.reduceEqDiff, or_self, if_false, if_true, e1, e2]]
  replace e1 := Lib.hid e1
  replace e2 := Lib.hid e2
  have hs := Lib.hid h
  replace ht := Lib.hid ht
  replace hX := Lib.hid hX
  replace hdn := Lib.hid hdn
  replace hv := Lib.hid hv
  clear h hkv0
  go_enter Tryz.func123, Tryz.ntmps123
  go_wp2_with fail
  refine HH.out.mono ?_
  rintro e w1 ⟨rfl, hb⟩
  have hbl1 := (hs.out.rd.carry hb).lt
  replace hb := Lib.hid hb
  go_wp2_with fail
  obtain ⟨W, hW⟩ : ∃ W, W = w1.alloc (.cells #[.int .u8 kd, .int .i64 ln, .int .i64 cl, .int .i64 nm, .string X, .int .i64 dn] 70) := ⟨_, rfl⟩
  rw [← hW]
  have HS0 : Hid (Sit W b tb to tc T at_ d v D n ts) := Lib.hid (by rw [hW]; exact (hs.out.carry hb.out).carry (below_alloc _ _))
  have HF0 : Hid (Fr b w W) := Lib.hid (by rw [hW]; exact (Fr.only (Onl.below hb.out) (by omega)).trans (Fr.only (Onl.below (below_alloc _ _)) (by omega)))
  have HM0 : Hid (SAt W w1.heap.size kd ln cl nm X dn) := Lib.hid (by rw [hW]; exact SAt.made w1 kd ln cl nm X dn)
  clear hW
  have HC1 := Lib.hid (okOf (hE (HS0.out.up (by omega))) e1.out)
  refine HC1.out.mono ?_
  rintro e w2 ⟨rfl, ⟨at1, v1, dr, rd⟩, fr⟩
  have HS1 := Lib.hid (HS0.out.then (s := 0) (hg d ts F1 r1 e1.out) dr rd)
  have HF1 := Lib.hid (HF0.out.trans fr)
  have HM1 := Lib.hid (HM0.out.fr fr (by omega))
  clear dr rd fr
  obtain ⟨g, j, cap1, hv1, kc, hj⟩ := last_cell HS1.out.rd h1.out
  have c3 := HS1.out.rd.c3
  rw [hv1] at c3
  rw [hkv.out] at kc
  have hjm := HS1.out.rm
  rw [hj] at hjm
  have hj1 : IntKind.i64.wrap (j : Int) = (j : Int) := IntWalk.i64_in _ (by omega)
  clear hj hjm hv1
  go_wp2_with fail
  go_quiet (fail)
  replace HF1 := Lib.hid (HF1.out.trans (Fr.only (Onl.below (below_drewN _ nq)) (by have := HS1.out.rd.lt; omega)))
  replace HS1 := Lib.hid (HS1.out.carry (below_drewN _ nq))
  replace HM1 := Lib.hid (HM1.out.below (below_drewN _ nq))
  clear kc c3 hj1
  go_wp2_with fail
  have HC2 := Lib.hid (badOf (semi_does _ HS1.out) e2.out)
  refine HC2.out.mono ?_
  rintro e w3 ⟨rfl, rf, fr⟩
  replace rf := Lib.hid rf
  replace fr := Lib.hid fr
  go_wp2_with fail
  go_ret
  exact ⟨rfl, rf.out, HF1.out.trans fr.out⟩
 | ok F2 r2 =>
  rw [show (setP E) d ts = .ok (.cons (mkK 13 ts) (F1.app F2) .nil) r2 by simp only [setP, Out.bind, hkv0, Nat.reduceEqDiff, or_self, if_false, if_true, e1, e2]]
  replace e1 := Lib.hid e1
  replace e2 := Lib.hid e2
  have hs := Lib.hid h
  replace ht := Lib.hid ht
  replace hX := Lib.hid hX
  replace hdn := Lib.hid hdn
  replace hv := Lib.hid hv
  clear h hkv0
  go_enter Tryz.func123, Tryz.ntmps123
  go_wp2_with fail
  refine HH.out.mono ?_
  rintro e w1 ⟨rfl, hb⟩
  have hbl1 := (hs.out.rd.carry hb).lt
  replace hb := Lib.hid hb
  go_wp2_with fail
  obtain ⟨W, hW⟩ : ∃ W, W = w1.alloc (.cells #[.int .u8 kd, .int .i64 ln, .int .i64 cl, .int .i64 nm, .string X, .int .i64 dn] 70) := ⟨_, rfl⟩
  rw [← hW]
  have HS0 : Hid (Sit W b tb to tc T at_ d v D n ts) := Lib.hid (by rw [hW]; exact (hs.out.carry hb.out).carry (below_alloc _ _))
  have HF0 : Hid (Fr b w W) := Lib.hid (by rw [hW]; exact (Fr.only (Onl.below hb.out) (by omega)).trans (Fr.only (Onl.below (below_alloc _ _)) (by omega)))
  have HM0 : Hid (SAt W w1.heap.size kd ln cl nm X dn) := Lib.hid (by rw [hW]; exact SAt.made w1 kd ln cl nm X dn)
  clear hW
  have HC1 := Lib.hid (okOf (hE (HS0.out.up (by omega))) e1.out)
  refine HC1.out.mono ?_
  rintro e w2 ⟨rfl, ⟨at1, v1, dr, rd⟩, fr⟩
  have HS1 := Lib.hid (HS0.out.then (s := 0) (hg d ts F1 r1 e1.out) dr rd)
  have HF1 := Lib.hid (HF0.out.trans fr)
  have HM1 := Lib.hid (HM0.out.fr fr (by omega))
  clear dr rd fr
  obtain ⟨g, j, cap1, hv1, kc, hj⟩ := last_cell HS1.out.rd h1.out
  have c3 := HS1.out.rd.c3
  rw [hv1] at c3
  rw [hkv.out] at kc
  have hjm := HS1.out.rm
  rw [hj] at hjm
  have hj1 : IntKind.i64.wrap (j : Int) = (j : Int) := IntWalk.i64_in _ (by omega)
  clear hj hjm hv1
  go_wp2_with fail
  go_quiet (fail)
  replace HF1 := Lib.hid (HF1.out.trans (Fr.only (Onl.below (below_drewN _ nq)) (by have := HS1.out.rd.lt; omega)))
  replace HS1 := Lib.hid (HS1.out.carry (below_drewN _ nq))
  replace HM1 := Lib.hid (HM1.out.below (below_drewN _ nq))
  clear kc c3 hj1
  go_wp2_with fail
  have HC2 := Lib.hid (okOf (semi_does _ HS1.out) e2.out)
  refine HC2.out.mono ?_
  rintro e w3 ⟨rfl, ⟨at2, v2, dr, rd⟩, fr⟩
  have HS2 := Lib.hid (HS1.out.then (s := 1) (gd_take [59] d r1 F2 r2 e2.out) dr rd)
  have HF2 := Lib.hid (HF1.out.trans fr)
  have HM2 := Lib.hid (HM1.out.fr fr (by omega))
  clear dr rd fr
  obtain ⟨m0, m1, m2, m3, m4, m5⟩ := HM2.out.at
  go_wp2_with fail
  have HA := Lib.hid (add_any HS2.out.rd kd ln cl dn nm X 13 0 0 0 0 { data := #[] } (F1.app F2).cnt (by have := hdn.out; simp [post_len, cnt_app, Fo.cnt]; omega) (by have := HS2.out.rm; omega))
  refine HA.out.mono ?_
  rintro e wa ⟨rfl, ⟨va, rda⟩, fra⟩
  replace rda := Lib.hid rda
  replace fra := Lib.hid fra
  go_wp2_with fail
  go_ret
  exact ⟨rfl, ⟨at2, va, HS2.out.dr, rd_node rda.out (by simp [post_app, Fo.post, List.append_assoc]) (by simp [mkK, mkX, mkY, mkN, Inf.nd, ht.out]; try rfl)⟩, HF2.out.trans fra.out⟩

set_option maxHeartbeats 2000000 in
theorem set_none {w : World} {b tb to tc : Nat} {T : List Tok} {at_ d : Nat} {v : Value} {D : List Nd} {n : Nat} {ts : List Tok} (h : Sit w b tb to tc T at_ d v D n ts) {E : Pt} (hE : Does 13 n E) (hg : Gd 0 E) {F1 : Fo} {r1 : List Tok} (e1 : E d ts = .ok F1 r1) (h1 : One1 F1) (kv : Nat) (hkv : rootK F1 = kv) (n26 : ¬ kv = 26) (n28 : ¬ kv = 28) (n29 : ¬ kv = 29) (n27 : ¬ kv = 27) : Calls Tryz.prog 123 #[pR b] w (Post b tb to tc T d D w (setP E d ts)) := by
 have hbl := h.rd.lt
 replace h1 := Lib.hid h1
 have hkv0 := hkv
 replace hkv := Lib.hid hkv
 have k26 : ((kv : Int) == 26) = false := by rw [beq_eq_false_iff_ne]; omega
 have k27 : ((kv : Int) == 27) = false := by rw [beq_eq_false_iff_ne]; omega
 have k28 : ((kv : Int) == 28) = false := by rw [beq_eq_false_iff_ne]; omega
 have k29 : ((kv : Int) == 29) = false := by rw [beq_eq_false_iff_ne]; omega
 obtain ⟨⟨kd, ln, cl, nm, tx⟩, ht⟩ : ∃ t, hd ts = t := ⟨_, rfl⟩
 obtain ⟨a, cap, hv⟩ := own_slice h.rd.own
 obtain ⟨X, hX⟩ : ∃ X, bs tx = X := ⟨_, rfl⟩
 obtain ⟨dn, hdn⟩ : ∃ dn, D.length = dn := ⟨_, rfl⟩
 have HH : Hid (Calls Tryz.prog 73 #[pR b] w fun e w' => e = .returned (sV kd ln cl nm X dn) ∧ Below w.heap.size w w') := Lib.hid (by have := here_any h ht dn hdn a cap (by rw [hv, hdn]); rw [hX] at this; exact this)
 rw [show (setP E) d ts = .bad 5 (hd r1).line (hd r1).col by simp only [setP, Out.bind, hkv0, n26, n27, n28, n29, or_self, if_false, badAt, e1]]
 replace e1 := Lib.hid e1
 have hs := Lib.hid h
 replace ht := Lib.hid ht
 replace hX := Lib.hid hX
 replace hdn := Lib.hid hdn
 replace hv := Lib.hid hv
 clear h hkv0 n26 n27 n28 n29
 go_enter Tryz.func123, Tryz.ntmps123
 go_wp2_with fail
 refine HH.out.mono ?_
 rintro e w1 ⟨rfl, hb⟩
 have hbl1 := (hs.out.rd.carry hb).lt
 replace hb := Lib.hid hb
 go_wp2_with fail
 obtain ⟨W, hW⟩ : ∃ W, W = w1.alloc (.cells #[.int .u8 kd, .int .i64 ln, .int .i64 cl, .int .i64 nm, .string X, .int .i64 dn] 70) := ⟨_, rfl⟩
 rw [← hW]
 have HS0 : Hid (Sit W b tb to tc T at_ d v D n ts) := Lib.hid (by rw [hW]; exact (hs.out.carry hb.out).carry (below_alloc _ _))
 have HF0 : Hid (Fr b w W) := Lib.hid (by rw [hW]; exact (Fr.only (Onl.below hb.out) (by omega)).trans (Fr.only (Onl.below (below_alloc _ _)) (by omega)))
 have HM0 : Hid (SAt W w1.heap.size kd ln cl nm X dn) := Lib.hid (by rw [hW]; exact SAt.made w1 kd ln cl nm X dn)
 clear hW
 have HC1 := Lib.hid (okOf (hE (HS0.out.up (by omega))) e1.out)
 refine HC1.out.mono ?_
 rintro e w2 ⟨rfl, ⟨at1, v1, dr, rd⟩, fr⟩
 have HS1 := Lib.hid (HS0.out.then (s := 0) (hg d ts F1 r1 e1.out) dr rd)
 have HF1 := Lib.hid (HF0.out.trans fr)
 have HM1 := Lib.hid (HM0.out.fr fr (by omega))
 clear dr rd fr
 obtain ⟨g, j, cap1, hv1, kc, hj⟩ := last_cell HS1.out.rd h1.out
 have c3 := HS1.out.rd.c3
 rw [hv1] at c3
 rw [hkv.out] at kc
 have hjm := HS1.out.rm
 rw [hj] at hjm
 have hj1 : IntKind.i64.wrap (j : Int) = (j : Int) := IntWalk.i64_in _ (by omega)
 clear hj hjm hv1
 go_wp2_with fail
 go_quiet (fail)
 replace HF1 := Lib.hid (HF1.out.trans (Fr.only (Onl.below (below_drewN _ nq)) (by have := HS1.out.rd.lt; omega)))
 replace HS1 := Lib.hid (HS1.out.carry (below_drewN _ nq))
 replace HM1 := Lib.hid (HM1.out.below (below_drewN _ nq))
 clear kc c3 hj1
 go_wp2_with fail
 have HX := Lib.hid (fail_any HS1.out.rd HS1.out.next 5)
 refine HX.out.mono ?_
 rintro e wz ⟨rfl, rf, fr⟩
 replace rf := Lib.hid rf
 replace fr := Lib.hid fr
 go_wp2_with fail
 go_ret
 exact ⟨rfl, rf.out, HF1.out.trans (Fr.only fr.out (by have := HS1.out.rd.lt; omega))⟩

set_option maxHeartbeats 1000000 in
theorem set_bad {w : World} {b tb to tc : Nat} {T : List Tok} {at_ d : Nat} {v : Value} {D : List Nd} {n : Nat} {ts : List Tok} (h : Sit w b tb to tc T at_ d v D n ts) {E : Pt} (hE : Does 13 n E) (hg : Gd 0 E) {c : Int} {l k : Nat} (e1 : E d ts = .bad c l k) : Calls Tryz.prog 123 #[pR b] w (Post b tb to tc T d D w (setP E d ts)) := by
 have hbl := h.rd.lt
 obtain ⟨⟨kd, ln, cl, nm, tx⟩, ht⟩ : ∃ t, hd ts = t := ⟨_, rfl⟩
 obtain ⟨a, cap, hv⟩ := own_slice h.rd.own
 obtain ⟨X, hX⟩ : ∃ X, bs tx = X := ⟨_, rfl⟩
 obtain ⟨dn, hdn⟩ : ∃ dn, D.length = dn := ⟨_, rfl⟩
 have HH : Hid (Calls Tryz.prog 73 #[pR b] w fun e w' => e = .returned (sV kd ln cl nm X dn) ∧ Below w.heap.size w w') := Lib.hid (by have := here_any h ht dn hdn a cap (by rw [hv, hdn]); rw [hX] at this; exact this)
 rw [show (setP E) d ts = .bad c l k by simp only [setP, Out.bind, e1]]
 replace e1 := Lib.hid e1
 have hs := Lib.hid h
 replace ht := Lib.hid ht
 replace hX := Lib.hid hX
 replace hdn := Lib.hid hdn
 replace hv := Lib.hid hv
 clear h
 go_enter Tryz.func123, Tryz.ntmps123
 go_wp2_with fail
 refine HH.out.mono ?_
 rintro e w1 ⟨rfl, hb⟩
 have hbl1 := (hs.out.rd.carry hb).lt
 replace hb := Lib.hid hb
 go_wp2_with fail
 obtain ⟨W, hW⟩ : ∃ W, W = w1.alloc (.cells #[.int .u8 kd, .int .i64 ln, .int .i64 cl, .int .i64 nm, .string X, .int .i64 dn] 70) := ⟨_, rfl⟩
 rw [← hW]
 have HS0 : Hid (Sit W b tb to tc T at_ d v D n ts) := Lib.hid (by rw [hW]; exact (hs.out.carry hb.out).carry (below_alloc _ _))
 have HF0 : Hid (Fr b w W) := Lib.hid (by rw [hW]; exact (Fr.only (Onl.below hb.out) (by omega)).trans (Fr.only (Onl.below (below_alloc _ _)) (by omega)))
 have HM0 : Hid (SAt W w1.heap.size kd ln cl nm X dn) := Lib.hid (by rw [hW]; exact SAt.made w1 kd ln cl nm X dn)
 clear hW
 have HC1 := Lib.hid (badOf (hE (HS0.out.up (by omega))) e1.out)
 refine HC1.out.mono ?_
 rintro e w2 ⟨rfl, rf, fr⟩
 replace rf := Lib.hid rf
 replace fr := Lib.hid fr
 go_wp2_with fail
 go_ret
 exact ⟨rfl, rf.out, HF0.out.trans fr.out⟩

theorem set_r {w : World} {b tb to tc : Nat} {T : List Tok} {at_ d : Nat} {v : Value} {D : List Nd} {n : Nat} {ts : List Tok} (h : Sit w b tb to tc T at_ d v D n ts) {E : Pt} (hE : Does 13 n E) (hg : Gd 0 E) (hs : Sing E) : Calls Tryz.prog 123 #[pR b] w (Post b tb to tc T d D w (setP E d ts)) := by
 cases e1 : E d ts with
 | bad c l k => exact set_bad h hE hg e1
 | ok F1 r1 =>
  have h1 := hs _ _ _ _ e1
  by_cases k26 : rootK F1 = 26
  ·exact set_26 h hE hg e1 h1 k26
  by_cases k28 : rootK F1 = 28
  ·exact set_28 h hE hg e1 h1 k28
  by_cases k29 : rootK F1 = 29
  ·exact set_29 h hE hg e1 h1 k29
  by_cases k27 : rootK F1 = 27
  ·exact set_27 h hE hg e1 h1 k27
  exact set_none h hE hg e1 h1 _ rfl k26 k28 k29 k27
end
end Go.Proofs.YtbknflaooemigaaGreat

namespace Go.Proofs.YtbknflaooemigaaGreat
section
open Go.RowKit Go.Sort
set_option linter.unusedVariables false
set_option linter.unusedSimpArgs false

/-- Functions in a row in memory. -/
def FRow (w : World) (g : Nat) (L : List (FuncId × Pt)) : Prop := w.heap[g]? = some (.cells (L.map fun q => Value.func (.func q.1) #[] #[]).toArray 53 (0, 0))
theorem FRow.cell {w : World} {g : Nat} {L : List (FuncId × Pt)} (h : FRow w g L) {i : Nat} {q : FuncId × Pt} (hi : L[i]? = some q) : w.cell? ⟨g, i, none⟩ = some (.func (.func q.1) #[] #[]) := by
 rw [cell_of_row w g i _ 53 (0, 0) h]
 simp [hi]
theorem FRow.fr {w w' : World} {b g : Nat} {L : List (FuncId × Pt)} (h : FRow w g L) (hb : Fr b w w') (hg : g ≠ b) : FRow w' g L := hb.cells _ _ _ _ h hg (by decide)

def WLoop (w : World) (b tb to tc : Nat) (T : List Tok) (d : Nat) (D : List Nd) (n g S : Nat) (kd ln cl : Nat) (nm : Int) (X : ByteArray) (dn : Nat) (L : List (FuncId × Pt)) (R : Out) (j : Value) (wr : World) : Prop :=
 ∃ (i at_ : Nat) (v : Value) (A : Fo) (ts : List Tok), j = .int .i64 i ∧ i ≤ L.length ∧ Sit wr b tb to tc T at_ d v (D ++ A.post) n ts ∧ ((seqAll ((L.drop i).map Prod.snd) d ts).bind fun G r' => .ok (A.app G) r') = R ∧ SAt wr S kd ln cl nm X dn ∧ FRow wr g L ∧ Fr b w wr

set_option maxHeartbeats 2000000 in
theorem worded_r {w : World} {b tb to tc : Nat} {T : List Tok} {at_ d : Nat} {v : Value} {D : List Nd} {n : Nat} {ts : List Tok} (h : Sit w b tb to tc T at_ d v D n ts) (hk : (hd ts).kind ≠ 8) (kk : Nat) (L : List (FuncId × Pt)) {g : Nat} (hR : FRow w g L) (hgb : g ≠ b) (c k : Nat) (hLk : L.length = k) (hkl : k ≤ 10)
  (hL : ∀ q ∈ L, (∀ args w, (callFunc q.1 args).run Tryz.prog w = .ok (.enter q.1 args) w) ∧ Does q.1 (n - 1) q.2 ∧ Gd 0 q.2) :
  Calls Tryz.prog 120 #[pR b, .int .u8 kk, .slice (some ⟨g, 0, none⟩) k c] w (Post b tb to tc T d D w (wordedP kk (L.map Prod.snd) d ts)) := by
 have hbl := h.rd.lt
 obtain ⟨⟨kd, ln, cl, nm, tx⟩, ht⟩ : ∃ t, hd ts = t := ⟨_, rfl⟩
 obtain ⟨a, cap, hv⟩ := own_slice h.rd.own
 obtain ⟨X, hX⟩ : ∃ X, bs tx = X := ⟨_, rfl⟩
 obtain ⟨dn, hdn⟩ : ∃ dn, D.length = dn := ⟨_, rfl⟩
 have HH : Hid (Calls Tryz.prog 73 #[pR b] w fun e w' => e = .returned (sV kd ln cl nm X dn) ∧ Below w.heap.size w w') := Lib.hid (by have := here_any h ht dn hdn a cap (by rw [hv, hdn]); rw [hX] at this; exact this)
 have hlt : at_ < T.length := (List.getElem?_eq_some_iff.1 h.next).1
 have htn := h.rd.tn
 have hn : at_ < 1000000 := by omega
 unfold wordedP nodeP afterP
 obtain ⟨R, hRR⟩ : ∃ R, seqAll (L.map Prod.snd) d ts.tail = R := ⟨_, rfl⟩
 rw [hRR]
 have hrm0 := h.rm
 have htl : ts.tail.length + 1 ≤ ts.length := by obtain ⟨t, l, rfl⟩ := h.en.ne; simp
 have hs := Lib.hid h
 replace hk := Lib.hid hk
 replace ht := Lib.hid ht
 replace hdn := Lib.hid hdn
 replace hR := Lib.hid hR
 replace hL := Lib.hid hL
 replace hLk := Lib.hid hLk
 replace hRR := Lib.hid hRR
 clear h hlt htn hX hv
 go_enter Tryz.func120, Tryz.ntmps120
 go_wp2_with fail
 refine HH.out.mono ?_
 rintro e w1 ⟨rfl, hb⟩
 have c1 := (hs.out.rd.carry hb).c1
 have fz := (hs.out.rd.carry hb).fz
 have hbl1 := (hs.out.rd.carry hb).lt
 have HT := (hs.out.carry hb).tail ((hs.out.carry hb).rd.bump (at_ + 1)) hk.out
 rw [show ((at_ + 1 : Nat) : Int) = (at_ : Int) + 1 by omega] at HT
 replace HT := Lib.hid HT
 replace hb := Lib.hid hb
 go_wp2_with fail
 obtain ⟨W, hW⟩ : ∃ W, W = (w1.setCell ⟨b, 1, none⟩ (.int .i64 ((at_ : Int) + 1))).alloc (.cells #[.int .u8 kd, .int .i64 ln, .int .i64 cl, .int .i64 nm, .string X, .int .i64 dn] 70) := ⟨_, rfl⟩
 rw [← hW]
 have HF0 : Hid (Fr b w W) := Lib.hid (by rw [hW]; exact ((Fr.only (Onl.below hb.out) (by omega)).trans (Fr.only (Onl.set _ _ _ _) (by omega))).trans (Fr.only (Onl.below (below_alloc _ _)) (by simp; omega)))
 have HI : Hid (WLoop w b tb to tc T d D (n - 1) g w1.heap.size kd ln cl nm X dn L R (.int .i64 0) W) := Lib.hid ⟨0, at_ + 1, v, .nil, ts.tail, rfl, Nat.zero_le _, by rw [hW]; simpa [Fo.post] using HT.out.carry (below_alloc _ _), by
   rw [List.drop_zero, hRR.out]; cases R <;> rfl, by rw [hW]; have := SAt.made (w1.setCell ⟨b, 1, none⟩ (.int .i64 ((at_ : Int) + 1))) kd ln cl nm X dn; simpa using this, hR.out.fr HF0.out hgb, HF0.out⟩
 clear hW HT c1 fz
 go_loopw [21] (fun j wr => WLoop w b tb to tc T d D (n - 1) g w1.heap.size kd ln cl nm X dn L R j wr) (fun j _ => k - (intOf j).toNat)
 case atStart => exact HI.out
 case round =>
  obtain ⟨i, at1, v1, A, ts1, rfl, hik, hs1, hRi, hSA, hFR, hfr⟩ := hrel
  rw [hLk.out] at hik
  by_cases hlt : i < k
  ·obtain ⟨⟨f, p⟩, hq⟩ : ∃ q, L[i]? = some q := ⟨L[i]'(by rw [hLk.out]; exact hlt), by simp [hLk.out, hlt]⟩
   have hc := hFR.cell hq
   obtain ⟨eg, hdo, hgd⟩ := hL.out _ (List.mem_of_getElem? hq)
   simp only at hc eg hdo hgd
   have hdrop : L.drop i = (f, p) :: L.drop (i + 1) := by
    rw [List.drop_eq_getElem_cons (by rw [hLk.out]; exact hlt)]
    congr 1
    rw [List.getElem?_eq_getElem (by rw [hLk.out]; exact hlt)] at hq
    exact Option.some.inj hq
   rw [hdrop] at hRi
   obtain ⟨o, ho⟩ : ∃ o, p d ts1 = o := ⟨_, rfl⟩
   have HD := Lib.hid (hdo hs1)
   rw [ho] at HD
   have HL := Lib.hid (fun F r e => hgd d ts1 F r (ho.trans e))
   have HRi : Hid ((o.bind fun F r => (seqAll ((L.drop (i + 1)).map Prod.snd) d r).bind fun G r' => .ok (F.app G) r').bind (fun G r' => .ok (A.app G) r') = R) := Lib.hid (by rw [← hRi, ← ho]; rfl)
   replace hs1 := Lib.hid hs1
   replace hSA := Lib.hid hSA
   replace hFR := Lib.hid hFR
   replace hfr := Lib.hid hfr
   clear hq hdo hgd hdrop hRi ho
   go_wp2_with fail
   refine HD.out.mono ?_
   rintro e w2 ⟨rfl, hw⟩
   cases o with
   | bad c' l' k' =>
    replace hw := Lib.hid hw
    go_wp2_with fail
    go_ret
    rw [← HRi.out]
    exact ⟨rfl, hw.out.1, hfr.out.trans hw.out.2⟩
   | ok F r =>
    obtain ⟨⟨at', v', hdr, hrd⟩, hf2⟩ := hw
    have hs2 := Lib.hid (hs1.out.then (s := 0) (HL.out F r rfl) hdr hrd)
    replace hSA := Lib.hid (hSA.out.fr hf2 (by omega))
    replace hFR := Lib.hid (hFR.out.fr hf2 hgb)
    replace hf2 := Lib.hid hf2
    clear hdr hrd hc
    go_wp2_with fail
    go_roundw
    case rel =>
     refine ⟨i + 1, at', v', A.app F, r, by go_num, by rw [hLk.out]; exact hlt, by rw [post_app, ← List.append_assoc]; exact hs2.out, ?_, hSA.out, hFR.out, hfr.out.trans hf2.out⟩
     rw [← HRi.out]
     show _ = (((seqAll ((L.drop (i + 1)).map Prod.snd) d r).bind fun G r' => .ok (F.app G) r').bind fun G r' => .ok (A.app G) r')
     cases seqAll ((L.drop (i + 1)).map Prod.snd) d r with
     | ok G r' => simp [Out.bind, app_assoc]
     | bad c l k => rfl
    case measure => simp [intOf]; omega
  ·obtain rfl : i = k := by omega
   have HR : Hid (R = .ok A ts1) := Lib.hid (by rw [← hRi, ← hLk.out, List.drop_length]; simp [seqAll, nothingP, Out.bind, app_nil])
   obtain ⟨m0, m1, m2, m3, m4, m5⟩ := hSA.at
   have hrm := hs1.rm
   have HA := Lib.hid (add_any hs1.rd kd ln cl dn nm X kk 0 0 0 0 { data := #[] } A.cnt (by simp [post_len, hdn.out]) (by omega))
   replace hs1 := Lib.hid hs1
   replace hfr := Lib.hid hfr
   clear hRi hSA hFR
   go_wp2_with fail
   refine HA.out.mono ?_
   rintro e w3 ⟨rfl, ⟨v3, rd3⟩, fr3⟩
   replace rd3 := Lib.hid rd3
   replace fr3 := Lib.hid fr3
   go_wp2_with fail
   go_ret
   rw [HR.out]
   exact ⟨rfl, ⟨at1, v3, hs1.out.dr, rd_node rd3.out rfl (by simp [mkK, Inf.nd, ht.out]; rfl)⟩, hfr.out.trans fr3.out⟩
end
end Go.Proofs.YtbknflaooemigaaGreat

namespace Go.Proofs.YtbknflaooemigaaGreat
section
open Go.RowKit Go.Sort
set_option linter.unusedVariables false
set_option linter.unusedSimpArgs false

set_option maxHeartbeats 2000000 in
theorem statement_r {w : World} {b tb to tc : Nat} {T : List Tok} {at_ d : Nat} {v : Value} {D : List Nd} {n : Nat} {ts : List Tok} (h : Sit w b tb to tc T at_ d v D n ts) {E B : Pt} {N : Nat} (hE : Does 13 n E) (hg : Gd 0 E) (hs : Sing E) (hB : Does 81 (n - 1) B) (gB : Gd 0 B) (hN : n ≤ N) : Calls Tryz.prog 113 #[pR b] w (Post b tb to tc T d D w ((stmtOf E B N) d ts)) := by
 have hbl := h.rd.lt
 cases q0 : sees [118, 97, 114] ts with
 | true =>
  have HS := Lib.hid h
  have Q0 := Lib.hid (fun w' hb => sees_any (h.rd.carry (w' := w') hb) h.next { data := #[118, 97, 114] } [118, 97, 114] (by rw [ByteArray.toList_eq]) true q0)
  simp only [stmtOf, iteP]
  rw [if_pos q0]
  have HCALL := Lib.hid (fun (w' : World) (hb : Below w.heap.size w w') => var_r (h.carry hb) q0 hE hg hN)
  clear h
  go_enter Tryz.func113, Tryz.ntmps113
  go_wp2_with fail
  refine (Q0.out _ (Below.refl _ _)).mono ?_
  rintro e w1 ⟨rfl, hb1⟩
  replace hb1 := Lib.hid hb1
  go_wp2_with fail
  refine (HCALL.out _ (hb1.out)).mono ?_
  rintro e wz ⟨rfl, hw⟩
  replace hw := Lib.hid hw
  go_wp2_with fail
  go_ret
  exact ⟨rfl, hw.out.back (Fr.only (Onl.below (hb1.out)) (by omega))⟩
 | false =>
  cases q1 : sees [105, 102] ts with
  | true =>
   have HS := Lib.hid h
   have Q0 := Lib.hid (fun w' hb => sees_any (h.rd.carry (w' := w') hb) h.next { data := #[118, 97, 114] } [118, 97, 114] (by rw [ByteArray.toList_eq]) false q0)
   have Q1 := Lib.hid (fun w' hb => sees_any (h.rd.carry (w' := w') hb) h.next { data := #[105, 102] } [105, 102] (by rw [ByteArray.toList_eq]) true q1)
   simp only [stmtOf, iteP]
   rw [if_neg (show ¬ sees [118, 97, 114] ts = true by rw [q0]; simp), if_pos q1]
   have HCALL := Lib.hid (fun (w' : World) (hb : Below w.heap.size w w') => (show Calls Tryz.prog 120 #[pR b, .int .u8 9, .slice (some ⟨w'.heap.size, 0, none⟩) 3 3] (w'.alloc (.cells #[Value.func (.func 13) #[] #[], Value.func (.func 81) #[] #[], Value.func (.func 121) #[] #[]] 53)) (Post b tb to tc T d D (w'.alloc (.cells #[Value.func (.func 13) #[] #[], Value.func (.func 81) #[] #[], Value.func (.func 121) #[] #[]] 53)) (wordedP 9 [E, B, elseP B] d ts)) from worded_r ((h.carry hb).carry (below_alloc w' _)) (by obtain ⟨t, l, rfl, hk, _⟩ := sees_cons q1; simp [hd]; omega) 9 [(13, E), (81, B), (121, elseP B)] (show FRow _ _ _ from heap_alloc_new w' _) (by have := (h.carry hb).rd.lt; omega) 3 3 rfl (by decide) (by
    intro q hq
    simp only [List.mem_cons, List.not_mem_nil, or_false] at hq
    rcases hq with rfl | rfl | rfl
    ·exact ⟨(by intro args w; simp [go_sem]), hE.mono (by omega), hg⟩
    ·exact ⟨(by intro args w; simp [go_sem]), hB, gB⟩
    ·exact ⟨(by intro args w; simp [go_sem]), (fun w b tb to tc T at_ d v D ts h => else_r h (hB.mono (by omega))), gd_ite (fun d ts h F r e => (ga_after h gB F r e).mono (by omega)) gd_nothing⟩
    )))
   clear h
   go_enter Tryz.func113, Tryz.ntmps113
   go_wp2_with fail
   refine (Q0.out _ (Below.refl _ _)).mono ?_
   rintro e w1 ⟨rfl, hb1⟩
   replace hb1 := Lib.hid hb1
   go_wp2_with fail
   refine (Q1.out _ (hb1.out)).mono ?_
   rintro e w2 ⟨rfl, hb2⟩
   replace hb2 := Lib.hid (below_step hb1.out hb2)
   go_wp2_with fail
   refine (HCALL.out _ (hb2.out)).mono ?_
   rintro e wz ⟨rfl, hw⟩
   replace hw := Lib.hid hw
   go_wp2_with fail
   go_ret
   exact ⟨rfl, hw.out.back (Fr.only (Onl.below (below_step (hb2.out) (below_alloc _ _))) (by omega))⟩
  | false =>
   cases q2 : sees [119, 104, 105, 108, 101] ts with
   | true =>
    have HS := Lib.hid h
    have Q0 := Lib.hid (fun w' hb => sees_any (h.rd.carry (w' := w') hb) h.next { data := #[118, 97, 114] } [118, 97, 114] (by rw [ByteArray.toList_eq]) false q0)
    have Q1 := Lib.hid (fun w' hb => sees_any (h.rd.carry (w' := w') hb) h.next { data := #[105, 102] } [105, 102] (by rw [ByteArray.toList_eq]) false q1)
    have Q2 := Lib.hid (fun w' hb => sees_any (h.rd.carry (w' := w') hb) h.next { data := #[119, 104, 105, 108, 101] } [119, 104, 105, 108, 101] (by rw [ByteArray.toList_eq]) true q2)
    simp only [stmtOf, iteP]
    rw [if_neg (show ¬ sees [118, 97, 114] ts = true by rw [q0]; simp), if_neg (show ¬ sees [105, 102] ts = true by rw [q1]; simp), if_pos q2]
    have HCALL := Lib.hid (fun (w' : World) (hb : Below w.heap.size w w') => (show Calls Tryz.prog 120 #[pR b, .int .u8 10, .slice (some ⟨w'.heap.size, 0, none⟩) 2 2] (w'.alloc (.cells #[Value.func (.func 13) #[] #[], Value.func (.func 81) #[] #[]] 53)) (Post b tb to tc T d D (w'.alloc (.cells #[Value.func (.func 13) #[] #[], Value.func (.func 81) #[] #[]] 53)) (wordedP 10 [E, B] d ts)) from worded_r ((h.carry hb).carry (below_alloc w' _)) (by obtain ⟨t, l, rfl, hk, _⟩ := sees_cons q2; simp [hd]; omega) 10 [(13, E), (81, B)] (show FRow _ _ _ from heap_alloc_new w' _) (by have := (h.carry hb).rd.lt; omega) 2 2 rfl (by decide) (by
    intro q hq
    simp only [List.mem_cons, List.not_mem_nil, or_false] at hq
    rcases hq with rfl | rfl
    ·exact ⟨(by intro args w; simp [go_sem]), hE.mono (by omega), hg⟩
    ·exact ⟨(by intro args w; simp [go_sem]), hB, gB⟩
    )))
    clear h
    go_enter Tryz.func113, Tryz.ntmps113
    go_wp2_with fail
    refine (Q0.out _ (Below.refl _ _)).mono ?_
    rintro e w1 ⟨rfl, hb1⟩
    replace hb1 := Lib.hid hb1
    go_wp2_with fail
    refine (Q1.out _ (hb1.out)).mono ?_
    rintro e w2 ⟨rfl, hb2⟩
    replace hb2 := Lib.hid (below_step hb1.out hb2)
    go_wp2_with fail
    refine (Q2.out _ (hb2.out)).mono ?_
    rintro e w3 ⟨rfl, hb3⟩
    replace hb3 := Lib.hid (below_step hb2.out hb3)
    go_wp2_with fail
    refine (HCALL.out _ (hb3.out)).mono ?_
    rintro e wz ⟨rfl, hw⟩
    replace hw := Lib.hid hw
    go_wp2_with fail
    go_ret
    exact ⟨rfl, hw.out.back (Fr.only (Onl.below (below_step (hb3.out) (below_alloc _ _))) (by omega))⟩
   | false =>
    cases q3 : sees [114, 101, 116, 117, 114, 110] ts with
    | true =>
     have HS := Lib.hid h
     have Q0 := Lib.hid (fun w' hb => sees_any (h.rd.carry (w' := w') hb) h.next { data := #[118, 97, 114] } [118, 97, 114] (by rw [ByteArray.toList_eq]) false q0)
     have Q1 := Lib.hid (fun w' hb => sees_any (h.rd.carry (w' := w') hb) h.next { data := #[105, 102] } [105, 102] (by rw [ByteArray.toList_eq]) false q1)
     have Q2 := Lib.hid (fun w' hb => sees_any (h.rd.carry (w' := w') hb) h.next { data := #[119, 104, 105, 108, 101] } [119, 104, 105, 108, 101] (by rw [ByteArray.toList_eq]) false q2)
     have Q3 := Lib.hid (fun w' hb => sees_any (h.rd.carry (w' := w') hb) h.next { data := #[114, 101, 116, 117, 114, 110] } [114, 101, 116, 117, 114, 110] (by rw [ByteArray.toList_eq]) true q3)
     simp only [stmtOf, iteP]
     rw [if_neg (show ¬ sees [118, 97, 114] ts = true by rw [q0]; simp), if_neg (show ¬ sees [105, 102] ts = true by rw [q1]; simp), if_neg (show ¬ sees [119, 104, 105, 108, 101] ts = true by rw [q2]; simp), if_pos q3]
     have HCALL := Lib.hid (fun (w' : World) (hb : Below w.heap.size w w') => (show Calls Tryz.prog 120 #[pR b, .int .u8 11, .slice (some ⟨w'.heap.size, 0, none⟩) 2 2] (w'.alloc (.cells #[Value.func (.func 122) #[] #[], Value.func (.func 110) #[] #[]] 53)) (Post b tb to tc T d D (w'.alloc (.cells #[Value.func (.func 122) #[] #[], Value.func (.func 110) #[] #[]] 53)) (wordedP 11 [answerP E, take [59]] d ts)) from worded_r ((h.carry hb).carry (below_alloc w' _)) (by obtain ⟨t, l, rfl, hk, _⟩ := sees_cons q3; simp [hd]; omega) 11 [(122, answerP E), (110, take [59])] (show FRow _ _ _ from heap_alloc_new w' _) (by have := (h.carry hb).rd.lt; omega) 2 2 rfl (by decide) (by
    intro q hq
    simp only [List.mem_cons, List.not_mem_nil, or_false] at hq
    rcases hq with rfl | rfl
    ·exact ⟨(by intro args w; simp [go_sem]), (fun w b tb to tc T at_ d v D ts h => answer_r h (hE.mono (by omega))), gd_ite (fun d ts _ => gd_nothing d ts) hg⟩
    ·exact ⟨(by intro args w; simp [go_sem]), semi_does _, (gd_take [59]).mono (by omega)⟩
    )))
     clear h
     go_enter Tryz.func113, Tryz.ntmps113
     go_wp2_with fail
     refine (Q0.out _ (Below.refl _ _)).mono ?_
     rintro e w1 ⟨rfl, hb1⟩
     replace hb1 := Lib.hid hb1
     go_wp2_with fail
     refine (Q1.out _ (hb1.out)).mono ?_
     rintro e w2 ⟨rfl, hb2⟩
     replace hb2 := Lib.hid (below_step hb1.out hb2)
     go_wp2_with fail
     refine (Q2.out _ (hb2.out)).mono ?_
     rintro e w3 ⟨rfl, hb3⟩
     replace hb3 := Lib.hid (below_step hb2.out hb3)
     go_wp2_with fail
     refine (Q3.out _ (hb3.out)).mono ?_
     rintro e w4 ⟨rfl, hb4⟩
     replace hb4 := Lib.hid (below_step hb3.out hb4)
     go_wp2_with fail
     refine (HCALL.out _ (hb4.out)).mono ?_
     rintro e wz ⟨rfl, hw⟩
     replace hw := Lib.hid hw
     go_wp2_with fail
     go_ret
     exact ⟨rfl, hw.out.back (Fr.only (Onl.below (below_step (hb4.out) (below_alloc _ _))) (by omega))⟩
    | false =>
     cases q4 : sees [112, 114, 105, 110, 116] ts with
     | true =>
      have HS := Lib.hid h
      have Q0 := Lib.hid (fun w' hb => sees_any (h.rd.carry (w' := w') hb) h.next { data := #[118, 97, 114] } [118, 97, 114] (by rw [ByteArray.toList_eq]) false q0)
      have Q1 := Lib.hid (fun w' hb => sees_any (h.rd.carry (w' := w') hb) h.next { data := #[105, 102] } [105, 102] (by rw [ByteArray.toList_eq]) false q1)
      have Q2 := Lib.hid (fun w' hb => sees_any (h.rd.carry (w' := w') hb) h.next { data := #[119, 104, 105, 108, 101] } [119, 104, 105, 108, 101] (by rw [ByteArray.toList_eq]) false q2)
      have Q3 := Lib.hid (fun w' hb => sees_any (h.rd.carry (w' := w') hb) h.next { data := #[114, 101, 116, 117, 114, 110] } [114, 101, 116, 117, 114, 110] (by rw [ByteArray.toList_eq]) false q3)
      have Q4 := Lib.hid (fun w' hb => sees_any (h.rd.carry (w' := w') hb) h.next { data := #[112, 114, 105, 110, 116] } [112, 114, 105, 110, 116] (by rw [ByteArray.toList_eq]) true q4)
      simp only [stmtOf, iteP]
      rw [if_neg (show ¬ sees [118, 97, 114] ts = true by rw [q0]; simp), if_neg (show ¬ sees [105, 102] ts = true by rw [q1]; simp), if_neg (show ¬ sees [119, 104, 105, 108, 101] ts = true by rw [q2]; simp), if_neg (show ¬ sees [114, 101, 116, 117, 114, 110] ts = true by rw [q3]; simp), if_pos q4]
      have HCALL := Lib.hid (fun (w' : World) (hb : Below w.heap.size w w') => (show Calls Tryz.prog 120 #[pR b, .int .u8 12, .slice (some ⟨w'.heap.size, 0, none⟩) 2 2] (w'.alloc (.cells #[Value.func (.func 13) #[] #[], Value.func (.func 110) #[] #[]] 53)) (Post b tb to tc T d D (w'.alloc (.cells #[Value.func (.func 13) #[] #[], Value.func (.func 110) #[] #[]] 53)) (wordedP 12 [E, take [59]] d ts)) from worded_r ((h.carry hb).carry (below_alloc w' _)) (by obtain ⟨t, l, rfl, hk, _⟩ := sees_cons q4; simp [hd]; omega) 12 [(13, E), (110, take [59])] (show FRow _ _ _ from heap_alloc_new w' _) (by have := (h.carry hb).rd.lt; omega) 2 2 rfl (by decide) (by
    intro q hq
    simp only [List.mem_cons, List.not_mem_nil, or_false] at hq
    rcases hq with rfl | rfl
    ·exact ⟨(by intro args w; simp [go_sem]), hE.mono (by omega), hg⟩
    ·exact ⟨(by intro args w; simp [go_sem]), semi_does _, (gd_take [59]).mono (by omega)⟩
    )))
      clear h
      go_enter Tryz.func113, Tryz.ntmps113
      go_wp2_with fail
      refine (Q0.out _ (Below.refl _ _)).mono ?_
      rintro e w1 ⟨rfl, hb1⟩
      replace hb1 := Lib.hid hb1
      go_wp2_with fail
      refine (Q1.out _ (hb1.out)).mono ?_
      rintro e w2 ⟨rfl, hb2⟩
      replace hb2 := Lib.hid (below_step hb1.out hb2)
      go_wp2_with fail
      refine (Q2.out _ (hb2.out)).mono ?_
      rintro e w3 ⟨rfl, hb3⟩
      replace hb3 := Lib.hid (below_step hb2.out hb3)
      go_wp2_with fail
      refine (Q3.out _ (hb3.out)).mono ?_
      rintro e w4 ⟨rfl, hb4⟩
      replace hb4 := Lib.hid (below_step hb3.out hb4)
      go_wp2_with fail
      refine (Q4.out _ (hb4.out)).mono ?_
      rintro e w5 ⟨rfl, hb5⟩
      replace hb5 := Lib.hid (below_step hb4.out hb5)
      go_wp2_with fail
      refine (HCALL.out _ (hb5.out)).mono ?_
      rintro e wz ⟨rfl, hw⟩
      replace hw := Lib.hid hw
      go_wp2_with fail
      go_ret
      exact ⟨rfl, hw.out.back (Fr.only (Onl.below (below_step (hb5.out) (below_alloc _ _))) (by omega))⟩
     | false =>
      have HS := Lib.hid h
      have Q0 := Lib.hid (fun w' hb => sees_any (h.rd.carry (w' := w') hb) h.next { data := #[118, 97, 114] } [118, 97, 114] (by rw [ByteArray.toList_eq]) false q0)
      have Q1 := Lib.hid (fun w' hb => sees_any (h.rd.carry (w' := w') hb) h.next { data := #[105, 102] } [105, 102] (by rw [ByteArray.toList_eq]) false q1)
      have Q2 := Lib.hid (fun w' hb => sees_any (h.rd.carry (w' := w') hb) h.next { data := #[119, 104, 105, 108, 101] } [119, 104, 105, 108, 101] (by rw [ByteArray.toList_eq]) false q2)
      have Q3 := Lib.hid (fun w' hb => sees_any (h.rd.carry (w' := w') hb) h.next { data := #[114, 101, 116, 117, 114, 110] } [114, 101, 116, 117, 114, 110] (by rw [ByteArray.toList_eq]) false q3)
      have Q4 := Lib.hid (fun w' hb => sees_any (h.rd.carry (w' := w') hb) h.next { data := #[112, 114, 105, 110, 116] } [112, 114, 105, 110, 116] (by rw [ByteArray.toList_eq]) false q4)
      simp only [stmtOf, iteP]
      rw [if_neg (show ¬ sees [118, 97, 114] ts = true by rw [q0]; simp), if_neg (show ¬ sees [105, 102] ts = true by rw [q1]; simp), if_neg (show ¬ sees [119, 104, 105, 108, 101] ts = true by rw [q2]; simp), if_neg (show ¬ sees [114, 101, 116, 117, 114, 110] ts = true by rw [q3]; simp), if_neg (show ¬ sees [112, 114, 105, 110, 116] ts = true by rw [q4]; simp)]
      have HCALL := Lib.hid (fun (w' : World) (hb : Below w.heap.size w w') => set_r (h.carry hb) hE hg hs)
      clear h
      go_enter Tryz.func113, Tryz.ntmps113
      go_wp2_with fail
      refine (Q0.out _ (Below.refl _ _)).mono ?_
      rintro e w1 ⟨rfl, hb1⟩
      replace hb1 := Lib.hid hb1
      go_wp2_with fail
      refine (Q1.out _ (hb1.out)).mono ?_
      rintro e w2 ⟨rfl, hb2⟩
      replace hb2 := Lib.hid (below_step hb1.out hb2)
      go_wp2_with fail
      refine (Q2.out _ (hb2.out)).mono ?_
      rintro e w3 ⟨rfl, hb3⟩
      replace hb3 := Lib.hid (below_step hb2.out hb3)
      go_wp2_with fail
      refine (Q3.out _ (hb3.out)).mono ?_
      rintro e w4 ⟨rfl, hb4⟩
      replace hb4 := Lib.hid (below_step hb3.out hb4)
      go_wp2_with fail
      refine (Q4.out _ (hb4.out)).mono ?_
      rintro e w5 ⟨rfl, hb5⟩
      replace hb5 := Lib.hid (below_step hb4.out hb5)
      go_wp2_with fail
      refine (HCALL.out _ (hb5.out)).mono ?_
      rintro e wz ⟨rfl, hw⟩
      replace hw := Lib.hid hw
      go_wp2_with fail
      go_ret
      exact ⟨rfl, hw.out.back (Fr.only (Onl.below (hb5.out)) (by omega))⟩

theorem block_does {n m : Nat} (hp : Does 113 (n - 1) (stmtP m)) (hm : n ≤ m + 1) : Does 81 n (blockOf (stmtP m) m) := fun w b tb to tc T at_ d v D ts h =>
 block_r h (statements_does hp (gd_stmt m) (fun d ts F r e => one_stmt m e) m (by omega)) (gd_stmt m)
theorem stmt_does (n : Nat) : Does 113 n (stmtP n) := by
 induction n with
 | zero => intro w b tb to tc T at_ d v D ts h; exact (sit_pos h).elim
 | succ n ih =>
  intro w b tb to tc T at_ d v D ts h
  exact statement_r h (expr_does (n + 1)) (gd_expr (n + 1)) (sing_expr (n + 1)) (block_does (n := n) (ih.mono (by omega)) (by omega)) ((gd_block (gd_stmt n) n).mono (by omega)) (Nat.le_refl _)
end
end Go.Proofs.YtbknflaooemigaaGreat
