/-
  Contracts of parse.reader's otherwise, answer, variable, setOrDo. Conditions: as said.
-/
import Derived.Test.YtbknflaooemigaaReb
import Derived.Test.YtbknflaooemigaaPsg
import Derived.IntWalk
namespace Go.Proofs.Ytbknflaooemigaa
open Go.RowKit Go.Sort
set_option linter.unusedVariables false
set_option linter.unusedSimpArgs false

set_option maxHeartbeats 400000 in
theorem else_r {w : World} {b tb to tc : Nat} {T : List Tok} {at_ d : Nat} {v : Value} {D : List Nd} {n : Nat} {ts : List Tok} (h : Sit w b tb to tc T at_ d v D n ts) {B : Pt} (hB : Does 51 (n - 1) B) : Calls Try.prog 85 #[pR b] w (Post b tb to tc T d D w (elseP B d ts)) := by
  have hbl := h.rd.lt
  unfold elseP iteP
  cases q0 : sees [101, 108, 115, 101] ts with
  | false =>
    have Q0 := Lib.hid (sees_any h.rd h.next { data := #[101, 108, 115, 101] } [101, 108, 115, 101] (by rw [ByteArray.toList_eq]) false q0)
    rw [if_neg (by simp)]
    replace h := Lib.hid h
    go_enter Try.func85, Try.ntmps85
    go_wp2_with fail
    refine Q0.out.mono ?_
    rintro e w1 ⟨rfl, hb⟩
    replace hb := Lib.hid hb
    go_wp2_with fail
    go_ret
    exact ⟨rfl, ⟨at_, v, h.out.dr, by simpa [Fo.post] using h.out.rd.carry hb.out⟩, Fr.only (Onl.below hb.out) (by omega)⟩
  | true =>
    have Q0 := Lib.hid (sees_any h.rd h.next { data := #[101, 108, 115, 101] } [101, 108, 115, 101] (by rw [ByteArray.toList_eq]) true q0)
    have hk : (hd ts).kind ≠ 8 := by
      obtain ⟨t, l, rfl, hk, _⟩ := sees_cons q0
      simp [hd]; omega
    have hlt : at_ < T.length := (List.getElem?_eq_some_iff.1 h.next).1
    have htn := h.rd.tn
    have hn : at_ < 1000000 := by omega
    rw [if_pos rfl]
    unfold afterP
    replace hk := Lib.hid hk
    replace h := Lib.hid h
    clear q0 hlt htn
    go_enter Try.func85, Try.ntmps85
    go_wp2_with fail
    refine Q0.out.mono ?_
    rintro e w1 ⟨rfl, hb⟩
    have c1 := (h.out.rd.carry hb).c1
    have fz := (h.out.rd.carry hb).fz
    have HT := (h.out.carry hb).tail ((h.out.carry hb).rd.bump (at_ + 1)) hk.out
    rw [show ((at_ + 1 : Nat) : Int) = (at_ : Int) + 1 by omega] at HT
    have HC := Lib.hid (hB HT)
    have HF := Lib.hid ((Fr.only (Onl.below hb) (by omega)).trans (Fr.only (Onl.set b w1 1 (.int .i64 ((at_ : Int) + 1))) (by have := (h.out.rd.carry hb).lt; omega)))
    replace hb := Lib.hid hb
    clear HT
    go_wp2_with fail
    refine HC.out.mono ?_
    rintro e w2 ⟨rfl, hw⟩
    replace hw := Lib.hid hw
    go_wp2_with fail
    go_ret
    exact ⟨rfl, hw.out.back HF.out⟩

set_option maxHeartbeats 400000 in
theorem answer_r {w : World} {b tb to tc : Nat} {T : List Tok} {at_ d : Nat} {v : Value} {D : List Nd} {n : Nat} {ts : List Tok} (h : Sit w b tb to tc T at_ d v D n ts) {E : Pt} (hE : Does 10 n E) : Calls Try.prog 86 #[pR b] w (Post b tb to tc T d D w (answerP E d ts)) := by
  have hbl := h.rd.lt
  unfold answerP iteP
  cases q0 : sees [59] ts with
  | true =>
    have Q0 := Lib.hid (sees_any h.rd h.next { data := #[59] } [59] (by rw [ByteArray.toList_eq]) true q0)
    rw [if_pos rfl]
    replace h := Lib.hid h
    go_enter Try.func86, Try.ntmps86
    go_wp2_with fail
    refine Q0.out.mono ?_
    rintro e w1 ⟨rfl, hb⟩
    replace hb := Lib.hid hb
    go_wp2_with fail
    go_ret
    exact ⟨rfl, ⟨at_, v, h.out.dr, by simpa [Fo.post] using h.out.rd.carry hb.out⟩, Fr.only (Onl.below hb.out) (by omega)⟩
  | false =>
    have Q0 := Lib.hid (sees_any h.rd h.next { data := #[59] } [59] (by rw [ByteArray.toList_eq]) false q0)
    rw [if_neg (by simp)]
    have HC := Lib.hid (fun (w' : World) (hb : Below w.heap.size w w') => hE (h.carry hb))
    clear h
    go_enter Try.func86, Try.ntmps86
    go_wp2_with fail
    refine Q0.out.mono ?_
    rintro e w1 ⟨rfl, hb⟩
    replace hb := Lib.hid hb
    go_wp2_with fail
    refine (HC.out _ hb.out).mono ?_
    rintro e w2 ⟨rfl, hw⟩
    replace hw := Lib.hid hw
    go_wp2_with fail
    go_ret
    exact ⟨rfl, hw.out.back (Fr.only (Onl.below hb.out) (by omega))⟩

set_option maxHeartbeats 2000000 in
theorem var_r {w : World} {b tb to tc : Nat} {T : List Tok} {at_ d : Nat} {v : Value} {D : List Nd} {n : Nat} {ts : List Tok} (h : Sit w b tb to tc T at_ d v D n ts) {E : Pt} {N : Nat} (hq : sees [118, 97, 114] ts = true) (hE : Does 10 n E) (hg : Gd 0 E) (hN : n ≤ N) : Calls Try.prog 83 #[pR b] w (Post b tb to tc T d D w (varP E N d ts)) := by
  have hbl := h.rd.lt
  obtain ⟨⟨kd, ln, cl, nm, tx⟩, ht⟩ : ∃ t, hd ts = t := ⟨_, rfl⟩
  obtain ⟨a, cap, hv⟩ := own_slice h.rd.own
  obtain ⟨X, hX⟩ : ∃ X, bs tx = X := ⟨_, rfl⟩
  obtain ⟨dn, hdn⟩ : ∃ dn, D.length = dn := ⟨_, rfl⟩
  have HH : Hid (Calls Try.prog 43 #[pR b] w fun e w' => e = .returned (sV kd ln cl nm X dn) ∧ Below w.heap.size w w') := Lib.hid (by have := here_any h ht dn hdn a cap (by rw [hv, hdn]); rw [hX] at this; exact this)
  have hk : (hd ts).kind ≠ 8 := by obtain ⟨t, l, rfl, hk, _⟩ := sees_cons hq; simp [hd]; omega
  have hlt : at_ < T.length := (List.getElem?_eq_some_iff.1 h.next).1
  have htn := h.rd.tn
  have hn : at_ < 1000000 := by omega
  replace hk := Lib.hid hk
  obtain ⟨⟨kd2, ln2, cl2, nm2, tx2⟩, ht2⟩ : ∃ t, hd ts.tail = t := ⟨_, rfl⟩
  obtain ⟨X2, hX2⟩ : ∃ X2, bs tx2 = X2 := ⟨_, rfl⟩
  have hF := tokF4 kd2 ln2 cl2 nm2 X2
  cases e1 : (kindP 1) d ts.tail with
  | bad c l k =>
    rw [show (varP E N) d ts = .bad c l k by simp only [varP, nodeP, afterP, seqAll, seqP, nothingP, Out.bind, e1]]
    replace e1 := Lib.hid e1
    have hs := Lib.hid h
    replace ht := Lib.hid ht
    replace hX := Lib.hid hX
    replace hdn := Lib.hid hdn
    replace hv := Lib.hid hv
    replace ht2 := Lib.hid ht2
    replace hX2 := Lib.hid hX2
    clear h hlt htn
    go_enter Try.func83, Try.ntmps83
    go_wp2_with fail
    refine HH.out.mono ?_
    rintro e w1 ⟨rfl, hb⟩
    have c1 := (hs.out.rd.carry hb).c1
    have fz := (hs.out.rd.carry hb).fz
    have hbl1 := (hs.out.rd.carry hb).lt
    have HT := (hs.out.carry hb).tail ((hs.out.carry hb).rd.bump (at_ + 1)) hk.out
    rw [show ((at_ + 1 : Nat) : Int) = (at_ : Int) + 1 by omega] at HT
    replace HT := Lib.hid HT
    replace hb := Lib.hid hb
    go_wp2_with fail
    obtain ⟨W, hW⟩ : ∃ W, W = (w1.setCell ⟨b, 1, none⟩ (.int .i64 ((at_ : Int) + 1))).alloc (.cells #[.int .u8 kd, .int .i64 ln, .int .i64 cl, .int .i64 nm, .string X, .int .i64 dn] 50) := ⟨_, rfl⟩
    rw [← hW]
    have HS0 : Hid (Sit W b tb to tc T (at_ + 1) d v D (n - 1) ts.tail) := Lib.hid (by rw [hW]; exact HT.out.carry (below_alloc _ _))
    have HF0 : Hid (Fr b w W) := Lib.hid (by rw [hW]; exact ((Fr.only (Onl.below hb.out) (by omega)).trans (Fr.only (Onl.set _ _ _ _) (by omega))).trans (Fr.only (Onl.below (below_alloc _ _)) (by simp; omega)))
    have HM0 : Hid (SAt W w1.heap.size kd ln cl nm X dn) := Lib.hid (by rw [hW]; have := SAt.made (w1.setCell ⟨b, 1, none⟩ (.int .i64 ((at_ : Int) + 1))) kd ln cl nm X dn; simpa using this)
    clear hW HT c1 fz
    have HN0 := Lib.hid (HS0.out.next_at ht2.out W (Below.refl _ _))
    rw [hX2.out] at HN0
    refine HN0.out.mono ?_
    rintro e wn ⟨rfl, hbn⟩
    replace HF0 := Lib.hid (HF0.out.trans (Fr.only (Onl.below hbn) (by have := HS0.out.rd.lt; omega)))
    replace HS0 := Lib.hid (HS0.out.carry hbn)
    replace HM0 := Lib.hid (HM0.out.below hbn)
    replace hbn := Lib.hid hbn
    go_wp2_with fail
    have HC1 := Lib.hid (badOf (kind_any HS0.out 1 (by decide)) e1.out)
    refine HC1.out.mono ?_
    rintro e w2 ⟨rfl, rf, fr⟩
    replace rf := Lib.hid rf
    replace fr := Lib.hid fr
    go_wp2_with fail
    go_ret
    exact ⟨rfl, rf.out, HF0.out.trans fr.out⟩
  | ok F1 r1 =>
    cases e2 : (take [58]) d r1 with
    | bad c l k =>
      rw [show (varP E N) d ts = .bad c l k by simp only [varP, nodeP, afterP, seqAll, seqP, nothingP, Out.bind, e1, e2]]
      replace e1 := Lib.hid e1
      replace e2 := Lib.hid e2
      have hs := Lib.hid h
      replace ht := Lib.hid ht
      replace hX := Lib.hid hX
      replace hdn := Lib.hid hdn
      replace hv := Lib.hid hv
      replace ht2 := Lib.hid ht2
      replace hX2 := Lib.hid hX2
      clear h hlt htn
      go_enter Try.func83, Try.ntmps83
      go_wp2_with fail
      refine HH.out.mono ?_
      rintro e w1 ⟨rfl, hb⟩
      have c1 := (hs.out.rd.carry hb).c1
      have fz := (hs.out.rd.carry hb).fz
      have hbl1 := (hs.out.rd.carry hb).lt
      have HT := (hs.out.carry hb).tail ((hs.out.carry hb).rd.bump (at_ + 1)) hk.out
      rw [show ((at_ + 1 : Nat) : Int) = (at_ : Int) + 1 by omega] at HT
      replace HT := Lib.hid HT
      replace hb := Lib.hid hb
      go_wp2_with fail
      obtain ⟨W, hW⟩ : ∃ W, W = (w1.setCell ⟨b, 1, none⟩ (.int .i64 ((at_ : Int) + 1))).alloc (.cells #[.int .u8 kd, .int .i64 ln, .int .i64 cl, .int .i64 nm, .string X, .int .i64 dn] 50) := ⟨_, rfl⟩
      rw [← hW]
      have HS0 : Hid (Sit W b tb to tc T (at_ + 1) d v D (n - 1) ts.tail) := Lib.hid (by rw [hW]; exact HT.out.carry (below_alloc _ _))
      have HF0 : Hid (Fr b w W) := Lib.hid (by rw [hW]; exact ((Fr.only (Onl.below hb.out) (by omega)).trans (Fr.only (Onl.set _ _ _ _) (by omega))).trans (Fr.only (Onl.below (below_alloc _ _)) (by simp; omega)))
      have HM0 : Hid (SAt W w1.heap.size kd ln cl nm X dn) := Lib.hid (by rw [hW]; have := SAt.made (w1.setCell ⟨b, 1, none⟩ (.int .i64 ((at_ : Int) + 1))) kd ln cl nm X dn; simpa using this)
      clear hW HT c1 fz
      have HN0 := Lib.hid (HS0.out.next_at ht2.out W (Below.refl _ _))
      rw [hX2.out] at HN0
      refine HN0.out.mono ?_
      rintro e wn ⟨rfl, hbn⟩
      replace HF0 := Lib.hid (HF0.out.trans (Fr.only (Onl.below hbn) (by have := HS0.out.rd.lt; omega)))
      replace HS0 := Lib.hid (HS0.out.carry hbn)
      replace HM0 := Lib.hid (HM0.out.below hbn)
      replace hbn := Lib.hid hbn
      go_wp2_with fail
      have HC1 := Lib.hid (okOf (kind_any HS0.out 1 (by decide)) e1.out)
      refine HC1.out.mono ?_
      rintro e w2 ⟨rfl, ⟨at1, v1, dr, rd⟩, fr⟩
      have HS1 := Lib.hid (HS0.out.then (s := 1) (gd_kind 1 (by decide) (by decide) d ts.tail F1 r1 e1.out) dr rd)
      have HF1 := Lib.hid (HF0.out.trans fr)
      have HM1 := Lib.hid (HM0.out.fr fr (by omega))
      clear dr rd fr
      go_wp2_with fail
      have HC2 := Lib.hid (badOf (take_any HS1.out { data := #[58] } [58] (by rw [ByteArray.toList_eq])) e2.out)
      refine HC2.out.mono ?_
      rintro e w3 ⟨rfl, rf, fr⟩
      replace rf := Lib.hid rf
      replace fr := Lib.hid fr
      go_wp2_with fail
      go_ret
      exact ⟨rfl, rf.out, HF1.out.trans fr.out⟩
    | ok F2 r2 =>
      cases e3 : (typeP N) d r2 with
      | bad c l k =>
        rw [show (varP E N) d ts = .bad c l k by simp only [varP, nodeP, afterP, seqAll, seqP, nothingP, Out.bind, e1, e2, e3]]
        replace e1 := Lib.hid e1
        replace e2 := Lib.hid e2
        replace e3 := Lib.hid e3
        have hs := Lib.hid h
        replace ht := Lib.hid ht
        replace hX := Lib.hid hX
        replace hdn := Lib.hid hdn
        replace hv := Lib.hid hv
        replace ht2 := Lib.hid ht2
        replace hX2 := Lib.hid hX2
        clear h hlt htn
        go_enter Try.func83, Try.ntmps83
        go_wp2_with fail
        refine HH.out.mono ?_
        rintro e w1 ⟨rfl, hb⟩
        have c1 := (hs.out.rd.carry hb).c1
        have fz := (hs.out.rd.carry hb).fz
        have hbl1 := (hs.out.rd.carry hb).lt
        have HT := (hs.out.carry hb).tail ((hs.out.carry hb).rd.bump (at_ + 1)) hk.out
        rw [show ((at_ + 1 : Nat) : Int) = (at_ : Int) + 1 by omega] at HT
        replace HT := Lib.hid HT
        replace hb := Lib.hid hb
        go_wp2_with fail
        obtain ⟨W, hW⟩ : ∃ W, W = (w1.setCell ⟨b, 1, none⟩ (.int .i64 ((at_ : Int) + 1))).alloc (.cells #[.int .u8 kd, .int .i64 ln, .int .i64 cl, .int .i64 nm, .string X, .int .i64 dn] 50) := ⟨_, rfl⟩
        rw [← hW]
        have HS0 : Hid (Sit W b tb to tc T (at_ + 1) d v D (n - 1) ts.tail) := Lib.hid (by rw [hW]; exact HT.out.carry (below_alloc _ _))
        have HF0 : Hid (Fr b w W) := Lib.hid (by rw [hW]; exact ((Fr.only (Onl.below hb.out) (by omega)).trans (Fr.only (Onl.set _ _ _ _) (by omega))).trans (Fr.only (Onl.below (below_alloc _ _)) (by simp; omega)))
        have HM0 : Hid (SAt W w1.heap.size kd ln cl nm X dn) := Lib.hid (by rw [hW]; have := SAt.made (w1.setCell ⟨b, 1, none⟩ (.int .i64 ((at_ : Int) + 1))) kd ln cl nm X dn; simpa using this)
        clear hW HT c1 fz
        have HN0 := Lib.hid (HS0.out.next_at ht2.out W (Below.refl _ _))
        rw [hX2.out] at HN0
        refine HN0.out.mono ?_
        rintro e wn ⟨rfl, hbn⟩
        replace HF0 := Lib.hid (HF0.out.trans (Fr.only (Onl.below hbn) (by have := HS0.out.rd.lt; omega)))
        replace HS0 := Lib.hid (HS0.out.carry hbn)
        replace HM0 := Lib.hid (HM0.out.below hbn)
        replace hbn := Lib.hid hbn
        go_wp2_with fail
        have HC1 := Lib.hid (okOf (kind_any HS0.out 1 (by decide)) e1.out)
        refine HC1.out.mono ?_
        rintro e w2 ⟨rfl, ⟨at1, v1, dr, rd⟩, fr⟩
        have HS1 := Lib.hid (HS0.out.then (s := 1) (gd_kind 1 (by decide) (by decide) d ts.tail F1 r1 e1.out) dr rd)
        have HF1 := Lib.hid (HF0.out.trans fr)
        have HM1 := Lib.hid (HM0.out.fr fr (by omega))
        clear dr rd fr
        go_wp2_with fail
        have HC2 := Lib.hid (okOf (take_any HS1.out { data := #[58] } [58] (by rw [ByteArray.toList_eq])) e2.out)
        refine HC2.out.mono ?_
        rintro e w3 ⟨rfl, ⟨at2, v2, dr, rd⟩, fr⟩
        have HS2 := Lib.hid (HS1.out.then (s := 1) (gd_take [58] d r1 F2 r2 e2.out) dr rd)
        have HF2 := Lib.hid (HF1.out.trans fr)
        have HM2 := Lib.hid (HM1.out.fr fr (by omega))
        clear dr rd fr
        go_wp2_with fail
        have HC3 := Lib.hid (badOf ((type_does N) (HS2.out.up (by omega))) e3.out)
        refine HC3.out.mono ?_
        rintro e w4 ⟨rfl, rf, fr⟩
        replace rf := Lib.hid rf
        replace fr := Lib.hid fr
        go_wp2_with fail
        go_ret
        exact ⟨rfl, rf.out, HF2.out.trans fr.out⟩
      | ok F3 r3 =>
        cases e4 : (take [61]) d r3 with
        | bad c l k =>
          rw [show (varP E N) d ts = .bad c l k by simp only [varP, nodeP, afterP, seqAll, seqP, nothingP, Out.bind, e1, e2, e3, e4]]
          replace e1 := Lib.hid e1
          replace e2 := Lib.hid e2
          replace e3 := Lib.hid e3
          replace e4 := Lib.hid e4
          have hs := Lib.hid h
          replace ht := Lib.hid ht
          replace hX := Lib.hid hX
          replace hdn := Lib.hid hdn
          replace hv := Lib.hid hv
          replace ht2 := Lib.hid ht2
          replace hX2 := Lib.hid hX2
          clear h hlt htn
          go_enter Try.func83, Try.ntmps83
          go_wp2_with fail
          refine HH.out.mono ?_
          rintro e w1 ⟨rfl, hb⟩
          have c1 := (hs.out.rd.carry hb).c1
          have fz := (hs.out.rd.carry hb).fz
          have hbl1 := (hs.out.rd.carry hb).lt
          have HT := (hs.out.carry hb).tail ((hs.out.carry hb).rd.bump (at_ + 1)) hk.out
          rw [show ((at_ + 1 : Nat) : Int) = (at_ : Int) + 1 by omega] at HT
          replace HT := Lib.hid HT
          replace hb := Lib.hid hb
          go_wp2_with fail
          obtain ⟨W, hW⟩ : ∃ W, W = (w1.setCell ⟨b, 1, none⟩ (.int .i64 ((at_ : Int) + 1))).alloc (.cells #[.int .u8 kd, .int .i64 ln, .int .i64 cl, .int .i64 nm, .string X, .int .i64 dn] 50) := ⟨_, rfl⟩
          rw [← hW]
          have HS0 : Hid (Sit W b tb to tc T (at_ + 1) d v D (n - 1) ts.tail) := Lib.hid (by rw [hW]; exact HT.out.carry (below_alloc _ _))
          have HF0 : Hid (Fr b w W) := Lib.hid (by rw [hW]; exact ((Fr.only (Onl.below hb.out) (by omega)).trans (Fr.only (Onl.set _ _ _ _) (by omega))).trans (Fr.only (Onl.below (below_alloc _ _)) (by simp; omega)))
          have HM0 : Hid (SAt W w1.heap.size kd ln cl nm X dn) := Lib.hid (by rw [hW]; have := SAt.made (w1.setCell ⟨b, 1, none⟩ (.int .i64 ((at_ : Int) + 1))) kd ln cl nm X dn; simpa using this)
          clear hW HT c1 fz
          have HN0 := Lib.hid (HS0.out.next_at ht2.out W (Below.refl _ _))
          rw [hX2.out] at HN0
          refine HN0.out.mono ?_
          rintro e wn ⟨rfl, hbn⟩
          replace HF0 := Lib.hid (HF0.out.trans (Fr.only (Onl.below hbn) (by have := HS0.out.rd.lt; omega)))
          replace HS0 := Lib.hid (HS0.out.carry hbn)
          replace HM0 := Lib.hid (HM0.out.below hbn)
          replace hbn := Lib.hid hbn
          go_wp2_with fail
          have HC1 := Lib.hid (okOf (kind_any HS0.out 1 (by decide)) e1.out)
          refine HC1.out.mono ?_
          rintro e w2 ⟨rfl, ⟨at1, v1, dr, rd⟩, fr⟩
          have HS1 := Lib.hid (HS0.out.then (s := 1) (gd_kind 1 (by decide) (by decide) d ts.tail F1 r1 e1.out) dr rd)
          have HF1 := Lib.hid (HF0.out.trans fr)
          have HM1 := Lib.hid (HM0.out.fr fr (by omega))
          clear dr rd fr
          go_wp2_with fail
          have HC2 := Lib.hid (okOf (take_any HS1.out { data := #[58] } [58] (by rw [ByteArray.toList_eq])) e2.out)
          refine HC2.out.mono ?_
          rintro e w3 ⟨rfl, ⟨at2, v2, dr, rd⟩, fr⟩
          have HS2 := Lib.hid (HS1.out.then (s := 1) (gd_take [58] d r1 F2 r2 e2.out) dr rd)
          have HF2 := Lib.hid (HF1.out.trans fr)
          have HM2 := Lib.hid (HM1.out.fr fr (by omega))
          clear dr rd fr
          go_wp2_with fail
          have HC3 := Lib.hid (okOf ((type_does N) (HS2.out.up (by omega))) e3.out)
          refine HC3.out.mono ?_
          rintro e w4 ⟨rfl, ⟨at3, v3, dr, rd⟩, fr⟩
          have HS3 := Lib.hid (HS2.out.then (s := 0) (gd_type N d r2 F3 r3 e3.out) dr rd)
          have HF3 := Lib.hid (HF2.out.trans fr)
          have HM3 := Lib.hid (HM2.out.fr fr (by omega))
          clear dr rd fr
          go_wp2_with fail
          have HC4 := Lib.hid (badOf (take_any HS3.out { data := #[61] } [61] (by rw [ByteArray.toList_eq])) e4.out)
          refine HC4.out.mono ?_
          rintro e w5 ⟨rfl, rf, fr⟩
          replace rf := Lib.hid rf
          replace fr := Lib.hid fr
          go_wp2_with fail
          go_ret
          exact ⟨rfl, rf.out, HF3.out.trans fr.out⟩
        | ok F4 r4 =>
          cases e5 : (E) d r4 with
          | bad c l k =>
            rw [show (varP E N) d ts = .bad c l k by simp only [varP, nodeP, afterP, seqAll, seqP, nothingP, Out.bind, e1, e2, e3, e4, e5]]
            replace e1 := Lib.hid e1
            replace e2 := Lib.hid e2
            replace e3 := Lib.hid e3
            replace e4 := Lib.hid e4
            replace e5 := Lib.hid e5
            have hs := Lib.hid h
            replace ht := Lib.hid ht
            replace hX := Lib.hid hX
            replace hdn := Lib.hid hdn
            replace hv := Lib.hid hv
            replace ht2 := Lib.hid ht2
            replace hX2 := Lib.hid hX2
            clear h hlt htn
            go_enter Try.func83, Try.ntmps83
            go_wp2_with fail
            refine HH.out.mono ?_
            rintro e w1 ⟨rfl, hb⟩
            have c1 := (hs.out.rd.carry hb).c1
            have fz := (hs.out.rd.carry hb).fz
            have hbl1 := (hs.out.rd.carry hb).lt
            have HT := (hs.out.carry hb).tail ((hs.out.carry hb).rd.bump (at_ + 1)) hk.out
            rw [show ((at_ + 1 : Nat) : Int) = (at_ : Int) + 1 by omega] at HT
            replace HT := Lib.hid HT
            replace hb := Lib.hid hb
            go_wp2_with fail
            obtain ⟨W, hW⟩ : ∃ W, W = (w1.setCell ⟨b, 1, none⟩ (.int .i64 ((at_ : Int) + 1))).alloc (.cells #[.int .u8 kd, .int .i64 ln, .int .i64 cl, .int .i64 nm, .string X, .int .i64 dn] 50) := ⟨_, rfl⟩
            rw [← hW]
            have HS0 : Hid (Sit W b tb to tc T (at_ + 1) d v D (n - 1) ts.tail) := Lib.hid (by rw [hW]; exact HT.out.carry (below_alloc _ _))
            have HF0 : Hid (Fr b w W) := Lib.hid (by rw [hW]; exact ((Fr.only (Onl.below hb.out) (by omega)).trans (Fr.only (Onl.set _ _ _ _) (by omega))).trans (Fr.only (Onl.below (below_alloc _ _)) (by simp; omega)))
            have HM0 : Hid (SAt W w1.heap.size kd ln cl nm X dn) := Lib.hid (by rw [hW]; have := SAt.made (w1.setCell ⟨b, 1, none⟩ (.int .i64 ((at_ : Int) + 1))) kd ln cl nm X dn; simpa using this)
            clear hW HT c1 fz
            have HN0 := Lib.hid (HS0.out.next_at ht2.out W (Below.refl _ _))
            rw [hX2.out] at HN0
            refine HN0.out.mono ?_
            rintro e wn ⟨rfl, hbn⟩
            replace HF0 := Lib.hid (HF0.out.trans (Fr.only (Onl.below hbn) (by have := HS0.out.rd.lt; omega)))
            replace HS0 := Lib.hid (HS0.out.carry hbn)
            replace HM0 := Lib.hid (HM0.out.below hbn)
            replace hbn := Lib.hid hbn
            go_wp2_with fail
            have HC1 := Lib.hid (okOf (kind_any HS0.out 1 (by decide)) e1.out)
            refine HC1.out.mono ?_
            rintro e w2 ⟨rfl, ⟨at1, v1, dr, rd⟩, fr⟩
            have HS1 := Lib.hid (HS0.out.then (s := 1) (gd_kind 1 (by decide) (by decide) d ts.tail F1 r1 e1.out) dr rd)
            have HF1 := Lib.hid (HF0.out.trans fr)
            have HM1 := Lib.hid (HM0.out.fr fr (by omega))
            clear dr rd fr
            go_wp2_with fail
            have HC2 := Lib.hid (okOf (take_any HS1.out { data := #[58] } [58] (by rw [ByteArray.toList_eq])) e2.out)
            refine HC2.out.mono ?_
            rintro e w3 ⟨rfl, ⟨at2, v2, dr, rd⟩, fr⟩
            have HS2 := Lib.hid (HS1.out.then (s := 1) (gd_take [58] d r1 F2 r2 e2.out) dr rd)
            have HF2 := Lib.hid (HF1.out.trans fr)
            have HM2 := Lib.hid (HM1.out.fr fr (by omega))
            clear dr rd fr
            go_wp2_with fail
            have HC3 := Lib.hid (okOf ((type_does N) (HS2.out.up (by omega))) e3.out)
            refine HC3.out.mono ?_
            rintro e w4 ⟨rfl, ⟨at3, v3, dr, rd⟩, fr⟩
            have HS3 := Lib.hid (HS2.out.then (s := 0) (gd_type N d r2 F3 r3 e3.out) dr rd)
            have HF3 := Lib.hid (HF2.out.trans fr)
            have HM3 := Lib.hid (HM2.out.fr fr (by omega))
            clear dr rd fr
            go_wp2_with fail
            have HC4 := Lib.hid (okOf (take_any HS3.out { data := #[61] } [61] (by rw [ByteArray.toList_eq])) e4.out)
            refine HC4.out.mono ?_
            rintro e w5 ⟨rfl, ⟨at4, v4, dr, rd⟩, fr⟩
            have HS4 := Lib.hid (HS3.out.then (s := 1) (gd_take [61] d r3 F4 r4 e4.out) dr rd)
            have HF4 := Lib.hid (HF3.out.trans fr)
            have HM4 := Lib.hid (HM3.out.fr fr (by omega))
            clear dr rd fr
            go_wp2_with fail
            have HC5 := Lib.hid (badOf (hE (HS4.out.up (by omega))) e5.out)
            refine HC5.out.mono ?_
            rintro e w6 ⟨rfl, rf, fr⟩
            replace rf := Lib.hid rf
            replace fr := Lib.hid fr
            go_wp2_with fail
            go_ret
            exact ⟨rfl, rf.out, HF4.out.trans fr.out⟩
          | ok F5 r5 =>
            cases e6 : (take [59]) d r5 with
            | bad c l k =>
              rw [show (varP E N) d ts = .bad c l k by simp only [varP, nodeP, afterP, seqAll, seqP, nothingP, Out.bind, e1, e2, e3, e4, e5, e6]]
              replace e1 := Lib.hid e1
              replace e2 := Lib.hid e2
              replace e3 := Lib.hid e3
              replace e4 := Lib.hid e4
              replace e5 := Lib.hid e5
              replace e6 := Lib.hid e6
              have hs := Lib.hid h
              replace ht := Lib.hid ht
              replace hX := Lib.hid hX
              replace hdn := Lib.hid hdn
              replace hv := Lib.hid hv
              replace ht2 := Lib.hid ht2
              replace hX2 := Lib.hid hX2
              clear h hlt htn
              go_enter Try.func83, Try.ntmps83
              go_wp2_with fail
              refine HH.out.mono ?_
              rintro e w1 ⟨rfl, hb⟩
              have c1 := (hs.out.rd.carry hb).c1
              have fz := (hs.out.rd.carry hb).fz
              have hbl1 := (hs.out.rd.carry hb).lt
              have HT := (hs.out.carry hb).tail ((hs.out.carry hb).rd.bump (at_ + 1)) hk.out
              rw [show ((at_ + 1 : Nat) : Int) = (at_ : Int) + 1 by omega] at HT
              replace HT := Lib.hid HT
              replace hb := Lib.hid hb
              go_wp2_with fail
              obtain ⟨W, hW⟩ : ∃ W, W = (w1.setCell ⟨b, 1, none⟩ (.int .i64 ((at_ : Int) + 1))).alloc (.cells #[.int .u8 kd, .int .i64 ln, .int .i64 cl, .int .i64 nm, .string X, .int .i64 dn] 50) := ⟨_, rfl⟩
              rw [← hW]
              have HS0 : Hid (Sit W b tb to tc T (at_ + 1) d v D (n - 1) ts.tail) := Lib.hid (by rw [hW]; exact HT.out.carry (below_alloc _ _))
              have HF0 : Hid (Fr b w W) := Lib.hid (by rw [hW]; exact ((Fr.only (Onl.below hb.out) (by omega)).trans (Fr.only (Onl.set _ _ _ _) (by omega))).trans (Fr.only (Onl.below (below_alloc _ _)) (by simp; omega)))
              have HM0 : Hid (SAt W w1.heap.size kd ln cl nm X dn) := Lib.hid (by rw [hW]; have := SAt.made (w1.setCell ⟨b, 1, none⟩ (.int .i64 ((at_ : Int) + 1))) kd ln cl nm X dn; simpa using this)
              clear hW HT c1 fz
              have HN0 := Lib.hid (HS0.out.next_at ht2.out W (Below.refl _ _))
              rw [hX2.out] at HN0
              refine HN0.out.mono ?_
              rintro e wn ⟨rfl, hbn⟩
              replace HF0 := Lib.hid (HF0.out.trans (Fr.only (Onl.below hbn) (by have := HS0.out.rd.lt; omega)))
              replace HS0 := Lib.hid (HS0.out.carry hbn)
              replace HM0 := Lib.hid (HM0.out.below hbn)
              replace hbn := Lib.hid hbn
              go_wp2_with fail
              have HC1 := Lib.hid (okOf (kind_any HS0.out 1 (by decide)) e1.out)
              refine HC1.out.mono ?_
              rintro e w2 ⟨rfl, ⟨at1, v1, dr, rd⟩, fr⟩
              have HS1 := Lib.hid (HS0.out.then (s := 1) (gd_kind 1 (by decide) (by decide) d ts.tail F1 r1 e1.out) dr rd)
              have HF1 := Lib.hid (HF0.out.trans fr)
              have HM1 := Lib.hid (HM0.out.fr fr (by omega))
              clear dr rd fr
              go_wp2_with fail
              have HC2 := Lib.hid (okOf (take_any HS1.out { data := #[58] } [58] (by rw [ByteArray.toList_eq])) e2.out)
              refine HC2.out.mono ?_
              rintro e w3 ⟨rfl, ⟨at2, v2, dr, rd⟩, fr⟩
              have HS2 := Lib.hid (HS1.out.then (s := 1) (gd_take [58] d r1 F2 r2 e2.out) dr rd)
              have HF2 := Lib.hid (HF1.out.trans fr)
              have HM2 := Lib.hid (HM1.out.fr fr (by omega))
              clear dr rd fr
              go_wp2_with fail
              have HC3 := Lib.hid (okOf ((type_does N) (HS2.out.up (by omega))) e3.out)
              refine HC3.out.mono ?_
              rintro e w4 ⟨rfl, ⟨at3, v3, dr, rd⟩, fr⟩
              have HS3 := Lib.hid (HS2.out.then (s := 0) (gd_type N d r2 F3 r3 e3.out) dr rd)
              have HF3 := Lib.hid (HF2.out.trans fr)
              have HM3 := Lib.hid (HM2.out.fr fr (by omega))
              clear dr rd fr
              go_wp2_with fail
              have HC4 := Lib.hid (okOf (take_any HS3.out { data := #[61] } [61] (by rw [ByteArray.toList_eq])) e4.out)
              refine HC4.out.mono ?_
              rintro e w5 ⟨rfl, ⟨at4, v4, dr, rd⟩, fr⟩
              have HS4 := Lib.hid (HS3.out.then (s := 1) (gd_take [61] d r3 F4 r4 e4.out) dr rd)
              have HF4 := Lib.hid (HF3.out.trans fr)
              have HM4 := Lib.hid (HM3.out.fr fr (by omega))
              clear dr rd fr
              go_wp2_with fail
              have HC5 := Lib.hid (okOf (hE (HS4.out.up (by omega))) e5.out)
              refine HC5.out.mono ?_
              rintro e w6 ⟨rfl, ⟨at5, v5, dr, rd⟩, fr⟩
              have HS5 := Lib.hid (HS4.out.then (s := 0) (hg d r4 F5 r5 e5.out) dr rd)
              have HF5 := Lib.hid (HF4.out.trans fr)
              have HM5 := Lib.hid (HM4.out.fr fr (by omega))
              clear dr rd fr
              go_wp2_with fail
              have HC6 := Lib.hid (badOf (semi_does _ HS5.out) e6.out)
              refine HC6.out.mono ?_
              rintro e w7 ⟨rfl, rf, fr⟩
              replace rf := Lib.hid rf
              replace fr := Lib.hid fr
              go_wp2_with fail
              go_ret
              exact ⟨rfl, rf.out, HF5.out.trans fr.out⟩
            | ok F6 r6 =>
              rw [show (varP E N) d ts = .ok (.cons (mkY 7 ts) (F1.app (F2.app (F3.app (F4.app (F5.app (F6.app .nil)))))) .nil) r6 by simp only [varP, nodeP, afterP, seqAll, seqP, nothingP, Out.bind, e1, e2, e3, e4, e5, e6]]
              replace e1 := Lib.hid e1
              replace e2 := Lib.hid e2
              replace e3 := Lib.hid e3
              replace e4 := Lib.hid e4
              replace e5 := Lib.hid e5
              replace e6 := Lib.hid e6
              have hs := Lib.hid h
              replace ht := Lib.hid ht
              replace hX := Lib.hid hX
              replace hdn := Lib.hid hdn
              replace hv := Lib.hid hv
              replace ht2 := Lib.hid ht2
              replace hX2 := Lib.hid hX2
              clear h hlt htn
              go_enter Try.func83, Try.ntmps83
              go_wp2_with fail
              refine HH.out.mono ?_
              rintro e w1 ⟨rfl, hb⟩
              have c1 := (hs.out.rd.carry hb).c1
              have fz := (hs.out.rd.carry hb).fz
              have hbl1 := (hs.out.rd.carry hb).lt
              have HT := (hs.out.carry hb).tail ((hs.out.carry hb).rd.bump (at_ + 1)) hk.out
              rw [show ((at_ + 1 : Nat) : Int) = (at_ : Int) + 1 by omega] at HT
              replace HT := Lib.hid HT
              replace hb := Lib.hid hb
              go_wp2_with fail
              obtain ⟨W, hW⟩ : ∃ W, W = (w1.setCell ⟨b, 1, none⟩ (.int .i64 ((at_ : Int) + 1))).alloc (.cells #[.int .u8 kd, .int .i64 ln, .int .i64 cl, .int .i64 nm, .string X, .int .i64 dn] 50) := ⟨_, rfl⟩
              rw [← hW]
              have HS0 : Hid (Sit W b tb to tc T (at_ + 1) d v D (n - 1) ts.tail) := Lib.hid (by rw [hW]; exact HT.out.carry (below_alloc _ _))
              have HF0 : Hid (Fr b w W) := Lib.hid (by rw [hW]; exact ((Fr.only (Onl.below hb.out) (by omega)).trans (Fr.only (Onl.set _ _ _ _) (by omega))).trans (Fr.only (Onl.below (below_alloc _ _)) (by simp; omega)))
              have HM0 : Hid (SAt W w1.heap.size kd ln cl nm X dn) := Lib.hid (by rw [hW]; have := SAt.made (w1.setCell ⟨b, 1, none⟩ (.int .i64 ((at_ : Int) + 1))) kd ln cl nm X dn; simpa using this)
              clear hW HT c1 fz
              have HN0 := Lib.hid (HS0.out.next_at ht2.out W (Below.refl _ _))
              rw [hX2.out] at HN0
              refine HN0.out.mono ?_
              rintro e wn ⟨rfl, hbn⟩
              replace HF0 := Lib.hid (HF0.out.trans (Fr.only (Onl.below hbn) (by have := HS0.out.rd.lt; omega)))
              replace HS0 := Lib.hid (HS0.out.carry hbn)
              replace HM0 := Lib.hid (HM0.out.below hbn)
              replace hbn := Lib.hid hbn
              go_wp2_with fail
              have HC1 := Lib.hid (okOf (kind_any HS0.out 1 (by decide)) e1.out)
              refine HC1.out.mono ?_
              rintro e w2 ⟨rfl, ⟨at1, v1, dr, rd⟩, fr⟩
              have HS1 := Lib.hid (HS0.out.then (s := 1) (gd_kind 1 (by decide) (by decide) d ts.tail F1 r1 e1.out) dr rd)
              have HF1 := Lib.hid (HF0.out.trans fr)
              have HM1 := Lib.hid (HM0.out.fr fr (by omega))
              clear dr rd fr
              go_wp2_with fail
              have HC2 := Lib.hid (okOf (take_any HS1.out { data := #[58] } [58] (by rw [ByteArray.toList_eq])) e2.out)
              refine HC2.out.mono ?_
              rintro e w3 ⟨rfl, ⟨at2, v2, dr, rd⟩, fr⟩
              have HS2 := Lib.hid (HS1.out.then (s := 1) (gd_take [58] d r1 F2 r2 e2.out) dr rd)
              have HF2 := Lib.hid (HF1.out.trans fr)
              have HM2 := Lib.hid (HM1.out.fr fr (by omega))
              clear dr rd fr
              go_wp2_with fail
              have HC3 := Lib.hid (okOf ((type_does N) (HS2.out.up (by omega))) e3.out)
              refine HC3.out.mono ?_
              rintro e w4 ⟨rfl, ⟨at3, v3, dr, rd⟩, fr⟩
              have HS3 := Lib.hid (HS2.out.then (s := 0) (gd_type N d r2 F3 r3 e3.out) dr rd)
              have HF3 := Lib.hid (HF2.out.trans fr)
              have HM3 := Lib.hid (HM2.out.fr fr (by omega))
              clear dr rd fr
              go_wp2_with fail
              have HC4 := Lib.hid (okOf (take_any HS3.out { data := #[61] } [61] (by rw [ByteArray.toList_eq])) e4.out)
              refine HC4.out.mono ?_
              rintro e w5 ⟨rfl, ⟨at4, v4, dr, rd⟩, fr⟩
              have HS4 := Lib.hid (HS3.out.then (s := 1) (gd_take [61] d r3 F4 r4 e4.out) dr rd)
              have HF4 := Lib.hid (HF3.out.trans fr)
              have HM4 := Lib.hid (HM3.out.fr fr (by omega))
              clear dr rd fr
              go_wp2_with fail
              have HC5 := Lib.hid (okOf (hE (HS4.out.up (by omega))) e5.out)
              refine HC5.out.mono ?_
              rintro e w6 ⟨rfl, ⟨at5, v5, dr, rd⟩, fr⟩
              have HS5 := Lib.hid (HS4.out.then (s := 0) (hg d r4 F5 r5 e5.out) dr rd)
              have HF5 := Lib.hid (HF4.out.trans fr)
              have HM5 := Lib.hid (HM4.out.fr fr (by omega))
              clear dr rd fr
              go_wp2_with fail
              have HC6 := Lib.hid (okOf (semi_does _ HS5.out) e6.out)
              refine HC6.out.mono ?_
              rintro e w7 ⟨rfl, ⟨at6, v6, dr, rd⟩, fr⟩
              have HS6 := Lib.hid (HS5.out.then (s := 1) (gd_take [59] d r5 F6 r6 e6.out) dr rd)
              have HF6 := Lib.hid (HF5.out.trans fr)
              have HM6 := Lib.hid (HM5.out.fr fr (by omega))
              clear dr rd fr
              obtain ⟨m0, m1, m2, m3, m4, m5⟩ := HM6.out.at
              go_wp2_with fail
              have HA := Lib.hid (add_any HS6.out.rd kd ln cl dn nm X 7 0 0 0 0 X2 (F1.app (F2.app (F3.app (F4.app (F5.app (F6.app .nil)))))).cnt (by have := hdn.out; simp [post_len, cnt_app, Fo.cnt]; omega) (by have := HS6.out.rm; omega))
              refine HA.out.mono ?_
              rintro e wa ⟨rfl, ⟨va, rda⟩, fra⟩
              replace rda := Lib.hid rda
              replace fra := Lib.hid fra
              go_wp2_with fail
              go_ret
              exact ⟨rfl, ⟨at6, va, HS6.out.dr, rd_node rda.out (by simp [post_app, Fo.post, List.append_assoc]) (by simp [mkK, mkX, mkY, mkN, Inf.nd, ht.out, ht2.out, hX2.out]; try rfl)⟩, HF6.out.trans fra.out⟩

/-- The last node that a reader has made, in memory. -/
theorem last_cell {w : World} {b tb to tc : Nat} {T : List Tok} {at_ : Nat} {d : Int} {v : Value} {D : List Nd} {F : Fo} (h : Rd w b tb to tc T at_ d v (D ++ F.post)) (h1 : One1 F) :
    ∃ g j cap, v = .slice (some ⟨g, 0, none⟩) (j + 1) cap ∧ w.cell? ⟨g, j * 6, none⟩ = some (.int .u8 (rootK F)) ∧ (D ++ F.post).length = j + 1 := by
  obtain ⟨i, k, rfl, _⟩ := h1
  have hD : D ++ (Fo.cons i k .nil).post = (D ++ k.post) ++ [i.nd k.cnt] := by simp [Fo.post]
  rw [hD] at h ⊢
  have ho := h.own
  rcases ho.2 with ⟨_, h0⟩ | ⟨g, cap, cur, hv, hr⟩
  · simp at h0
  · refine ⟨g, (D ++ k.post).length, cap, by rw [hv]; simp; omega, ?_, by simp; omega⟩
    have := World.ownsRow.cells ho (g := g) (by rw [hv]; rfl) ((D ++ k.post).length * 6) (.int .u8 (i.kind : Nat)) (by
      rw [ndFlat_app, List.getElem?_append_right (by rw [ndFlat_len]; omega), ndFlat_len]
      simp [ndFlat, ndCells, Inf.nd])
    rw [plain_add] at this
    simpa [rootK] using this

set_option maxHeartbeats 2000000 in
theorem set_26 {w : World} {b tb to tc : Nat} {T : List Tok} {at_ d : Nat} {v : Value} {D : List Nd} {n : Nat} {ts : List Tok} (h : Sit w b tb to tc T at_ d v D n ts) {E : Pt} (hE : Does 10 n E) (hg : Gd 0 E) {F1 : Fo} {r1 : List Tok} (e1 : E d ts = .ok F1 r1) (h1 : One1 F1) (hkv : rootK F1 = 26) : Calls Try.prog 87 #[pR b] w (Post b tb to tc T d D w (setP E d ts)) := by
  have hbl := h.rd.lt
  replace h1 := Lib.hid h1
  have hkv0 := hkv
  replace hkv := Lib.hid hkv
  obtain ⟨⟨kd, ln, cl, nm, tx⟩, ht⟩ : ∃ t, hd ts = t := ⟨_, rfl⟩
  obtain ⟨a, cap, hv⟩ := own_slice h.rd.own
  obtain ⟨X, hX⟩ : ∃ X, bs tx = X := ⟨_, rfl⟩
  obtain ⟨dn, hdn⟩ : ∃ dn, D.length = dn := ⟨_, rfl⟩
  have HH : Hid (Calls Try.prog 43 #[pR b] w fun e w' => e = .returned (sV kd ln cl nm X dn) ∧ Below w.heap.size w w') := Lib.hid (by have := here_any h ht dn hdn a cap (by rw [hv, hdn]); rw [hX] at this; exact this)
  cases e2 : (take [61]) d r1 with
  | bad c l k =>
    rw [show (setP E) d ts = .bad c l k by simp only [setP, seqP, Out.bind, hkv0, true_or, or_true, if_true, e1, e2]]
    replace e1 := Lib.hid e1
    replace e2 := Lib.hid e2
    have hs := Lib.hid h
    replace ht := Lib.hid ht
    replace hX := Lib.hid hX
    replace hdn := Lib.hid hdn
    replace hv := Lib.hid hv
    clear h hkv0
    go_enter Try.func87, Try.ntmps87
    go_wp2_with fail
    refine HH.out.mono ?_
    rintro e w1 ⟨rfl, hb⟩
    have hbl1 := (hs.out.rd.carry hb).lt
    replace hb := Lib.hid hb
    go_wp2_with fail
    obtain ⟨W, hW⟩ : ∃ W, W = w1.alloc (.cells #[.int .u8 kd, .int .i64 ln, .int .i64 cl, .int .i64 nm, .string X, .int .i64 dn] 50) := ⟨_, rfl⟩
    rw [← hW]
    have HS0 : Hid (Sit W b tb to tc T at_ d v D n ts) := Lib.hid (by rw [hW]; exact (hs.out.carry hb.out).carry (below_alloc _ _))
    have HF0 : Hid (Fr b w W) := Lib.hid (by rw [hW]; exact (Fr.only (Onl.below hb.out) (by omega)).trans (Fr.only (Onl.below (below_alloc _ _)) (by omega)))
    have HM0 : Hid (SAt W w1.heap.size kd ln cl nm X dn) := Lib.hid (by rw [hW]; exact SAt.made w1 kd ln cl nm X dn)
    clear hW
    have HC1 := Lib.hid (okOf (hE (HS0.out.up (by omega))) e1.out)
    refine HC1.out.mono ?_
    rintro e w2 ⟨rfl, ⟨at1, v1, dr, rd⟩, fr⟩
    have HS1 := Lib.hid (HS0.out.then (s := 0) (hg d ts F1 r1 e1.out) dr rd)
    have HF1 := Lib.hid (HF0.out.trans fr)
    have HM1 := Lib.hid (HM0.out.fr fr (by omega))
    clear dr rd fr
    obtain ⟨g, j, cap1, hv1, kc, hj⟩ := last_cell HS1.out.rd h1.out
    have c3 := HS1.out.rd.c3
    rw [hv1] at c3
    rw [hkv.out] at kc
    have hjm := HS1.out.rm
    rw [hj] at hjm
    have hj1 : IntKind.i64.wrap (j : Int) = (j : Int) := IntWalk.i64_in _ (by omega)
    clear hj hjm hv1
    go_wp2_with fail
    go_quiet (fail)
    replace HF1 := Lib.hid (HF1.out.trans (Fr.only (Onl.below (below_drewN _ nq)) (by have := HS1.out.rd.lt; omega)))
    replace HS1 := Lib.hid (HS1.out.carry (below_drewN _ nq))
    replace HM1 := Lib.hid (HM1.out.below (below_drewN _ nq))
    clear kc c3 hj1
    go_wp2_with fail
    have HC2 := Lib.hid (badOf (take_any HS1.out { data := #[61] } [61] (by rw [ByteArray.toList_eq])) e2.out)
    refine HC2.out.mono ?_
    rintro e w3 ⟨rfl, rf, fr⟩
    replace rf := Lib.hid rf
    replace fr := Lib.hid fr
    go_wp2_with fail
    go_ret
    exact ⟨rfl, rf.out, HF1.out.trans fr.out⟩
  | ok F2 r2 =>
    cases e3 : (E) d r2 with
    | bad c l k =>
      rw [show (setP E) d ts = .bad c l k by simp only [setP, seqP, Out.bind, hkv0, true_or, or_true, if_true, e1, e2, e3]]
      replace e1 := Lib.hid e1
      replace e2 := Lib.hid e2
      replace e3 := Lib.hid e3
      have hs := Lib.hid h
      replace ht := Lib.hid ht
      replace hX := Lib.hid hX
      replace hdn := Lib.hid hdn
      replace hv := Lib.hid hv
      clear h hkv0
      go_enter Try.func87, Try.ntmps87
      go_wp2_with fail
      refine HH.out.mono ?_
      rintro e w1 ⟨rfl, hb⟩
      have hbl1 := (hs.out.rd.carry hb).lt
      replace hb := Lib.hid hb
      go_wp2_with fail
      obtain ⟨W, hW⟩ : ∃ W, W = w1.alloc (.cells #[.int .u8 kd, .int .i64 ln, .int .i64 cl, .int .i64 nm, .string X, .int .i64 dn] 50) := ⟨_, rfl⟩
      rw [← hW]
      have HS0 : Hid (Sit W b tb to tc T at_ d v D n ts) := Lib.hid (by rw [hW]; exact (hs.out.carry hb.out).carry (below_alloc _ _))
      have HF0 : Hid (Fr b w W) := Lib.hid (by rw [hW]; exact (Fr.only (Onl.below hb.out) (by omega)).trans (Fr.only (Onl.below (below_alloc _ _)) (by omega)))
      have HM0 : Hid (SAt W w1.heap.size kd ln cl nm X dn) := Lib.hid (by rw [hW]; exact SAt.made w1 kd ln cl nm X dn)
      clear hW
      have HC1 := Lib.hid (okOf (hE (HS0.out.up (by omega))) e1.out)
      refine HC1.out.mono ?_
      rintro e w2 ⟨rfl, ⟨at1, v1, dr, rd⟩, fr⟩
      have HS1 := Lib.hid (HS0.out.then (s := 0) (hg d ts F1 r1 e1.out) dr rd)
      have HF1 := Lib.hid (HF0.out.trans fr)
      have HM1 := Lib.hid (HM0.out.fr fr (by omega))
      clear dr rd fr
      obtain ⟨g, j, cap1, hv1, kc, hj⟩ := last_cell HS1.out.rd h1.out
      have c3 := HS1.out.rd.c3
      rw [hv1] at c3
      rw [hkv.out] at kc
      have hjm := HS1.out.rm
      rw [hj] at hjm
      have hj1 : IntKind.i64.wrap (j : Int) = (j : Int) := IntWalk.i64_in _ (by omega)
      clear hj hjm hv1
      go_wp2_with fail
      go_quiet (fail)
      replace HF1 := Lib.hid (HF1.out.trans (Fr.only (Onl.below (below_drewN _ nq)) (by have := HS1.out.rd.lt; omega)))
      replace HS1 := Lib.hid (HS1.out.carry (below_drewN _ nq))
      replace HM1 := Lib.hid (HM1.out.below (below_drewN _ nq))
      clear kc c3 hj1
      go_wp2_with fail
      have HC2 := Lib.hid (okOf (take_any HS1.out { data := #[61] } [61] (by rw [ByteArray.toList_eq])) e2.out)
      refine HC2.out.mono ?_
      rintro e w3 ⟨rfl, ⟨at2, v2, dr, rd⟩, fr⟩
      have HS2 := Lib.hid (HS1.out.then (s := 1) (gd_take [61] d r1 F2 r2 e2.out) dr rd)
      have HF2 := Lib.hid (HF1.out.trans fr)
      have HM2 := Lib.hid (HM1.out.fr fr (by omega))
      clear dr rd fr
      go_wp2_with fail
      have HC3 := Lib.hid (badOf (hE (HS2.out.up (by omega))) e3.out)
      refine HC3.out.mono ?_
      rintro e w4 ⟨rfl, rf, fr⟩
      replace rf := Lib.hid rf
      replace fr := Lib.hid fr
      go_wp2_with fail
      go_ret
      exact ⟨rfl, rf.out, HF2.out.trans fr.out⟩
    | ok F3 r3 =>
      cases e4 : (take [59]) d r3 with
      | bad c l k =>
        rw [show (setP E) d ts = .bad c l k by simp only [setP, seqP, Out.bind, hkv0, true_or, or_true, if_true, e1, e2, e3, e4]]
        replace e1 := Lib.hid e1
        replace e2 := Lib.hid e2
        replace e3 := Lib.hid e3
        replace e4 := Lib.hid e4
        have hs := Lib.hid h
        replace ht := Lib.hid ht
        replace hX := Lib.hid hX
        replace hdn := Lib.hid hdn
        replace hv := Lib.hid hv
        clear h hkv0
        go_enter Try.func87, Try.ntmps87
        go_wp2_with fail
        refine HH.out.mono ?_
        rintro e w1 ⟨rfl, hb⟩
        have hbl1 := (hs.out.rd.carry hb).lt
        replace hb := Lib.hid hb
        go_wp2_with fail
        obtain ⟨W, hW⟩ : ∃ W, W = w1.alloc (.cells #[.int .u8 kd, .int .i64 ln, .int .i64 cl, .int .i64 nm, .string X, .int .i64 dn] 50) := ⟨_, rfl⟩
        rw [← hW]
        have HS0 : Hid (Sit W b tb to tc T at_ d v D n ts) := Lib.hid (by rw [hW]; exact (hs.out.carry hb.out).carry (below_alloc _ _))
        have HF0 : Hid (Fr b w W) := Lib.hid (by rw [hW]; exact (Fr.only (Onl.below hb.out) (by omega)).trans (Fr.only (Onl.below (below_alloc _ _)) (by omega)))
        have HM0 : Hid (SAt W w1.heap.size kd ln cl nm X dn) := Lib.hid (by rw [hW]; exact SAt.made w1 kd ln cl nm X dn)
        clear hW
        have HC1 := Lib.hid (okOf (hE (HS0.out.up (by omega))) e1.out)
        refine HC1.out.mono ?_
        rintro e w2 ⟨rfl, ⟨at1, v1, dr, rd⟩, fr⟩
        have HS1 := Lib.hid (HS0.out.then (s := 0) (hg d ts F1 r1 e1.out) dr rd)
        have HF1 := Lib.hid (HF0.out.trans fr)
        have HM1 := Lib.hid (HM0.out.fr fr (by omega))
        clear dr rd fr
        obtain ⟨g, j, cap1, hv1, kc, hj⟩ := last_cell HS1.out.rd h1.out
        have c3 := HS1.out.rd.c3
        rw [hv1] at c3
        rw [hkv.out] at kc
        have hjm := HS1.out.rm
        rw [hj] at hjm
        have hj1 : IntKind.i64.wrap (j : Int) = (j : Int) := IntWalk.i64_in _ (by omega)
        clear hj hjm hv1
        go_wp2_with fail
        go_quiet (fail)
        replace HF1 := Lib.hid (HF1.out.trans (Fr.only (Onl.below (below_drewN _ nq)) (by have := HS1.out.rd.lt; omega)))
        replace HS1 := Lib.hid (HS1.out.carry (below_drewN _ nq))
        replace HM1 := Lib.hid (HM1.out.below (below_drewN _ nq))
        clear kc c3 hj1
        go_wp2_with fail
        have HC2 := Lib.hid (okOf (take_any HS1.out { data := #[61] } [61] (by rw [ByteArray.toList_eq])) e2.out)
        refine HC2.out.mono ?_
        rintro e w3 ⟨rfl, ⟨at2, v2, dr, rd⟩, fr⟩
        have HS2 := Lib.hid (HS1.out.then (s := 1) (gd_take [61] d r1 F2 r2 e2.out) dr rd)
        have HF2 := Lib.hid (HF1.out.trans fr)
        have HM2 := Lib.hid (HM1.out.fr fr (by omega))
        clear dr rd fr
        go_wp2_with fail
        have HC3 := Lib.hid (okOf (hE (HS2.out.up (by omega))) e3.out)
        refine HC3.out.mono ?_
        rintro e w4 ⟨rfl, ⟨at3, v3, dr, rd⟩, fr⟩
        have HS3 := Lib.hid (HS2.out.then (s := 0) (hg d r2 F3 r3 e3.out) dr rd)
        have HF3 := Lib.hid (HF2.out.trans fr)
        have HM3 := Lib.hid (HM2.out.fr fr (by omega))
        clear dr rd fr
        go_wp2_with fail
        have HC4 := Lib.hid (badOf (semi_does _ HS3.out) e4.out)
        refine HC4.out.mono ?_
        rintro e w5 ⟨rfl, rf, fr⟩
        replace rf := Lib.hid rf
        replace fr := Lib.hid fr
        go_wp2_with fail
        go_ret
        exact ⟨rfl, rf.out, HF3.out.trans fr.out⟩
      | ok F4 r4 =>
        rw [show (setP E) d ts = .ok (.cons (mkK 8 ts) (F1.app (F2.app (F3.app F4))) .nil) r4 by simp only [setP, seqP, Out.bind, hkv0, true_or, or_true, if_true, e1, e2, e3, e4]]
        replace e1 := Lib.hid e1
        replace e2 := Lib.hid e2
        replace e3 := Lib.hid e3
        replace e4 := Lib.hid e4
        have hs := Lib.hid h
        replace ht := Lib.hid ht
        replace hX := Lib.hid hX
        replace hdn := Lib.hid hdn
        replace hv := Lib.hid hv
        clear h hkv0
        go_enter Try.func87, Try.ntmps87
        go_wp2_with fail
        refine HH.out.mono ?_
        rintro e w1 ⟨rfl, hb⟩
        have hbl1 := (hs.out.rd.carry hb).lt
        replace hb := Lib.hid hb
        go_wp2_with fail
        obtain ⟨W, hW⟩ : ∃ W, W = w1.alloc (.cells #[.int .u8 kd, .int .i64 ln, .int .i64 cl, .int .i64 nm, .string X, .int .i64 dn] 50) := ⟨_, rfl⟩
        rw [← hW]
        have HS0 : Hid (Sit W b tb to tc T at_ d v D n ts) := Lib.hid (by rw [hW]; exact (hs.out.carry hb.out).carry (below_alloc _ _))
        have HF0 : Hid (Fr b w W) := Lib.hid (by rw [hW]; exact (Fr.only (Onl.below hb.out) (by omega)).trans (Fr.only (Onl.below (below_alloc _ _)) (by omega)))
        have HM0 : Hid (SAt W w1.heap.size kd ln cl nm X dn) := Lib.hid (by rw [hW]; exact SAt.made w1 kd ln cl nm X dn)
        clear hW
        have HC1 := Lib.hid (okOf (hE (HS0.out.up (by omega))) e1.out)
        refine HC1.out.mono ?_
        rintro e w2 ⟨rfl, ⟨at1, v1, dr, rd⟩, fr⟩
        have HS1 := Lib.hid (HS0.out.then (s := 0) (hg d ts F1 r1 e1.out) dr rd)
        have HF1 := Lib.hid (HF0.out.trans fr)
        have HM1 := Lib.hid (HM0.out.fr fr (by omega))
        clear dr rd fr
        obtain ⟨g, j, cap1, hv1, kc, hj⟩ := last_cell HS1.out.rd h1.out
        have c3 := HS1.out.rd.c3
        rw [hv1] at c3
        rw [hkv.out] at kc
        have hjm := HS1.out.rm
        rw [hj] at hjm
        have hj1 : IntKind.i64.wrap (j : Int) = (j : Int) := IntWalk.i64_in _ (by omega)
        clear hj hjm hv1
        go_wp2_with fail
        go_quiet (fail)
        replace HF1 := Lib.hid (HF1.out.trans (Fr.only (Onl.below (below_drewN _ nq)) (by have := HS1.out.rd.lt; omega)))
        replace HS1 := Lib.hid (HS1.out.carry (below_drewN _ nq))
        replace HM1 := Lib.hid (HM1.out.below (below_drewN _ nq))
        clear kc c3 hj1
        go_wp2_with fail
        have HC2 := Lib.hid (okOf (take_any HS1.out { data := #[61] } [61] (by rw [ByteArray.toList_eq])) e2.out)
        refine HC2.out.mono ?_
        rintro e w3 ⟨rfl, ⟨at2, v2, dr, rd⟩, fr⟩
        have HS2 := Lib.hid (HS1.out.then (s := 1) (gd_take [61] d r1 F2 r2 e2.out) dr rd)
        have HF2 := Lib.hid (HF1.out.trans fr)
        have HM2 := Lib.hid (HM1.out.fr fr (by omega))
        clear dr rd fr
        go_wp2_with fail
        have HC3 := Lib.hid (okOf (hE (HS2.out.up (by omega))) e3.out)
        refine HC3.out.mono ?_
        rintro e w4 ⟨rfl, ⟨at3, v3, dr, rd⟩, fr⟩
        have HS3 := Lib.hid (HS2.out.then (s := 0) (hg d r2 F3 r3 e3.out) dr rd)
        have HF3 := Lib.hid (HF2.out.trans fr)
        have HM3 := Lib.hid (HM2.out.fr fr (by omega))
        clear dr rd fr
        go_wp2_with fail
        have HC4 := Lib.hid (okOf (semi_does _ HS3.out) e4.out)
        refine HC4.out.mono ?_
        rintro e w5 ⟨rfl, ⟨at4, v4, dr, rd⟩, fr⟩
        have HS4 := Lib.hid (HS3.out.then (s := 1) (gd_take [59] d r3 F4 r4 e4.out) dr rd)
        have HF4 := Lib.hid (HF3.out.trans fr)
        have HM4 := Lib.hid (HM3.out.fr fr (by omega))
        clear dr rd fr
        obtain ⟨m0, m1, m2, m3, m4, m5⟩ := HM4.out.at
        go_wp2_with fail
        have HA := Lib.hid (add_any HS4.out.rd kd ln cl dn nm X 8 0 0 0 0 { data := #[] } (F1.app (F2.app (F3.app F4))).cnt (by have := hdn.out; simp [post_len, cnt_app, Fo.cnt]; omega) (by have := HS4.out.rm; omega))
        refine HA.out.mono ?_
        rintro e wa ⟨rfl, ⟨va, rda⟩, fra⟩
        replace rda := Lib.hid rda
        replace fra := Lib.hid fra
        go_wp2_with fail
        go_ret
        exact ⟨rfl, ⟨at4, va, HS4.out.dr, rd_node rda.out (by simp [post_app, Fo.post, List.append_assoc]) (by simp [mkK, mkX, mkY, mkN, Inf.nd, ht.out]; try rfl)⟩, HF4.out.trans fra.out⟩

set_option maxHeartbeats 2000000 in
theorem set_28 {w : World} {b tb to tc : Nat} {T : List Tok} {at_ d : Nat} {v : Value} {D : List Nd} {n : Nat} {ts : List Tok} (h : Sit w b tb to tc T at_ d v D n ts) {E : Pt} (hE : Does 10 n E) (hg : Gd 0 E) {F1 : Fo} {r1 : List Tok} (e1 : E d ts = .ok F1 r1) (h1 : One1 F1) (hkv : rootK F1 = 28) : Calls Try.prog 87 #[pR b] w (Post b tb to tc T d D w (setP E d ts)) := by
  have hbl := h.rd.lt
  replace h1 := Lib.hid h1
  have hkv0 := hkv
  replace hkv := Lib.hid hkv
  obtain ⟨⟨kd, ln, cl, nm, tx⟩, ht⟩ : ∃ t, hd ts = t := ⟨_, rfl⟩
  obtain ⟨a, cap, hv⟩ := own_slice h.rd.own
  obtain ⟨X, hX⟩ : ∃ X, bs tx = X := ⟨_, rfl⟩
  obtain ⟨dn, hdn⟩ : ∃ dn, D.length = dn := ⟨_, rfl⟩
  have HH : Hid (Calls Try.prog 43 #[pR b] w fun e w' => e = .returned (sV kd ln cl nm X dn) ∧ Below w.heap.size w w') := Lib.hid (by have := here_any h ht dn hdn a cap (by rw [hv, hdn]); rw [hX] at this; exact this)
  cases e2 : (take [61]) d r1 with
  | bad c l k =>
    rw [show (setP E) d ts = .bad c l k by simp only [setP, seqP, Out.bind, hkv0, true_or, or_true, if_true, e1, e2]]
    replace e1 := Lib.hid e1
    replace e2 := Lib.hid e2
    have hs := Lib.hid h
    replace ht := Lib.hid ht
    replace hX := Lib.hid hX
    replace hdn := Lib.hid hdn
    replace hv := Lib.hid hv
    clear h hkv0
    go_enter Try.func87, Try.ntmps87
    go_wp2_with fail
    refine HH.out.mono ?_
    rintro e w1 ⟨rfl, hb⟩
    have hbl1 := (hs.out.rd.carry hb).lt
    replace hb := Lib.hid hb
    go_wp2_with fail
    obtain ⟨W, hW⟩ : ∃ W, W = w1.alloc (.cells #[.int .u8 kd, .int .i64 ln, .int .i64 cl, .int .i64 nm, .string X, .int .i64 dn] 50) := ⟨_, rfl⟩
    rw [← hW]
    have HS0 : Hid (Sit W b tb to tc T at_ d v D n ts) := Lib.hid (by rw [hW]; exact (hs.out.carry hb.out).carry (below_alloc _ _))
    have HF0 : Hid (Fr b w W) := Lib.hid (by rw [hW]; exact (Fr.only (Onl.below hb.out) (by omega)).trans (Fr.only (Onl.below (below_alloc _ _)) (by omega)))
    have HM0 : Hid (SAt W w1.heap.size kd ln cl nm X dn) := Lib.hid (by rw [hW]; exact SAt.made w1 kd ln cl nm X dn)
    clear hW
    have HC1 := Lib.hid (okOf (hE (HS0.out.up (by omega))) e1.out)
    refine HC1.out.mono ?_
    rintro e w2 ⟨rfl, ⟨at1, v1, dr, rd⟩, fr⟩
    have HS1 := Lib.hid (HS0.out.then (s := 0) (hg d ts F1 r1 e1.out) dr rd)
    have HF1 := Lib.hid (HF0.out.trans fr)
    have HM1 := Lib.hid (HM0.out.fr fr (by omega))
    clear dr rd fr
    obtain ⟨g, j, cap1, hv1, kc, hj⟩ := last_cell HS1.out.rd h1.out
    have c3 := HS1.out.rd.c3
    rw [hv1] at c3
    rw [hkv.out] at kc
    have hjm := HS1.out.rm
    rw [hj] at hjm
    have hj1 : IntKind.i64.wrap (j : Int) = (j : Int) := IntWalk.i64_in _ (by omega)
    clear hj hjm hv1
    go_wp2_with fail
    go_quiet (fail)
    replace HF1 := Lib.hid (HF1.out.trans (Fr.only (Onl.below (below_drewN _ nq)) (by have := HS1.out.rd.lt; omega)))
    replace HS1 := Lib.hid (HS1.out.carry (below_drewN _ nq))
    replace HM1 := Lib.hid (HM1.out.below (below_drewN _ nq))
    clear kc c3 hj1
    go_wp2_with fail
    have HC2 := Lib.hid (badOf (take_any HS1.out { data := #[61] } [61] (by rw [ByteArray.toList_eq])) e2.out)
    refine HC2.out.mono ?_
    rintro e w3 ⟨rfl, rf, fr⟩
    replace rf := Lib.hid rf
    replace fr := Lib.hid fr
    go_wp2_with fail
    go_ret
    exact ⟨rfl, rf.out, HF1.out.trans fr.out⟩
  | ok F2 r2 =>
    cases e3 : (E) d r2 with
    | bad c l k =>
      rw [show (setP E) d ts = .bad c l k by simp only [setP, seqP, Out.bind, hkv0, true_or, or_true, if_true, e1, e2, e3]]
      replace e1 := Lib.hid e1
      replace e2 := Lib.hid e2
      replace e3 := Lib.hid e3
      have hs := Lib.hid h
      replace ht := Lib.hid ht
      replace hX := Lib.hid hX
      replace hdn := Lib.hid hdn
      replace hv := Lib.hid hv
      clear h hkv0
      go_enter Try.func87, Try.ntmps87
      go_wp2_with fail
      refine HH.out.mono ?_
      rintro e w1 ⟨rfl, hb⟩
      have hbl1 := (hs.out.rd.carry hb).lt
      replace hb := Lib.hid hb
      go_wp2_with fail
      obtain ⟨W, hW⟩ : ∃ W, W = w1.alloc (.cells #[.int .u8 kd, .int .i64 ln, .int .i64 cl, .int .i64 nm, .string X, .int .i64 dn] 50) := ⟨_, rfl⟩
      rw [← hW]
      have HS0 : Hid (Sit W b tb to tc T at_ d v D n ts) := Lib.hid (by rw [hW]; exact (hs.out.carry hb.out).carry (below_alloc _ _))
      have HF0 : Hid (Fr b w W) := Lib.hid (by rw [hW]; exact (Fr.only (Onl.below hb.out) (by omega)).trans (Fr.only (Onl.below (below_alloc _ _)) (by omega)))
      have HM0 : Hid (SAt W w1.heap.size kd ln cl nm X dn) := Lib.hid (by rw [hW]; exact SAt.made w1 kd ln cl nm X dn)
      clear hW
      have HC1 := Lib.hid (okOf (hE (HS0.out.up (by omega))) e1.out)
      refine HC1.out.mono ?_
      rintro e w2 ⟨rfl, ⟨at1, v1, dr, rd⟩, fr⟩
      have HS1 := Lib.hid (HS0.out.then (s := 0) (hg d ts F1 r1 e1.out) dr rd)
      have HF1 := Lib.hid (HF0.out.trans fr)
      have HM1 := Lib.hid (HM0.out.fr fr (by omega))
      clear dr rd fr
      obtain ⟨g, j, cap1, hv1, kc, hj⟩ := last_cell HS1.out.rd h1.out
      have c3 := HS1.out.rd.c3
      rw [hv1] at c3
      rw [hkv.out] at kc
      have hjm := HS1.out.rm
      rw [hj] at hjm
      have hj1 : IntKind.i64.wrap (j : Int) = (j : Int) := IntWalk.i64_in _ (by omega)
      clear hj hjm hv1
      go_wp2_with fail
      go_quiet (fail)
      replace HF1 := Lib.hid (HF1.out.trans (Fr.only (Onl.below (below_drewN _ nq)) (by have := HS1.out.rd.lt; omega)))
      replace HS1 := Lib.hid (HS1.out.carry (below_drewN _ nq))
      replace HM1 := Lib.hid (HM1.out.below (below_drewN _ nq))
      clear kc c3 hj1
      go_wp2_with fail
      have HC2 := Lib.hid (okOf (take_any HS1.out { data := #[61] } [61] (by rw [ByteArray.toList_eq])) e2.out)
      refine HC2.out.mono ?_
      rintro e w3 ⟨rfl, ⟨at2, v2, dr, rd⟩, fr⟩
      have HS2 := Lib.hid (HS1.out.then (s := 1) (gd_take [61] d r1 F2 r2 e2.out) dr rd)
      have HF2 := Lib.hid (HF1.out.trans fr)
      have HM2 := Lib.hid (HM1.out.fr fr (by omega))
      clear dr rd fr
      go_wp2_with fail
      have HC3 := Lib.hid (badOf (hE (HS2.out.up (by omega))) e3.out)
      refine HC3.out.mono ?_
      rintro e w4 ⟨rfl, rf, fr⟩
      replace rf := Lib.hid rf
      replace fr := Lib.hid fr
      go_wp2_with fail
      go_ret
      exact ⟨rfl, rf.out, HF2.out.trans fr.out⟩
    | ok F3 r3 =>
      cases e4 : (take [59]) d r3 with
      | bad c l k =>
        rw [show (setP E) d ts = .bad c l k by simp only [setP, seqP, Out.bind, hkv0, true_or, or_true, if_true, e1, e2, e3, e4]]
        replace e1 := Lib.hid e1
        replace e2 := Lib.hid e2
        replace e3 := Lib.hid e3
        replace e4 := Lib.hid e4
        have hs := Lib.hid h
        replace ht := Lib.hid ht
        replace hX := Lib.hid hX
        replace hdn := Lib.hid hdn
        replace hv := Lib.hid hv
        clear h hkv0
        go_enter Try.func87, Try.ntmps87
        go_wp2_with fail
        refine HH.out.mono ?_
        rintro e w1 ⟨rfl, hb⟩
        have hbl1 := (hs.out.rd.carry hb).lt
        replace hb := Lib.hid hb
        go_wp2_with fail
        obtain ⟨W, hW⟩ : ∃ W, W = w1.alloc (.cells #[.int .u8 kd, .int .i64 ln, .int .i64 cl, .int .i64 nm, .string X, .int .i64 dn] 50) := ⟨_, rfl⟩
        rw [← hW]
        have HS0 : Hid (Sit W b tb to tc T at_ d v D n ts) := Lib.hid (by rw [hW]; exact (hs.out.carry hb.out).carry (below_alloc _ _))
        have HF0 : Hid (Fr b w W) := Lib.hid (by rw [hW]; exact (Fr.only (Onl.below hb.out) (by omega)).trans (Fr.only (Onl.below (below_alloc _ _)) (by omega)))
        have HM0 : Hid (SAt W w1.heap.size kd ln cl nm X dn) := Lib.hid (by rw [hW]; exact SAt.made w1 kd ln cl nm X dn)
        clear hW
        have HC1 := Lib.hid (okOf (hE (HS0.out.up (by omega))) e1.out)
        refine HC1.out.mono ?_
        rintro e w2 ⟨rfl, ⟨at1, v1, dr, rd⟩, fr⟩
        have HS1 := Lib.hid (HS0.out.then (s := 0) (hg d ts F1 r1 e1.out) dr rd)
        have HF1 := Lib.hid (HF0.out.trans fr)
        have HM1 := Lib.hid (HM0.out.fr fr (by omega))
        clear dr rd fr
        obtain ⟨g, j, cap1, hv1, kc, hj⟩ := last_cell HS1.out.rd h1.out
        have c3 := HS1.out.rd.c3
        rw [hv1] at c3
        rw [hkv.out] at kc
        have hjm := HS1.out.rm
        rw [hj] at hjm
        have hj1 : IntKind.i64.wrap (j : Int) = (j : Int) := IntWalk.i64_in _ (by omega)
        clear hj hjm hv1
        go_wp2_with fail
        go_quiet (fail)
        replace HF1 := Lib.hid (HF1.out.trans (Fr.only (Onl.below (below_drewN _ nq)) (by have := HS1.out.rd.lt; omega)))
        replace HS1 := Lib.hid (HS1.out.carry (below_drewN _ nq))
        replace HM1 := Lib.hid (HM1.out.below (below_drewN _ nq))
        clear kc c3 hj1
        go_wp2_with fail
        have HC2 := Lib.hid (okOf (take_any HS1.out { data := #[61] } [61] (by rw [ByteArray.toList_eq])) e2.out)
        refine HC2.out.mono ?_
        rintro e w3 ⟨rfl, ⟨at2, v2, dr, rd⟩, fr⟩
        have HS2 := Lib.hid (HS1.out.then (s := 1) (gd_take [61] d r1 F2 r2 e2.out) dr rd)
        have HF2 := Lib.hid (HF1.out.trans fr)
        have HM2 := Lib.hid (HM1.out.fr fr (by omega))
        clear dr rd fr
        go_wp2_with fail
        have HC3 := Lib.hid (okOf (hE (HS2.out.up (by omega))) e3.out)
        refine HC3.out.mono ?_
        rintro e w4 ⟨rfl, ⟨at3, v3, dr, rd⟩, fr⟩
        have HS3 := Lib.hid (HS2.out.then (s := 0) (hg d r2 F3 r3 e3.out) dr rd)
        have HF3 := Lib.hid (HF2.out.trans fr)
        have HM3 := Lib.hid (HM2.out.fr fr (by omega))
        clear dr rd fr
        go_wp2_with fail
        have HC4 := Lib.hid (badOf (semi_does _ HS3.out) e4.out)
        refine HC4.out.mono ?_
        rintro e w5 ⟨rfl, rf, fr⟩
        replace rf := Lib.hid rf
        replace fr := Lib.hid fr
        go_wp2_with fail
        go_ret
        exact ⟨rfl, rf.out, HF3.out.trans fr.out⟩
      | ok F4 r4 =>
        rw [show (setP E) d ts = .ok (.cons (mkK 8 ts) (F1.app (F2.app (F3.app F4))) .nil) r4 by simp only [setP, seqP, Out.bind, hkv0, true_or, or_true, if_true, e1, e2, e3, e4]]
        replace e1 := Lib.hid e1
        replace e2 := Lib.hid e2
        replace e3 := Lib.hid e3
        replace e4 := Lib.hid e4
        have hs := Lib.hid h
        replace ht := Lib.hid ht
        replace hX := Lib.hid hX
        replace hdn := Lib.hid hdn
        replace hv := Lib.hid hv
        clear h hkv0
        go_enter Try.func87, Try.ntmps87
        go_wp2_with fail
        refine HH.out.mono ?_
        rintro e w1 ⟨rfl, hb⟩
        have hbl1 := (hs.out.rd.carry hb).lt
        replace hb := Lib.hid hb
        go_wp2_with fail
        obtain ⟨W, hW⟩ : ∃ W, W = w1.alloc (.cells #[.int .u8 kd, .int .i64 ln, .int .i64 cl, .int .i64 nm, .string X, .int .i64 dn] 50) := ⟨_, rfl⟩
        rw [← hW]
        have HS0 : Hid (Sit W b tb to tc T at_ d v D n ts) := Lib.hid (by rw [hW]; exact (hs.out.carry hb.out).carry (below_alloc _ _))
        have HF0 : Hid (Fr b w W) := Lib.hid (by rw [hW]; exact (Fr.only (Onl.below hb.out) (by omega)).trans (Fr.only (Onl.below (below_alloc _ _)) (by omega)))
        have HM0 : Hid (SAt W w1.heap.size kd ln cl nm X dn) := Lib.hid (by rw [hW]; exact SAt.made w1 kd ln cl nm X dn)
        clear hW
        have HC1 := Lib.hid (okOf (hE (HS0.out.up (by omega))) e1.out)
        refine HC1.out.mono ?_
        rintro e w2 ⟨rfl, ⟨at1, v1, dr, rd⟩, fr⟩
        have HS1 := Lib.hid (HS0.out.then (s := 0) (hg d ts F1 r1 e1.out) dr rd)
        have HF1 := Lib.hid (HF0.out.trans fr)
        have HM1 := Lib.hid (HM0.out.fr fr (by omega))
        clear dr rd fr
        obtain ⟨g, j, cap1, hv1, kc, hj⟩ := last_cell HS1.out.rd h1.out
        have c3 := HS1.out.rd.c3
        rw [hv1] at c3
        rw [hkv.out] at kc
        have hjm := HS1.out.rm
        rw [hj] at hjm
        have hj1 : IntKind.i64.wrap (j : Int) = (j : Int) := IntWalk.i64_in _ (by omega)
        clear hj hjm hv1
        go_wp2_with fail
        go_quiet (fail)
        replace HF1 := Lib.hid (HF1.out.trans (Fr.only (Onl.below (below_drewN _ nq)) (by have := HS1.out.rd.lt; omega)))
        replace HS1 := Lib.hid (HS1.out.carry (below_drewN _ nq))
        replace HM1 := Lib.hid (HM1.out.below (below_drewN _ nq))
        clear kc c3 hj1
        go_wp2_with fail
        have HC2 := Lib.hid (okOf (take_any HS1.out { data := #[61] } [61] (by rw [ByteArray.toList_eq])) e2.out)
        refine HC2.out.mono ?_
        rintro e w3 ⟨rfl, ⟨at2, v2, dr, rd⟩, fr⟩
        have HS2 := Lib.hid (HS1.out.then (s := 1) (gd_take [61] d r1 F2 r2 e2.out) dr rd)
        have HF2 := Lib.hid (HF1.out.trans fr)
        have HM2 := Lib.hid (HM1.out.fr fr (by omega))
        clear dr rd fr
        go_wp2_with fail
        have HC3 := Lib.hid (okOf (hE (HS2.out.up (by omega))) e3.out)
        refine HC3.out.mono ?_
        rintro e w4 ⟨rfl, ⟨at3, v3, dr, rd⟩, fr⟩
        have HS3 := Lib.hid (HS2.out.then (s := 0) (hg d r2 F3 r3 e3.out) dr rd)
        have HF3 := Lib.hid (HF2.out.trans fr)
        have HM3 := Lib.hid (HM2.out.fr fr (by omega))
        clear dr rd fr
        go_wp2_with fail
        have HC4 := Lib.hid (okOf (semi_does _ HS3.out) e4.out)
        refine HC4.out.mono ?_
        rintro e w5 ⟨rfl, ⟨at4, v4, dr, rd⟩, fr⟩
        have HS4 := Lib.hid (HS3.out.then (s := 1) (gd_take [59] d r3 F4 r4 e4.out) dr rd)
        have HF4 := Lib.hid (HF3.out.trans fr)
        have HM4 := Lib.hid (HM3.out.fr fr (by omega))
        clear dr rd fr
        obtain ⟨m0, m1, m2, m3, m4, m5⟩ := HM4.out.at
        go_wp2_with fail
        have HA := Lib.hid (add_any HS4.out.rd kd ln cl dn nm X 8 0 0 0 0 { data := #[] } (F1.app (F2.app (F3.app F4))).cnt (by have := hdn.out; simp [post_len, cnt_app, Fo.cnt]; omega) (by have := HS4.out.rm; omega))
        refine HA.out.mono ?_
        rintro e wa ⟨rfl, ⟨va, rda⟩, fra⟩
        replace rda := Lib.hid rda
        replace fra := Lib.hid fra
        go_wp2_with fail
        go_ret
        exact ⟨rfl, ⟨at4, va, HS4.out.dr, rd_node rda.out (by simp [post_app, Fo.post, List.append_assoc]) (by simp [mkK, mkX, mkY, mkN, Inf.nd, ht.out]; try rfl)⟩, HF4.out.trans fra.out⟩

set_option maxHeartbeats 2000000 in
theorem set_29 {w : World} {b tb to tc : Nat} {T : List Tok} {at_ d : Nat} {v : Value} {D : List Nd} {n : Nat} {ts : List Tok} (h : Sit w b tb to tc T at_ d v D n ts) {E : Pt} (hE : Does 10 n E) (hg : Gd 0 E) {F1 : Fo} {r1 : List Tok} (e1 : E d ts = .ok F1 r1) (h1 : One1 F1) (hkv : rootK F1 = 29) : Calls Try.prog 87 #[pR b] w (Post b tb to tc T d D w (setP E d ts)) := by
  have hbl := h.rd.lt
  replace h1 := Lib.hid h1
  have hkv0 := hkv
  replace hkv := Lib.hid hkv
  obtain ⟨⟨kd, ln, cl, nm, tx⟩, ht⟩ : ∃ t, hd ts = t := ⟨_, rfl⟩
  obtain ⟨a, cap, hv⟩ := own_slice h.rd.own
  obtain ⟨X, hX⟩ : ∃ X, bs tx = X := ⟨_, rfl⟩
  obtain ⟨dn, hdn⟩ : ∃ dn, D.length = dn := ⟨_, rfl⟩
  have HH : Hid (Calls Try.prog 43 #[pR b] w fun e w' => e = .returned (sV kd ln cl nm X dn) ∧ Below w.heap.size w w') := Lib.hid (by have := here_any h ht dn hdn a cap (by rw [hv, hdn]); rw [hX] at this; exact this)
  cases e2 : (take [61]) d r1 with
  | bad c l k =>
    rw [show (setP E) d ts = .bad c l k by simp only [setP, seqP, Out.bind, hkv0, true_or, or_true, if_true, e1, e2]]
    replace e1 := Lib.hid e1
    replace e2 := Lib.hid e2
    have hs := Lib.hid h
    replace ht := Lib.hid ht
    replace hX := Lib.hid hX
    replace hdn := Lib.hid hdn
    replace hv := Lib.hid hv
    clear h hkv0
    go_enter Try.func87, Try.ntmps87
    go_wp2_with fail
    refine HH.out.mono ?_
    rintro e w1 ⟨rfl, hb⟩
    have hbl1 := (hs.out.rd.carry hb).lt
    replace hb := Lib.hid hb
    go_wp2_with fail
    obtain ⟨W, hW⟩ : ∃ W, W = w1.alloc (.cells #[.int .u8 kd, .int .i64 ln, .int .i64 cl, .int .i64 nm, .string X, .int .i64 dn] 50) := ⟨_, rfl⟩
    rw [← hW]
    have HS0 : Hid (Sit W b tb to tc T at_ d v D n ts) := Lib.hid (by rw [hW]; exact (hs.out.carry hb.out).carry (below_alloc _ _))
    have HF0 : Hid (Fr b w W) := Lib.hid (by rw [hW]; exact (Fr.only (Onl.below hb.out) (by omega)).trans (Fr.only (Onl.below (below_alloc _ _)) (by omega)))
    have HM0 : Hid (SAt W w1.heap.size kd ln cl nm X dn) := Lib.hid (by rw [hW]; exact SAt.made w1 kd ln cl nm X dn)
    clear hW
    have HC1 := Lib.hid (okOf (hE (HS0.out.up (by omega))) e1.out)
    refine HC1.out.mono ?_
    rintro e w2 ⟨rfl, ⟨at1, v1, dr, rd⟩, fr⟩
    have HS1 := Lib.hid (HS0.out.then (s := 0) (hg d ts F1 r1 e1.out) dr rd)
    have HF1 := Lib.hid (HF0.out.trans fr)
    have HM1 := Lib.hid (HM0.out.fr fr (by omega))
    clear dr rd fr
    obtain ⟨g, j, cap1, hv1, kc, hj⟩ := last_cell HS1.out.rd h1.out
    have c3 := HS1.out.rd.c3
    rw [hv1] at c3
    rw [hkv.out] at kc
    have hjm := HS1.out.rm
    rw [hj] at hjm
    have hj1 : IntKind.i64.wrap (j : Int) = (j : Int) := IntWalk.i64_in _ (by omega)
    clear hj hjm hv1
    go_wp2_with fail
    go_quiet (fail)
    replace HF1 := Lib.hid (HF1.out.trans (Fr.only (Onl.below (below_drewN _ nq)) (by have := HS1.out.rd.lt; omega)))
    replace HS1 := Lib.hid (HS1.out.carry (below_drewN _ nq))
    replace HM1 := Lib.hid (HM1.out.below (below_drewN _ nq))
    clear kc c3 hj1
    go_wp2_with fail
    have HC2 := Lib.hid (badOf (take_any HS1.out { data := #[61] } [61] (by rw [ByteArray.toList_eq])) e2.out)
    refine HC2.out.mono ?_
    rintro e w3 ⟨rfl, rf, fr⟩
    replace rf := Lib.hid rf
    replace fr := Lib.hid fr
    go_wp2_with fail
    go_ret
    exact ⟨rfl, rf.out, HF1.out.trans fr.out⟩
  | ok F2 r2 =>
    cases e3 : (E) d r2 with
    | bad c l k =>
      rw [show (setP E) d ts = .bad c l k by simp only [setP, seqP, Out.bind, hkv0, true_or, or_true, if_true, e1, e2, e3]]
      replace e1 := Lib.hid e1
      replace e2 := Lib.hid e2
      replace e3 := Lib.hid e3
      have hs := Lib.hid h
      replace ht := Lib.hid ht
      replace hX := Lib.hid hX
      replace hdn := Lib.hid hdn
      replace hv := Lib.hid hv
      clear h hkv0
      go_enter Try.func87, Try.ntmps87
      go_wp2_with fail
      refine HH.out.mono ?_
      rintro e w1 ⟨rfl, hb⟩
      have hbl1 := (hs.out.rd.carry hb).lt
      replace hb := Lib.hid hb
      go_wp2_with fail
      obtain ⟨W, hW⟩ : ∃ W, W = w1.alloc (.cells #[.int .u8 kd, .int .i64 ln, .int .i64 cl, .int .i64 nm, .string X, .int .i64 dn] 50) := ⟨_, rfl⟩
      rw [← hW]
      have HS0 : Hid (Sit W b tb to tc T at_ d v D n ts) := Lib.hid (by rw [hW]; exact (hs.out.carry hb.out).carry (below_alloc _ _))
      have HF0 : Hid (Fr b w W) := Lib.hid (by rw [hW]; exact (Fr.only (Onl.below hb.out) (by omega)).trans (Fr.only (Onl.below (below_alloc _ _)) (by omega)))
      have HM0 : Hid (SAt W w1.heap.size kd ln cl nm X dn) := Lib.hid (by rw [hW]; exact SAt.made w1 kd ln cl nm X dn)
      clear hW
      have HC1 := Lib.hid (okOf (hE (HS0.out.up (by omega))) e1.out)
      refine HC1.out.mono ?_
      rintro e w2 ⟨rfl, ⟨at1, v1, dr, rd⟩, fr⟩
      have HS1 := Lib.hid (HS0.out.then (s := 0) (hg d ts F1 r1 e1.out) dr rd)
      have HF1 := Lib.hid (HF0.out.trans fr)
      have HM1 := Lib.hid (HM0.out.fr fr (by omega))
      clear dr rd fr
      obtain ⟨g, j, cap1, hv1, kc, hj⟩ := last_cell HS1.out.rd h1.out
      have c3 := HS1.out.rd.c3
      rw [hv1] at c3
      rw [hkv.out] at kc
      have hjm := HS1.out.rm
      rw [hj] at hjm
      have hj1 : IntKind.i64.wrap (j : Int) = (j : Int) := IntWalk.i64_in _ (by omega)
      clear hj hjm hv1
      go_wp2_with fail
      go_quiet (fail)
      replace HF1 := Lib.hid (HF1.out.trans (Fr.only (Onl.below (below_drewN _ nq)) (by have := HS1.out.rd.lt; omega)))
      replace HS1 := Lib.hid (HS1.out.carry (below_drewN _ nq))
      replace HM1 := Lib.hid (HM1.out.below (below_drewN _ nq))
      clear kc c3 hj1
      go_wp2_with fail
      have HC2 := Lib.hid (okOf (take_any HS1.out { data := #[61] } [61] (by rw [ByteArray.toList_eq])) e2.out)
      refine HC2.out.mono ?_
      rintro e w3 ⟨rfl, ⟨at2, v2, dr, rd⟩, fr⟩
      have HS2 := Lib.hid (HS1.out.then (s := 1) (gd_take [61] d r1 F2 r2 e2.out) dr rd)
      have HF2 := Lib.hid (HF1.out.trans fr)
      have HM2 := Lib.hid (HM1.out.fr fr (by omega))
      clear dr rd fr
      go_wp2_with fail
      have HC3 := Lib.hid (badOf (hE (HS2.out.up (by omega))) e3.out)
      refine HC3.out.mono ?_
      rintro e w4 ⟨rfl, rf, fr⟩
      replace rf := Lib.hid rf
      replace fr := Lib.hid fr
      go_wp2_with fail
      go_ret
      exact ⟨rfl, rf.out, HF2.out.trans fr.out⟩
    | ok F3 r3 =>
      cases e4 : (take [59]) d r3 with
      | bad c l k =>
        rw [show (setP E) d ts = .bad c l k by simp only [setP, seqP, Out.bind, hkv0, true_or, or_true, if_true, e1, e2, e3, e4]]
        replace e1 := Lib.hid e1
        replace e2 := Lib.hid e2
        replace e3 := Lib.hid e3
        replace e4 := Lib.hid e4
        have hs := Lib.hid h
        replace ht := Lib.hid ht
        replace hX := Lib.hid hX
        replace hdn := Lib.hid hdn
        replace hv := Lib.hid hv
        clear h hkv0
        go_enter Try.func87, Try.ntmps87
        go_wp2_with fail
        refine HH.out.mono ?_
        rintro e w1 ⟨rfl, hb⟩
        have hbl1 := (hs.out.rd.carry hb).lt
        replace hb := Lib.hid hb
        go_wp2_with fail
        obtain ⟨W, hW⟩ : ∃ W, W = w1.alloc (.cells #[.int .u8 kd, .int .i64 ln, .int .i64 cl, .int .i64 nm, .string X, .int .i64 dn] 50) := ⟨_, rfl⟩
        rw [← hW]
        have HS0 : Hid (Sit W b tb to tc T at_ d v D n ts) := Lib.hid (by rw [hW]; exact (hs.out.carry hb.out).carry (below_alloc _ _))
        have HF0 : Hid (Fr b w W) := Lib.hid (by rw [hW]; exact (Fr.only (Onl.below hb.out) (by omega)).trans (Fr.only (Onl.below (below_alloc _ _)) (by omega)))
        have HM0 : Hid (SAt W w1.heap.size kd ln cl nm X dn) := Lib.hid (by rw [hW]; exact SAt.made w1 kd ln cl nm X dn)
        clear hW
        have HC1 := Lib.hid (okOf (hE (HS0.out.up (by omega))) e1.out)
        refine HC1.out.mono ?_
        rintro e w2 ⟨rfl, ⟨at1, v1, dr, rd⟩, fr⟩
        have HS1 := Lib.hid (HS0.out.then (s := 0) (hg d ts F1 r1 e1.out) dr rd)
        have HF1 := Lib.hid (HF0.out.trans fr)
        have HM1 := Lib.hid (HM0.out.fr fr (by omega))
        clear dr rd fr
        obtain ⟨g, j, cap1, hv1, kc, hj⟩ := last_cell HS1.out.rd h1.out
        have c3 := HS1.out.rd.c3
        rw [hv1] at c3
        rw [hkv.out] at kc
        have hjm := HS1.out.rm
        rw [hj] at hjm
        have hj1 : IntKind.i64.wrap (j : Int) = (j : Int) := IntWalk.i64_in _ (by omega)
        clear hj hjm hv1
        go_wp2_with fail
        go_quiet (fail)
        replace HF1 := Lib.hid (HF1.out.trans (Fr.only (Onl.below (below_drewN _ nq)) (by have := HS1.out.rd.lt; omega)))
        replace HS1 := Lib.hid (HS1.out.carry (below_drewN _ nq))
        replace HM1 := Lib.hid (HM1.out.below (below_drewN _ nq))
        clear kc c3 hj1
        go_wp2_with fail
        have HC2 := Lib.hid (okOf (take_any HS1.out { data := #[61] } [61] (by rw [ByteArray.toList_eq])) e2.out)
        refine HC2.out.mono ?_
        rintro e w3 ⟨rfl, ⟨at2, v2, dr, rd⟩, fr⟩
        have HS2 := Lib.hid (HS1.out.then (s := 1) (gd_take [61] d r1 F2 r2 e2.out) dr rd)
        have HF2 := Lib.hid (HF1.out.trans fr)
        have HM2 := Lib.hid (HM1.out.fr fr (by omega))
        clear dr rd fr
        go_wp2_with fail
        have HC3 := Lib.hid (okOf (hE (HS2.out.up (by omega))) e3.out)
        refine HC3.out.mono ?_
        rintro e w4 ⟨rfl, ⟨at3, v3, dr, rd⟩, fr⟩
        have HS3 := Lib.hid (HS2.out.then (s := 0) (hg d r2 F3 r3 e3.out) dr rd)
        have HF3 := Lib.hid (HF2.out.trans fr)
        have HM3 := Lib.hid (HM2.out.fr fr (by omega))
        clear dr rd fr
        go_wp2_with fail
        have HC4 := Lib.hid (badOf (semi_does _ HS3.out) e4.out)
        refine HC4.out.mono ?_
        rintro e w5 ⟨rfl, rf, fr⟩
        replace rf := Lib.hid rf
        replace fr := Lib.hid fr
        go_wp2_with fail
        go_ret
        exact ⟨rfl, rf.out, HF3.out.trans fr.out⟩
      | ok F4 r4 =>
        rw [show (setP E) d ts = .ok (.cons (mkK 8 ts) (F1.app (F2.app (F3.app F4))) .nil) r4 by simp only [setP, seqP, Out.bind, hkv0, true_or, or_true, if_true, e1, e2, e3, e4]]
        replace e1 := Lib.hid e1
        replace e2 := Lib.hid e2
        replace e3 := Lib.hid e3
        replace e4 := Lib.hid e4
        have hs := Lib.hid h
        replace ht := Lib.hid ht
        replace hX := Lib.hid hX
        replace hdn := Lib.hid hdn
        replace hv := Lib.hid hv
        clear h hkv0
        go_enter Try.func87, Try.ntmps87
        go_wp2_with fail
        refine HH.out.mono ?_
        rintro e w1 ⟨rfl, hb⟩
        have hbl1 := (hs.out.rd.carry hb).lt
        replace hb := Lib.hid hb
        go_wp2_with fail
        obtain ⟨W, hW⟩ : ∃ W, W = w1.alloc (.cells #[.int .u8 kd, .int .i64 ln, .int .i64 cl, .int .i64 nm, .string X, .int .i64 dn] 50) := ⟨_, rfl⟩
        rw [← hW]
        have HS0 : Hid (Sit W b tb to tc T at_ d v D n ts) := Lib.hid (by rw [hW]; exact (hs.out.carry hb.out).carry (below_alloc _ _))
        have HF0 : Hid (Fr b w W) := Lib.hid (by rw [hW]; exact (Fr.only (Onl.below hb.out) (by omega)).trans (Fr.only (Onl.below (below_alloc _ _)) (by omega)))
        have HM0 : Hid (SAt W w1.heap.size kd ln cl nm X dn) := Lib.hid (by rw [hW]; exact SAt.made w1 kd ln cl nm X dn)
        clear hW
        have HC1 := Lib.hid (okOf (hE (HS0.out.up (by omega))) e1.out)
        refine HC1.out.mono ?_
        rintro e w2 ⟨rfl, ⟨at1, v1, dr, rd⟩, fr⟩
        have HS1 := Lib.hid (HS0.out.then (s := 0) (hg d ts F1 r1 e1.out) dr rd)
        have HF1 := Lib.hid (HF0.out.trans fr)
        have HM1 := Lib.hid (HM0.out.fr fr (by omega))
        clear dr rd fr
        obtain ⟨g, j, cap1, hv1, kc, hj⟩ := last_cell HS1.out.rd h1.out
        have c3 := HS1.out.rd.c3
        rw [hv1] at c3
        rw [hkv.out] at kc
        have hjm := HS1.out.rm
        rw [hj] at hjm
        have hj1 : IntKind.i64.wrap (j : Int) = (j : Int) := IntWalk.i64_in _ (by omega)
        clear hj hjm hv1
        go_wp2_with fail
        go_quiet (fail)
        replace HF1 := Lib.hid (HF1.out.trans (Fr.only (Onl.below (below_drewN _ nq)) (by have := HS1.out.rd.lt; omega)))
        replace HS1 := Lib.hid (HS1.out.carry (below_drewN _ nq))
        replace HM1 := Lib.hid (HM1.out.below (below_drewN _ nq))
        clear kc c3 hj1
        go_wp2_with fail
        have HC2 := Lib.hid (okOf (take_any HS1.out { data := #[61] } [61] (by rw [ByteArray.toList_eq])) e2.out)
        refine HC2.out.mono ?_
        rintro e w3 ⟨rfl, ⟨at2, v2, dr, rd⟩, fr⟩
        have HS2 := Lib.hid (HS1.out.then (s := 1) (gd_take [61] d r1 F2 r2 e2.out) dr rd)
        have HF2 := Lib.hid (HF1.out.trans fr)
        have HM2 := Lib.hid (HM1.out.fr fr (by omega))
        clear dr rd fr
        go_wp2_with fail
        have HC3 := Lib.hid (okOf (hE (HS2.out.up (by omega))) e3.out)
        refine HC3.out.mono ?_
        rintro e w4 ⟨rfl, ⟨at3, v3, dr, rd⟩, fr⟩
        have HS3 := Lib.hid (HS2.out.then (s := 0) (hg d r2 F3 r3 e3.out) dr rd)
        have HF3 := Lib.hid (HF2.out.trans fr)
        have HM3 := Lib.hid (HM2.out.fr fr (by omega))
        clear dr rd fr
        go_wp2_with fail
        have HC4 := Lib.hid (okOf (semi_does _ HS3.out) e4.out)
        refine HC4.out.mono ?_
        rintro e w5 ⟨rfl, ⟨at4, v4, dr, rd⟩, fr⟩
        have HS4 := Lib.hid (HS3.out.then (s := 1) (gd_take [59] d r3 F4 r4 e4.out) dr rd)
        have HF4 := Lib.hid (HF3.out.trans fr)
        have HM4 := Lib.hid (HM3.out.fr fr (by omega))
        clear dr rd fr
        obtain ⟨m0, m1, m2, m3, m4, m5⟩ := HM4.out.at
        go_wp2_with fail
        have HA := Lib.hid (add_any HS4.out.rd kd ln cl dn nm X 8 0 0 0 0 { data := #[] } (F1.app (F2.app (F3.app F4))).cnt (by have := hdn.out; simp [post_len, cnt_app, Fo.cnt]; omega) (by have := HS4.out.rm; omega))
        refine HA.out.mono ?_
        rintro e wa ⟨rfl, ⟨va, rda⟩, fra⟩
        replace rda := Lib.hid rda
        replace fra := Lib.hid fra
        go_wp2_with fail
        go_ret
        exact ⟨rfl, ⟨at4, va, HS4.out.dr, rd_node rda.out (by simp [post_app, Fo.post, List.append_assoc]) (by simp [mkK, mkX, mkY, mkN, Inf.nd, ht.out]; try rfl)⟩, HF4.out.trans fra.out⟩

set_option maxHeartbeats 2000000 in
theorem set_27 {w : World} {b tb to tc : Nat} {T : List Tok} {at_ d : Nat} {v : Value} {D : List Nd} {n : Nat} {ts : List Tok} (h : Sit w b tb to tc T at_ d v D n ts) {E : Pt} (hE : Does 10 n E) (hg : Gd 0 E) {F1 : Fo} {r1 : List Tok} (e1 : E d ts = .ok F1 r1) (h1 : One1 F1) (hkv : rootK F1 = 27) : Calls Try.prog 87 #[pR b] w (Post b tb to tc T d D w (setP E d ts)) := by
  have hbl := h.rd.lt
  replace h1 := Lib.hid h1
  have hkv0 := hkv
  replace hkv := Lib.hid hkv
  obtain ⟨⟨kd, ln, cl, nm, tx⟩, ht⟩ : ∃ t, hd ts = t := ⟨_, rfl⟩
  obtain ⟨a, cap, hv⟩ := own_slice h.rd.own
  obtain ⟨X, hX⟩ : ∃ X, bs tx = X := ⟨_, rfl⟩
  obtain ⟨dn, hdn⟩ : ∃ dn, D.length = dn := ⟨_, rfl⟩
  have HH : Hid (Calls Try.prog 43 #[pR b] w fun e w' => e = .returned (sV kd ln cl nm X dn) ∧ Below w.heap.size w w') := Lib.hid (by have := here_any h ht dn hdn a cap (by rw [hv, hdn]); rw [hX] at this; exact this)
  cases e2 : (take [59]) d r1 with
  | bad c l k =>
    rw [show (setP E) d ts = .bad c l k by simp only [setP, Out.bind, hkv0, Nat.reduceEqDiff, or_self, if_false, if_true, e1, e2]]
    replace e1 := Lib.hid e1
    replace e2 := Lib.hid e2
    have hs := Lib.hid h
    replace ht := Lib.hid ht
    replace hX := Lib.hid hX
    replace hdn := Lib.hid hdn
    replace hv := Lib.hid hv
    clear h hkv0
    go_enter Try.func87, Try.ntmps87
    go_wp2_with fail
    refine HH.out.mono ?_
    rintro e w1 ⟨rfl, hb⟩
    have hbl1 := (hs.out.rd.carry hb).lt
    replace hb := Lib.hid hb
    go_wp2_with fail
    obtain ⟨W, hW⟩ : ∃ W, W = w1.alloc (.cells #[.int .u8 kd, .int .i64 ln, .int .i64 cl, .int .i64 nm, .string X, .int .i64 dn] 50) := ⟨_, rfl⟩
    rw [← hW]
    have HS0 : Hid (Sit W b tb to tc T at_ d v D n ts) := Lib.hid (by rw [hW]; exact (hs.out.carry hb.out).carry (below_alloc _ _))
    have HF0 : Hid (Fr b w W) := Lib.hid (by rw [hW]; exact (Fr.only (Onl.below hb.out) (by omega)).trans (Fr.only (Onl.below (below_alloc _ _)) (by omega)))
    have HM0 : Hid (SAt W w1.heap.size kd ln cl nm X dn) := Lib.hid (by rw [hW]; exact SAt.made w1 kd ln cl nm X dn)
    clear hW
    have HC1 := Lib.hid (okOf (hE (HS0.out.up (by omega))) e1.out)
    refine HC1.out.mono ?_
    rintro e w2 ⟨rfl, ⟨at1, v1, dr, rd⟩, fr⟩
    have HS1 := Lib.hid (HS0.out.then (s := 0) (hg d ts F1 r1 e1.out) dr rd)
    have HF1 := Lib.hid (HF0.out.trans fr)
    have HM1 := Lib.hid (HM0.out.fr fr (by omega))
    clear dr rd fr
    obtain ⟨g, j, cap1, hv1, kc, hj⟩ := last_cell HS1.out.rd h1.out
    have c3 := HS1.out.rd.c3
    rw [hv1] at c3
    rw [hkv.out] at kc
    have hjm := HS1.out.rm
    rw [hj] at hjm
    have hj1 : IntKind.i64.wrap (j : Int) = (j : Int) := IntWalk.i64_in _ (by omega)
    clear hj hjm hv1
    go_wp2_with fail
    go_quiet (fail)
    replace HF1 := Lib.hid (HF1.out.trans (Fr.only (Onl.below (below_drewN _ nq)) (by have := HS1.out.rd.lt; omega)))
    replace HS1 := Lib.hid (HS1.out.carry (below_drewN _ nq))
    replace HM1 := Lib.hid (HM1.out.below (below_drewN _ nq))
    clear kc c3 hj1
    go_wp2_with fail
    have HC2 := Lib.hid (badOf (semi_does _ HS1.out) e2.out)
    refine HC2.out.mono ?_
    rintro e w3 ⟨rfl, rf, fr⟩
    replace rf := Lib.hid rf
    replace fr := Lib.hid fr
    go_wp2_with fail
    go_ret
    exact ⟨rfl, rf.out, HF1.out.trans fr.out⟩
  | ok F2 r2 =>
    rw [show (setP E) d ts = .ok (.cons (mkK 13 ts) (F1.app F2) .nil) r2 by simp only [setP, Out.bind, hkv0, Nat.reduceEqDiff, or_self, if_false, if_true, e1, e2]]
    replace e1 := Lib.hid e1
    replace e2 := Lib.hid e2
    have hs := Lib.hid h
    replace ht := Lib.hid ht
    replace hX := Lib.hid hX
    replace hdn := Lib.hid hdn
    replace hv := Lib.hid hv
    clear h hkv0
    go_enter Try.func87, Try.ntmps87
    go_wp2_with fail
    refine HH.out.mono ?_
    rintro e w1 ⟨rfl, hb⟩
    have hbl1 := (hs.out.rd.carry hb).lt
    replace hb := Lib.hid hb
    go_wp2_with fail
    obtain ⟨W, hW⟩ : ∃ W, W = w1.alloc (.cells #[.int .u8 kd, .int .i64 ln, .int .i64 cl, .int .i64 nm, .string X, .int .i64 dn] 50) := ⟨_, rfl⟩
    rw [← hW]
    have HS0 : Hid (Sit W b tb to tc T at_ d v D n ts) := Lib.hid (by rw [hW]; exact (hs.out.carry hb.out).carry (below_alloc _ _))
    have HF0 : Hid (Fr b w W) := Lib.hid (by rw [hW]; exact (Fr.only (Onl.below hb.out) (by omega)).trans (Fr.only (Onl.below (below_alloc _ _)) (by omega)))
    have HM0 : Hid (SAt W w1.heap.size kd ln cl nm X dn) := Lib.hid (by rw [hW]; exact SAt.made w1 kd ln cl nm X dn)
    clear hW
    have HC1 := Lib.hid (okOf (hE (HS0.out.up (by omega))) e1.out)
    refine HC1.out.mono ?_
    rintro e w2 ⟨rfl, ⟨at1, v1, dr, rd⟩, fr⟩
    have HS1 := Lib.hid (HS0.out.then (s := 0) (hg d ts F1 r1 e1.out) dr rd)
    have HF1 := Lib.hid (HF0.out.trans fr)
    have HM1 := Lib.hid (HM0.out.fr fr (by omega))
    clear dr rd fr
    obtain ⟨g, j, cap1, hv1, kc, hj⟩ := last_cell HS1.out.rd h1.out
    have c3 := HS1.out.rd.c3
    rw [hv1] at c3
    rw [hkv.out] at kc
    have hjm := HS1.out.rm
    rw [hj] at hjm
    have hj1 : IntKind.i64.wrap (j : Int) = (j : Int) := IntWalk.i64_in _ (by omega)
    clear hj hjm hv1
    go_wp2_with fail
    go_quiet (fail)
    replace HF1 := Lib.hid (HF1.out.trans (Fr.only (Onl.below (below_drewN _ nq)) (by have := HS1.out.rd.lt; omega)))
    replace HS1 := Lib.hid (HS1.out.carry (below_drewN _ nq))
    replace HM1 := Lib.hid (HM1.out.below (below_drewN _ nq))
    clear kc c3 hj1
    go_wp2_with fail
    have HC2 := Lib.hid (okOf (semi_does _ HS1.out) e2.out)
    refine HC2.out.mono ?_
    rintro e w3 ⟨rfl, ⟨at2, v2, dr, rd⟩, fr⟩
    have HS2 := Lib.hid (HS1.out.then (s := 1) (gd_take [59] d r1 F2 r2 e2.out) dr rd)
    have HF2 := Lib.hid (HF1.out.trans fr)
    have HM2 := Lib.hid (HM1.out.fr fr (by omega))
    clear dr rd fr
    obtain ⟨m0, m1, m2, m3, m4, m5⟩ := HM2.out.at
    go_wp2_with fail
    have HA := Lib.hid (add_any HS2.out.rd kd ln cl dn nm X 13 0 0 0 0 { data := #[] } (F1.app F2).cnt (by have := hdn.out; simp [post_len, cnt_app, Fo.cnt]; omega) (by have := HS2.out.rm; omega))
    refine HA.out.mono ?_
    rintro e wa ⟨rfl, ⟨va, rda⟩, fra⟩
    replace rda := Lib.hid rda
    replace fra := Lib.hid fra
    go_wp2_with fail
    go_ret
    exact ⟨rfl, ⟨at2, va, HS2.out.dr, rd_node rda.out (by simp [post_app, Fo.post, List.append_assoc]) (by simp [mkK, mkX, mkY, mkN, Inf.nd, ht.out]; try rfl)⟩, HF2.out.trans fra.out⟩

set_option maxHeartbeats 2000000 in
theorem set_none {w : World} {b tb to tc : Nat} {T : List Tok} {at_ d : Nat} {v : Value} {D : List Nd} {n : Nat} {ts : List Tok} (h : Sit w b tb to tc T at_ d v D n ts) {E : Pt} (hE : Does 10 n E) (hg : Gd 0 E) {F1 : Fo} {r1 : List Tok} (e1 : E d ts = .ok F1 r1) (h1 : One1 F1) (kv : Nat) (hkv : rootK F1 = kv) (n26 : ¬ kv = 26) (n28 : ¬ kv = 28) (n29 : ¬ kv = 29) (n27 : ¬ kv = 27) : Calls Try.prog 87 #[pR b] w (Post b tb to tc T d D w (setP E d ts)) := by
  have hbl := h.rd.lt
  replace h1 := Lib.hid h1
  have hkv0 := hkv
  replace hkv := Lib.hid hkv
  have k26 : ((kv : Int) == 26) = false := by rw [beq_eq_false_iff_ne]; omega
  have k27 : ((kv : Int) == 27) = false := by rw [beq_eq_false_iff_ne]; omega
  have k28 : ((kv : Int) == 28) = false := by rw [beq_eq_false_iff_ne]; omega
  have k29 : ((kv : Int) == 29) = false := by rw [beq_eq_false_iff_ne]; omega
  obtain ⟨⟨kd, ln, cl, nm, tx⟩, ht⟩ : ∃ t, hd ts = t := ⟨_, rfl⟩
  obtain ⟨a, cap, hv⟩ := own_slice h.rd.own
  obtain ⟨X, hX⟩ : ∃ X, bs tx = X := ⟨_, rfl⟩
  obtain ⟨dn, hdn⟩ : ∃ dn, D.length = dn := ⟨_, rfl⟩
  have HH : Hid (Calls Try.prog 43 #[pR b] w fun e w' => e = .returned (sV kd ln cl nm X dn) ∧ Below w.heap.size w w') := Lib.hid (by have := here_any h ht dn hdn a cap (by rw [hv, hdn]); rw [hX] at this; exact this)
  rw [show (setP E) d ts = .bad 5 (hd r1).line (hd r1).col by simp only [setP, Out.bind, hkv0, n26, n27, n28, n29, or_self, if_false, badAt, e1]]
  replace e1 := Lib.hid e1
  have hs := Lib.hid h
  replace ht := Lib.hid ht
  replace hX := Lib.hid hX
  replace hdn := Lib.hid hdn
  replace hv := Lib.hid hv
  clear h hkv0 n26 n27 n28 n29
  go_enter Try.func87, Try.ntmps87
  go_wp2_with fail
  refine HH.out.mono ?_
  rintro e w1 ⟨rfl, hb⟩
  have hbl1 := (hs.out.rd.carry hb).lt
  replace hb := Lib.hid hb
  go_wp2_with fail
  obtain ⟨W, hW⟩ : ∃ W, W = w1.alloc (.cells #[.int .u8 kd, .int .i64 ln, .int .i64 cl, .int .i64 nm, .string X, .int .i64 dn] 50) := ⟨_, rfl⟩
  rw [← hW]
  have HS0 : Hid (Sit W b tb to tc T at_ d v D n ts) := Lib.hid (by rw [hW]; exact (hs.out.carry hb.out).carry (below_alloc _ _))
  have HF0 : Hid (Fr b w W) := Lib.hid (by rw [hW]; exact (Fr.only (Onl.below hb.out) (by omega)).trans (Fr.only (Onl.below (below_alloc _ _)) (by omega)))
  have HM0 : Hid (SAt W w1.heap.size kd ln cl nm X dn) := Lib.hid (by rw [hW]; exact SAt.made w1 kd ln cl nm X dn)
  clear hW
  have HC1 := Lib.hid (okOf (hE (HS0.out.up (by omega))) e1.out)
  refine HC1.out.mono ?_
  rintro e w2 ⟨rfl, ⟨at1, v1, dr, rd⟩, fr⟩
  have HS1 := Lib.hid (HS0.out.then (s := 0) (hg d ts F1 r1 e1.out) dr rd)
  have HF1 := Lib.hid (HF0.out.trans fr)
  have HM1 := Lib.hid (HM0.out.fr fr (by omega))
  clear dr rd fr
  obtain ⟨g, j, cap1, hv1, kc, hj⟩ := last_cell HS1.out.rd h1.out
  have c3 := HS1.out.rd.c3
  rw [hv1] at c3
  rw [hkv.out] at kc
  have hjm := HS1.out.rm
  rw [hj] at hjm
  have hj1 : IntKind.i64.wrap (j : Int) = (j : Int) := IntWalk.i64_in _ (by omega)
  clear hj hjm hv1
  go_wp2_with fail
  go_quiet (fail)
  replace HF1 := Lib.hid (HF1.out.trans (Fr.only (Onl.below (below_drewN _ nq)) (by have := HS1.out.rd.lt; omega)))
  replace HS1 := Lib.hid (HS1.out.carry (below_drewN _ nq))
  replace HM1 := Lib.hid (HM1.out.below (below_drewN _ nq))
  clear kc c3 hj1
  go_wp2_with fail
  have HX := Lib.hid (fail_any HS1.out.rd HS1.out.next 5)
  refine HX.out.mono ?_
  rintro e wz ⟨rfl, rf, fr⟩
  replace rf := Lib.hid rf
  replace fr := Lib.hid fr
  go_wp2_with fail
  go_ret
  exact ⟨rfl, rf.out, HF1.out.trans (Fr.only fr.out (by have := HS1.out.rd.lt; omega))⟩

set_option maxHeartbeats 1000000 in
theorem set_bad {w : World} {b tb to tc : Nat} {T : List Tok} {at_ d : Nat} {v : Value} {D : List Nd} {n : Nat} {ts : List Tok} (h : Sit w b tb to tc T at_ d v D n ts) {E : Pt} (hE : Does 10 n E) (hg : Gd 0 E) {c : Int} {l k : Nat} (e1 : E d ts = .bad c l k) : Calls Try.prog 87 #[pR b] w (Post b tb to tc T d D w (setP E d ts)) := by
  have hbl := h.rd.lt
  obtain ⟨⟨kd, ln, cl, nm, tx⟩, ht⟩ : ∃ t, hd ts = t := ⟨_, rfl⟩
  obtain ⟨a, cap, hv⟩ := own_slice h.rd.own
  obtain ⟨X, hX⟩ : ∃ X, bs tx = X := ⟨_, rfl⟩
  obtain ⟨dn, hdn⟩ : ∃ dn, D.length = dn := ⟨_, rfl⟩
  have HH : Hid (Calls Try.prog 43 #[pR b] w fun e w' => e = .returned (sV kd ln cl nm X dn) ∧ Below w.heap.size w w') := Lib.hid (by have := here_any h ht dn hdn a cap (by rw [hv, hdn]); rw [hX] at this; exact this)
  rw [show (setP E) d ts = .bad c l k by simp only [setP, Out.bind, e1]]
  replace e1 := Lib.hid e1
  have hs := Lib.hid h
  replace ht := Lib.hid ht
  replace hX := Lib.hid hX
  replace hdn := Lib.hid hdn
  replace hv := Lib.hid hv
  clear h
  go_enter Try.func87, Try.ntmps87
  go_wp2_with fail
  refine HH.out.mono ?_
  rintro e w1 ⟨rfl, hb⟩
  have hbl1 := (hs.out.rd.carry hb).lt
  replace hb := Lib.hid hb
  go_wp2_with fail
  obtain ⟨W, hW⟩ : ∃ W, W = w1.alloc (.cells #[.int .u8 kd, .int .i64 ln, .int .i64 cl, .int .i64 nm, .string X, .int .i64 dn] 50) := ⟨_, rfl⟩
  rw [← hW]
  have HS0 : Hid (Sit W b tb to tc T at_ d v D n ts) := Lib.hid (by rw [hW]; exact (hs.out.carry hb.out).carry (below_alloc _ _))
  have HF0 : Hid (Fr b w W) := Lib.hid (by rw [hW]; exact (Fr.only (Onl.below hb.out) (by omega)).trans (Fr.only (Onl.below (below_alloc _ _)) (by omega)))
  have HM0 : Hid (SAt W w1.heap.size kd ln cl nm X dn) := Lib.hid (by rw [hW]; exact SAt.made w1 kd ln cl nm X dn)
  clear hW
  have HC1 := Lib.hid (badOf (hE (HS0.out.up (by omega))) e1.out)
  refine HC1.out.mono ?_
  rintro e w2 ⟨rfl, rf, fr⟩
  replace rf := Lib.hid rf
  replace fr := Lib.hid fr
  go_wp2_with fail
  go_ret
  exact ⟨rfl, rf.out, HF0.out.trans fr.out⟩

theorem set_r {w : World} {b tb to tc : Nat} {T : List Tok} {at_ d : Nat} {v : Value} {D : List Nd} {n : Nat} {ts : List Tok} (h : Sit w b tb to tc T at_ d v D n ts) {E : Pt} (hE : Does 10 n E) (hg : Gd 0 E) (hs : Sing E) : Calls Try.prog 87 #[pR b] w (Post b tb to tc T d D w (setP E d ts)) := by
  cases e1 : E d ts with
  | bad c l k => exact set_bad h hE hg e1
  | ok F1 r1 =>
    have h1 := hs _ _ _ _ e1
    by_cases k26 : rootK F1 = 26
    · exact set_26 h hE hg e1 h1 k26
    by_cases k28 : rootK F1 = 28
    · exact set_28 h hE hg e1 h1 k28
    by_cases k29 : rootK F1 = 29
    · exact set_29 h hE hg e1 h1 k29
    by_cases k27 : rootK F1 = 27
    · exact set_27 h hE hg e1 h1 k27
    exact set_none h hE hg e1 h1 _ rfl k26 k28 k29 k27


end Go.Proofs.Ytbknflaooemigaa
