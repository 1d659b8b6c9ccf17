/-
  Contracts of parse.reader's record, result, function and declaration. Conditions: as said.
-/
import Derived.Test.YtbknflaooemigaaRef
namespace Go.Proofs.Ytbknflaooemigaa
open Go.RowKit Go.Sort
set_option linter.unusedVariables false
set_option linter.unusedSimpArgs false

theorem field_does (N n : Nat) (hN : n ≤ N) : Does 62 n (fieldP N) := fun w b tb to tc T at_ d v D ts h => field_r h (fun h => typed_r h 3 ((type_does N).mono hN))
theorem parameter_does (N n : Nat) (hN : n ≤ N) : Does 64 n (typedP 5 N) := by
  intro w b tb to tc T at_ d v D ts h
  have H := Lib.hid (typed_r h 5 ((type_does N).mono hN))
  clear h
  go_enter Try.func64, Try.ntmps64
  go_wp2_with fail
  refine H.out.mono ?_
  rintro e w1 ⟨rfl, hw⟩
  replace hw := Lib.hid hw
  go_wp2_with fail
  go_ret
  exact ⟨rfl, hw.out⟩

set_option maxHeartbeats 1000000 in
theorem record_r {w : World} {b tb to tc : Nat} {T : List Tok} {at_ d : Nat} {v : Value} {D : List Nd} {n : Nat} {ts : List Tok} (h : Sit w b tb to tc T at_ d v D n ts) {N : Nat} (hq : sees [114, 101, 99] ts = true) (hN : n ≤ N) : Calls Try.prog 28 #[pR b] w (Post b tb to tc T d D w (recP N d ts)) := by
  have hbl := h.rd.lt
  obtain ⟨⟨kd, ln, cl, nm, tx⟩, ht⟩ : ∃ t, hd ts = t := ⟨_, rfl⟩
  obtain ⟨a, cap, hv⟩ := own_slice h.rd.own
  obtain ⟨X, hX⟩ : ∃ X, bs tx = X := ⟨_, rfl⟩
  obtain ⟨dn, hdn⟩ : ∃ dn, D.length = dn := ⟨_, rfl⟩
  have HH : Hid (Calls Try.prog 43 #[pR b] w fun e w' => e = .returned (sV kd ln cl nm X dn) ∧ Below w.heap.size w w') := Lib.hid (by have := here_any h ht dn hdn a cap (by rw [hv, hdn]); rw [hX] at this; exact this)
  have hk : (hd ts).kind ≠ 8 := by obtain ⟨t, l, rfl, hk, _⟩ := sees_cons hq; simp [hd]; omega
  have hlt : at_ < T.length := (List.getElem?_eq_some_iff.1 h.next).1
  have htn := h.rd.tn
  have hn : at_ < 1000000 := by omega
  replace hk := Lib.hid hk
  obtain ⟨⟨kd2, ln2, cl2, nm2, tx2⟩, ht2⟩ : ∃ t, hd ts.tail = t := ⟨_, rfl⟩
  obtain ⟨X2, hX2⟩ : ∃ X2, bs tx2 = X2 := ⟨_, rfl⟩
  have hF := tokF4 kd2 ln2 cl2 nm2 X2
  cases e1 : (kindP 2) d ts.tail with
  | bad c l k =>
    rw [show (recP N) d ts = .bad c l k by simp only [recP, nodeP, afterP, seqP, Out.bind, e1]]
    replace e1 := Lib.hid e1
    have hs := Lib.hid h
    replace ht := Lib.hid ht
    replace hX := Lib.hid hX
    replace hdn := Lib.hid hdn
    replace hv := Lib.hid hv
    replace ht2 := Lib.hid ht2
    replace hX2 := Lib.hid hX2
    clear h hlt htn
    go_enter Try.func28, Try.ntmps28
    go_wp2_with fail
    refine HH.out.mono ?_
    rintro e w1 ⟨rfl, hb⟩
    have c1 := (hs.out.rd.carry hb).c1
    have fz := (hs.out.rd.carry hb).fz
    have hbl1 := (hs.out.rd.carry hb).lt
    have HT := (hs.out.carry hb).tail ((hs.out.carry hb).rd.bump (at_ + 1)) hk.out
    rw [show ((at_ + 1 : Nat) : Int) = (at_ : Int) + 1 by omega] at HT
    replace HT := Lib.hid HT
    replace hb := Lib.hid hb
    go_wp2_with fail
    obtain ⟨W, hW⟩ : ∃ W, W = (w1.setCell ⟨b, 1, none⟩ (.int .i64 ((at_ : Int) + 1))).alloc (.cells #[.int .u8 kd, .int .i64 ln, .int .i64 cl, .int .i64 nm, .string X, .int .i64 dn] 50) := ⟨_, rfl⟩
    rw [← hW]
    have HS0 : Hid (Sit W b tb to tc T (at_ + 1) d v D (n - 1) ts.tail) := Lib.hid (by rw [hW]; exact HT.out.carry (below_alloc _ _))
    have HF0 : Hid (Fr b w W) := Lib.hid (by rw [hW]; exact ((Fr.only (Onl.below hb.out) (by omega)).trans (Fr.only (Onl.set _ _ _ _) (by omega))).trans (Fr.only (Onl.below (below_alloc _ _)) (by simp; omega)))
    have HM0 : Hid (SAt W w1.heap.size kd ln cl nm X dn) := Lib.hid (by rw [hW]; have := SAt.made (w1.setCell ⟨b, 1, none⟩ (.int .i64 ((at_ : Int) + 1))) kd ln cl nm X dn; simpa using this)
    clear hW HT c1 fz
    have HN0 := Lib.hid (HS0.out.next_at ht2.out W (Below.refl _ _))
    rw [hX2.out] at HN0
    refine HN0.out.mono ?_
    rintro e wn ⟨rfl, hbn⟩
    replace HF0 := Lib.hid (HF0.out.trans (Fr.only (Onl.below hbn) (by have := HS0.out.rd.lt; omega)))
    replace HS0 := Lib.hid (HS0.out.carry hbn)
    replace HM0 := Lib.hid (HM0.out.below hbn)
    replace hbn := Lib.hid hbn
    go_wp2_with fail
    have HC1 := Lib.hid (badOf (kind_any HS0.out 2 (by decide)) e1.out)
    refine HC1.out.mono ?_
    rintro e w2 ⟨rfl, rf, fr⟩
    replace rf := Lib.hid rf
    replace fr := Lib.hid fr
    go_wp2_with fail
    go_ret
    exact ⟨rfl, rf.out, HF0.out.trans fr.out⟩
  | ok F1 r1 =>
    cases e2 : (withinP [123] [125] (untilP [125] (fieldP N) N)) d r1 with
    | bad c l k =>
      rw [show (recP N) d ts = .bad c l k by simp only [recP, nodeP, afterP, seqP, Out.bind, e1, e2]]
      replace e1 := Lib.hid e1
      replace e2 := Lib.hid e2
      have hs := Lib.hid h
      replace ht := Lib.hid ht
      replace hX := Lib.hid hX
      replace hdn := Lib.hid hdn
      replace hv := Lib.hid hv
      replace ht2 := Lib.hid ht2
      replace hX2 := Lib.hid hX2
      clear h hlt htn
      go_enter Try.func28, Try.ntmps28
      go_wp2_with fail
      refine HH.out.mono ?_
      rintro e w1 ⟨rfl, hb⟩
      have c1 := (hs.out.rd.carry hb).c1
      have fz := (hs.out.rd.carry hb).fz
      have hbl1 := (hs.out.rd.carry hb).lt
      have HT := (hs.out.carry hb).tail ((hs.out.carry hb).rd.bump (at_ + 1)) hk.out
      rw [show ((at_ + 1 : Nat) : Int) = (at_ : Int) + 1 by omega] at HT
      replace HT := Lib.hid HT
      replace hb := Lib.hid hb
      go_wp2_with fail
      obtain ⟨W, hW⟩ : ∃ W, W = (w1.setCell ⟨b, 1, none⟩ (.int .i64 ((at_ : Int) + 1))).alloc (.cells #[.int .u8 kd, .int .i64 ln, .int .i64 cl, .int .i64 nm, .string X, .int .i64 dn] 50) := ⟨_, rfl⟩
      rw [← hW]
      have HS0 : Hid (Sit W b tb to tc T (at_ + 1) d v D (n - 1) ts.tail) := Lib.hid (by rw [hW]; exact HT.out.carry (below_alloc _ _))
      have HF0 : Hid (Fr b w W) := Lib.hid (by rw [hW]; exact ((Fr.only (Onl.below hb.out) (by omega)).trans (Fr.only (Onl.set _ _ _ _) (by omega))).trans (Fr.only (Onl.below (below_alloc _ _)) (by simp; omega)))
      have HM0 : Hid (SAt W w1.heap.size kd ln cl nm X dn) := Lib.hid (by rw [hW]; have := SAt.made (w1.setCell ⟨b, 1, none⟩ (.int .i64 ((at_ : Int) + 1))) kd ln cl nm X dn; simpa using this)
      clear hW HT c1 fz
      have HN0 := Lib.hid (HS0.out.next_at ht2.out W (Below.refl _ _))
      rw [hX2.out] at HN0
      refine HN0.out.mono ?_
      rintro e wn ⟨rfl, hbn⟩
      replace HF0 := Lib.hid (HF0.out.trans (Fr.only (Onl.below hbn) (by have := HS0.out.rd.lt; omega)))
      replace HS0 := Lib.hid (HS0.out.carry hbn)
      replace HM0 := Lib.hid (HM0.out.below hbn)
      replace hbn := Lib.hid hbn
      go_wp2_with fail
      have HC1 := Lib.hid (okOf (kind_any HS0.out 2 (by decide)) e1.out)
      refine HC1.out.mono ?_
      rintro e w2 ⟨rfl, ⟨at1, v1, dr, rd⟩, fr⟩
      have HS1 := Lib.hid (HS0.out.then (s := 1) (gd_kind 2 (by decide) (by decide) d ts.tail F1 r1 e1.out) dr rd)
      have HF1 := Lib.hid (HF0.out.trans fr)
      have HM1 := Lib.hid (HM0.out.fr fr (by omega))
      clear dr rd fr
      go_wp2_with fail
      have HC2 := Lib.hid (badOf (within_r (HS1.out) { data := #[123] } { data := #[125] } [123] [125] (by rw [ByteArray.toList_eq]) (by rw [ByteArray.toList_eq]) (fn_of (fields_does (field_does N _ (by omega)) ((gd_field N).mono (by omega)) (fun d ts F r e => one_field e) N (by omega)) (by intro args w; simp [go_sem])) (gd_until ((gd_field N).mono (by omega)) N)) e2.out)
      refine HC2.out.mono ?_
      rintro e w3 ⟨rfl, rf, fr⟩
      replace rf := Lib.hid rf
      replace fr := Lib.hid fr
      go_wp2_with fail
      go_ret
      exact ⟨rfl, rf.out, HF1.out.trans fr.out⟩
    | ok F2 r2 =>
      rw [show (recP N) d ts = .ok (.cons (mkY 2 ts) (F1.app F2) .nil) r2 by simp only [recP, nodeP, afterP, seqP, Out.bind, e1, e2]]
      replace e1 := Lib.hid e1
      replace e2 := Lib.hid e2
      have hs := Lib.hid h
      replace ht := Lib.hid ht
      replace hX := Lib.hid hX
      replace hdn := Lib.hid hdn
      replace hv := Lib.hid hv
      replace ht2 := Lib.hid ht2
      replace hX2 := Lib.hid hX2
      clear h hlt htn
      go_enter Try.func28, Try.ntmps28
      go_wp2_with fail
      refine HH.out.mono ?_
      rintro e w1 ⟨rfl, hb⟩
      have c1 := (hs.out.rd.carry hb).c1
      have fz := (hs.out.rd.carry hb).fz
      have hbl1 := (hs.out.rd.carry hb).lt
      have HT := (hs.out.carry hb).tail ((hs.out.carry hb).rd.bump (at_ + 1)) hk.out
      rw [show ((at_ + 1 : Nat) : Int) = (at_ : Int) + 1 by omega] at HT
      replace HT := Lib.hid HT
      replace hb := Lib.hid hb
      go_wp2_with fail
      obtain ⟨W, hW⟩ : ∃ W, W = (w1.setCell ⟨b, 1, none⟩ (.int .i64 ((at_ : Int) + 1))).alloc (.cells #[.int .u8 kd, .int .i64 ln, .int .i64 cl, .int .i64 nm, .string X, .int .i64 dn] 50) := ⟨_, rfl⟩
      rw [← hW]
      have HS0 : Hid (Sit W b tb to tc T (at_ + 1) d v D (n - 1) ts.tail) := Lib.hid (by rw [hW]; exact HT.out.carry (below_alloc _ _))
      have HF0 : Hid (Fr b w W) := Lib.hid (by rw [hW]; exact ((Fr.only (Onl.below hb.out) (by omega)).trans (Fr.only (Onl.set _ _ _ _) (by omega))).trans (Fr.only (Onl.below (below_alloc _ _)) (by simp; omega)))
      have HM0 : Hid (SAt W w1.heap.size kd ln cl nm X dn) := Lib.hid (by rw [hW]; have := SAt.made (w1.setCell ⟨b, 1, none⟩ (.int .i64 ((at_ : Int) + 1))) kd ln cl nm X dn; simpa using this)
      clear hW HT c1 fz
      have HN0 := Lib.hid (HS0.out.next_at ht2.out W (Below.refl _ _))
      rw [hX2.out] at HN0
      refine HN0.out.mono ?_
      rintro e wn ⟨rfl, hbn⟩
      replace HF0 := Lib.hid (HF0.out.trans (Fr.only (Onl.below hbn) (by have := HS0.out.rd.lt; omega)))
      replace HS0 := Lib.hid (HS0.out.carry hbn)
      replace HM0 := Lib.hid (HM0.out.below hbn)
      replace hbn := Lib.hid hbn
      go_wp2_with fail
      have HC1 := Lib.hid (okOf (kind_any HS0.out 2 (by decide)) e1.out)
      refine HC1.out.mono ?_
      rintro e w2 ⟨rfl, ⟨at1, v1, dr, rd⟩, fr⟩
      have HS1 := Lib.hid (HS0.out.then (s := 1) (gd_kind 2 (by decide) (by decide) d ts.tail F1 r1 e1.out) dr rd)
      have HF1 := Lib.hid (HF0.out.trans fr)
      have HM1 := Lib.hid (HM0.out.fr fr (by omega))
      clear dr rd fr
      go_wp2_with fail
      have HC2 := Lib.hid (okOf (within_r (HS1.out) { data := #[123] } { data := #[125] } [123] [125] (by rw [ByteArray.toList_eq]) (by rw [ByteArray.toList_eq]) (fn_of (fields_does (field_does N _ (by omega)) ((gd_field N).mono (by omega)) (fun d ts F r e => one_field e) N (by omega)) (by intro args w; simp [go_sem])) (gd_until ((gd_field N).mono (by omega)) N)) e2.out)
      refine HC2.out.mono ?_
      rintro e w3 ⟨rfl, ⟨at2, v2, dr, rd⟩, fr⟩
      have HS2 := Lib.hid (HS1.out.then (s := 2) (gd_within (o := [123]) (c := [125]) (gd_until ((gd_field N).mono (by omega)) N) d r1 F2 r2 e2.out) dr rd)
      have HF2 := Lib.hid (HF1.out.trans fr)
      have HM2 := Lib.hid (HM1.out.fr fr (by omega))
      clear dr rd fr
      obtain ⟨m0, m1, m2, m3, m4, m5⟩ := HM2.out.at
      go_wp2_with fail
      have HA := Lib.hid (add_any HS2.out.rd kd ln cl dn nm X 2 0 0 0 0 X2 (F1.app F2).cnt (by have := hdn.out; simp [post_len, cnt_app, Fo.cnt]; omega) (by have := HS2.out.rm; omega))
      refine HA.out.mono ?_
      rintro e wa ⟨rfl, ⟨va, rda⟩, fra⟩
      replace rda := Lib.hid rda
      replace fra := Lib.hid fra
      go_wp2_with fail
      go_ret
      exact ⟨rfl, ⟨at2, va, HS2.out.dr, rd_node rda.out (by simp [post_app, Fo.post, List.append_assoc]) (by simp [mkK, mkX, mkY, mkN, Inf.nd, ht.out, ht2.out, hX2.out]; try rfl)⟩, HF2.out.trans fra.out⟩

set_option maxHeartbeats 400000 in
theorem result_r {w : World} {b tb to tc : Nat} {T : List Tok} {at_ d : Nat} {v : Value} {D : List Nd} {n : Nat} {ts : List Tok} (h : Sit w b tb to tc T at_ d v D n ts) (N : Nat) (hN : n ≤ N) : Calls Try.prog 50 #[pR b] w (Post b tb to tc T d D w (resultP N d ts)) := by
  have hbl := h.rd.lt
  unfold resultP
  cases q0 : sees [58] ts with
  | false =>
    have Q0 := Lib.hid (sees_any h.rd h.next { data := #[58] } [58] (by rw [ByteArray.toList_eq]) false q0)
    rw [if_neg (by simp)]
    obtain ⟨a, cap, hv⟩ := own_slice h.rd.own
    obtain ⟨dn, hdn⟩ : ∃ dn, D.length = dn := ⟨_, rfl⟩
    have hrm := h.rm
    replace h := Lib.hid h
    replace hdn := Lib.hid hdn
    replace hv := Lib.hid hv
    go_enter Try.func50, Try.ntmps50
    go_wp2_with fail
    refine Q0.out.mono ?_
    rintro e w1 ⟨rfl, hb⟩
    have c3 := (h.out.rd.carry hb).c3
    rw [hv.out, hdn.out] at c3
    have HA := Lib.hid (add_any (h.out.rd.carry hb) 0 0 0 dn 0 { data := #[] } 14 0 0 0 0 { data := #[] } 0 (by rw [hdn.out]; rfl) (by omega))
    replace hb := Lib.hid hb
    go_wp2_with fail
    refine HA.out.mono ?_
    rintro e w2 ⟨rfl, ⟨v2, rd2⟩, fr2⟩
    replace rd2 := Lib.hid rd2
    replace fr2 := Lib.hid fr2
    go_wp2_with fail
    go_ret
    exact ⟨rfl, ⟨at_, v2, h.out.dr, by have := rd2.out; simpa [Fo.post, Fo.cnt, Inf.nd, bs] using this⟩, (Fr.only (Onl.below hb.out) (by omega)).trans fr2.out⟩
  | true =>
    have Q0 := Lib.hid (sees_any h.rd h.next { data := #[58] } [58] (by rw [ByteArray.toList_eq]) true q0)
    have hk : (hd ts).kind ≠ 8 := by
      obtain ⟨t, l, rfl, hk, _⟩ := sees_cons q0
      simp [hd]; omega
    have hlt : at_ < T.length := (List.getElem?_eq_some_iff.1 h.next).1
    have htn := h.rd.tn
    have hn : at_ < 1000000 := by omega
    rw [if_pos rfl]
    replace hk := Lib.hid hk
    replace h := Lib.hid h
    clear q0 hlt htn
    go_enter Try.func50, Try.ntmps50
    go_wp2_with fail
    refine Q0.out.mono ?_
    rintro e w1 ⟨rfl, hb⟩
    have c1 := (h.out.rd.carry hb).c1
    have fz := (h.out.rd.carry hb).fz
    have HT := (h.out.carry hb).tail ((h.out.carry hb).rd.bump (at_ + 1)) hk.out
    rw [show ((at_ + 1 : Nat) : Int) = (at_ : Int) + 1 by omega] at HT
    have HC := Lib.hid (type_does N (HT.up (by omega)))
    have HF := Lib.hid ((Fr.only (Onl.below hb) (by omega)).trans (Fr.only (Onl.set b w1 1 (.int .i64 ((at_ : Int) + 1))) (by have := (h.out.rd.carry hb).lt; omega)))
    replace hb := Lib.hid hb
    clear HT
    go_wp2_with fail
    refine HC.out.mono ?_
    rintro e w2 ⟨rfl, hw⟩
    replace hw := Lib.hid hw
    go_wp2_with fail
    go_ret
    exact ⟨rfl, hw.out.back HF.out⟩

set_option maxHeartbeats 4000000 in
theorem function_r {w : World} {b tb to tc : Nat} {T : List Tok} {at_ d : Nat} {v : Value} {D : List Nd} {n : Nat} {ts : List Tok} (h : Sit w b tb to tc T at_ d v D n ts) {N : Nat} (hN : n ≤ N) : Calls Try.prog 29 #[pR b] w (Post b tb to tc T d D w (fnP N d ts)) := by
  have hbl := h.rd.lt
  obtain ⟨⟨kd, ln, cl, nm, tx⟩, ht⟩ : ∃ t, hd ts = t := ⟨_, rfl⟩
  obtain ⟨a, cap, hv⟩ := own_slice h.rd.own
  obtain ⟨X, hX⟩ : ∃ X, bs tx = X := ⟨_, rfl⟩
  obtain ⟨dn, hdn⟩ : ∃ dn, D.length = dn := ⟨_, rfl⟩
  have HH : Hid (Calls Try.prog 43 #[pR b] w fun e w' => e = .returned (sV kd ln cl nm X dn) ∧ Below w.heap.size w w') := Lib.hid (by have := here_any h ht dn hdn a cap (by rw [hv, hdn]); rw [hX] at this; exact this)
  cases e1 : (take [102, 110]) d ts with
  | bad c l k =>
    rw [show (fnP N) d ts = .bad c l k by simp only [fnP, seqP, Out.bind, e1]]
    replace e1 := Lib.hid e1
    have hs := Lib.hid h
    replace ht := Lib.hid ht
    replace hX := Lib.hid hX
    replace hdn := Lib.hid hdn
    replace hv := Lib.hid hv
    clear h
    go_enter Try.func29, Try.ntmps29
    go_wp2_with fail
    refine HH.out.mono ?_
    rintro e w1 ⟨rfl, hb⟩
    have hbl1 := (hs.out.rd.carry hb).lt
    replace hb := Lib.hid hb
    go_wp2_with fail
    obtain ⟨W, hW⟩ : ∃ W, W = w1.alloc (.cells #[.int .u8 kd, .int .i64 ln, .int .i64 cl, .int .i64 nm, .string X, .int .i64 dn] 50) := ⟨_, rfl⟩
    rw [← hW]
    have HS0 : Hid (Sit W b tb to tc T at_ d v D n ts) := Lib.hid (by rw [hW]; exact (hs.out.carry hb.out).carry (below_alloc _ _))
    have HF0 : Hid (Fr b w W) := Lib.hid (by rw [hW]; exact (Fr.only (Onl.below hb.out) (by omega)).trans (Fr.only (Onl.below (below_alloc _ _)) (by omega)))
    have HM0 : Hid (SAt W w1.heap.size kd ln cl nm X dn) := Lib.hid (by rw [hW]; exact SAt.made w1 kd ln cl nm X dn)
    clear hW
    have HC1 := Lib.hid (badOf (take_any HS0.out { data := #[102, 110] } [102, 110] (by rw [ByteArray.toList_eq])) e1.out)
    refine HC1.out.mono ?_
    rintro e w2 ⟨rfl, rf, fr⟩
    replace rf := Lib.hid rf
    replace fr := Lib.hid fr
    go_wp2_with fail
    go_ret
    exact ⟨rfl, rf.out, HF0.out.trans fr.out⟩
  | ok F1 r1 =>
    cases e2 : (kindP 1) d r1 with
    | bad c l k =>
      rw [show (fnP N) d ts = .bad c l k by simp only [fnP, seqP, Out.bind, e1, e2]]
      replace e1 := Lib.hid e1
      replace e2 := Lib.hid e2
      have hs := Lib.hid h
      replace ht := Lib.hid ht
      replace hX := Lib.hid hX
      replace hdn := Lib.hid hdn
      replace hv := Lib.hid hv
      clear h
      go_enter Try.func29, Try.ntmps29
      go_wp2_with fail
      refine HH.out.mono ?_
      rintro e w1 ⟨rfl, hb⟩
      have hbl1 := (hs.out.rd.carry hb).lt
      replace hb := Lib.hid hb
      go_wp2_with fail
      obtain ⟨W, hW⟩ : ∃ W, W = w1.alloc (.cells #[.int .u8 kd, .int .i64 ln, .int .i64 cl, .int .i64 nm, .string X, .int .i64 dn] 50) := ⟨_, rfl⟩
      rw [← hW]
      have HS0 : Hid (Sit W b tb to tc T at_ d v D n ts) := Lib.hid (by rw [hW]; exact (hs.out.carry hb.out).carry (below_alloc _ _))
      have HF0 : Hid (Fr b w W) := Lib.hid (by rw [hW]; exact (Fr.only (Onl.below hb.out) (by omega)).trans (Fr.only (Onl.below (below_alloc _ _)) (by omega)))
      have HM0 : Hid (SAt W w1.heap.size kd ln cl nm X dn) := Lib.hid (by rw [hW]; exact SAt.made w1 kd ln cl nm X dn)
      clear hW
      have HC1 := Lib.hid (okOf (take_any HS0.out { data := #[102, 110] } [102, 110] (by rw [ByteArray.toList_eq])) e1.out)
      refine HC1.out.mono ?_
      rintro e w2 ⟨rfl, ⟨at1, v1, dr, rd⟩, fr⟩
      have HS1 := Lib.hid (HS0.out.then (s := 1) (gd_take [102, 110] d ts F1 r1 e1.out) dr rd)
      have HF1 := Lib.hid (HF0.out.trans fr)
      have HM1 := Lib.hid (HM0.out.fr fr (by omega))
      clear dr rd fr
      have z1 : F1.cnt = 0 := by rw [nil_take e1.out]; rfl
      have y1 : F1.post = [] := by rw [nil_take e1.out]; rfl
      obtain ⟨⟨kd2, ln2, cl2, nm2, tx2⟩, ht2⟩ : ∃ t, hd r1 = t := ⟨_, rfl⟩
      obtain ⟨X2, hX2⟩ : ∃ X2, bs tx2 = X2 := ⟨_, rfl⟩
      have hF := tokF4 kd2 ln2 cl2 nm2 X2
      have HN0 := Lib.hid (HS1.out.next_at ht2 w2 (Below.refl _ _))
      rw [hX2] at HN0
      replace ht2 := Lib.hid ht2
      replace hX2 := Lib.hid hX2
      replace z1 := Lib.hid z1
      replace y1 := Lib.hid y1
      go_wp2_with fail
      refine HN0.out.mono ?_
      rintro e wn ⟨rfl, hbn⟩
      replace HF1 := Lib.hid (HF1.out.trans (Fr.only (Onl.below hbn) (by have := HS1.out.rd.lt; omega)))
      replace HS1 := Lib.hid (HS1.out.carry hbn)
      replace HM1 := Lib.hid (HM1.out.below hbn)
      replace hbn := Lib.hid hbn
      go_wp2_with fail
      have HC2 := Lib.hid (badOf (kind_any HS1.out 1 (by decide)) e2.out)
      refine HC2.out.mono ?_
      rintro e w3 ⟨rfl, rf, fr⟩
      replace rf := Lib.hid rf
      replace fr := Lib.hid fr
      go_wp2_with fail
      go_ret
      exact ⟨rfl, rf.out, HF1.out.trans fr.out⟩
    | ok F2 r2 =>
      cases e3 : (withinP [40] [41] (listedP (typedP 5 N) N)) d r2 with
      | bad c l k =>
        rw [show (fnP N) d ts = .bad c l k by simp only [fnP, seqP, Out.bind, e1, e2, e3]]
        replace e1 := Lib.hid e1
        replace e2 := Lib.hid e2
        replace e3 := Lib.hid e3
        have hs := Lib.hid h
        replace ht := Lib.hid ht
        replace hX := Lib.hid hX
        replace hdn := Lib.hid hdn
        replace hv := Lib.hid hv
        clear h
        go_enter Try.func29, Try.ntmps29
        go_wp2_with fail
        refine HH.out.mono ?_
        rintro e w1 ⟨rfl, hb⟩
        have hbl1 := (hs.out.rd.carry hb).lt
        replace hb := Lib.hid hb
        go_wp2_with fail
        obtain ⟨W, hW⟩ : ∃ W, W = w1.alloc (.cells #[.int .u8 kd, .int .i64 ln, .int .i64 cl, .int .i64 nm, .string X, .int .i64 dn] 50) := ⟨_, rfl⟩
        rw [← hW]
        have HS0 : Hid (Sit W b tb to tc T at_ d v D n ts) := Lib.hid (by rw [hW]; exact (hs.out.carry hb.out).carry (below_alloc _ _))
        have HF0 : Hid (Fr b w W) := Lib.hid (by rw [hW]; exact (Fr.only (Onl.below hb.out) (by omega)).trans (Fr.only (Onl.below (below_alloc _ _)) (by omega)))
        have HM0 : Hid (SAt W w1.heap.size kd ln cl nm X dn) := Lib.hid (by rw [hW]; exact SAt.made w1 kd ln cl nm X dn)
        clear hW
        have HC1 := Lib.hid (okOf (take_any HS0.out { data := #[102, 110] } [102, 110] (by rw [ByteArray.toList_eq])) e1.out)
        refine HC1.out.mono ?_
        rintro e w2 ⟨rfl, ⟨at1, v1, dr, rd⟩, fr⟩
        have HS1 := Lib.hid (HS0.out.then (s := 1) (gd_take [102, 110] d ts F1 r1 e1.out) dr rd)
        have HF1 := Lib.hid (HF0.out.trans fr)
        have HM1 := Lib.hid (HM0.out.fr fr (by omega))
        clear dr rd fr
        have z1 : F1.cnt = 0 := by rw [nil_take e1.out]; rfl
        have y1 : F1.post = [] := by rw [nil_take e1.out]; rfl
        obtain ⟨⟨kd2, ln2, cl2, nm2, tx2⟩, ht2⟩ : ∃ t, hd r1 = t := ⟨_, rfl⟩
        obtain ⟨X2, hX2⟩ : ∃ X2, bs tx2 = X2 := ⟨_, rfl⟩
        have hF := tokF4 kd2 ln2 cl2 nm2 X2
        have HN0 := Lib.hid (HS1.out.next_at ht2 w2 (Below.refl _ _))
        rw [hX2] at HN0
        replace ht2 := Lib.hid ht2
        replace hX2 := Lib.hid hX2
        replace z1 := Lib.hid z1
        replace y1 := Lib.hid y1
        go_wp2_with fail
        refine HN0.out.mono ?_
        rintro e wn ⟨rfl, hbn⟩
        replace HF1 := Lib.hid (HF1.out.trans (Fr.only (Onl.below hbn) (by have := HS1.out.rd.lt; omega)))
        replace HS1 := Lib.hid (HS1.out.carry hbn)
        replace HM1 := Lib.hid (HM1.out.below hbn)
        replace hbn := Lib.hid hbn
        go_wp2_with fail
        have HC2 := Lib.hid (okOf (kind_any HS1.out 1 (by decide)) e2.out)
        refine HC2.out.mono ?_
        rintro e w3 ⟨rfl, ⟨at2, v2, dr, rd⟩, fr⟩
        have HS2 := Lib.hid (HS1.out.then (s := 1) (gd_kind 1 (by decide) (by decide) d r1 F2 r2 e2.out) dr rd)
        have HF2 := Lib.hid (HF1.out.trans fr)
        have HM2 := Lib.hid (HM1.out.fr fr (by omega))
        clear dr rd fr
        go_wp2_with fail
        have HC3 := Lib.hid (badOf (within_r (HS2.out) { data := #[40] } { data := #[41] } [40] [41] (by rw [ByteArray.toList_eq]) (by rw [ByteArray.toList_eq]) (fn_of (parameters_does (parameter_does N _ (by omega)) ((gd_typed 5 N).mono (by omega)) N (by omega)) (by intro args w; simp [go_sem])) (gd_listed ((gd_typed 5 N).mono (by omega)) N)) e3.out)
        refine HC3.out.mono ?_
        rintro e w4 ⟨rfl, rf, fr⟩
        replace rf := Lib.hid rf
        replace fr := Lib.hid fr
        go_wp2_with fail
        go_ret
        exact ⟨rfl, rf.out, HF2.out.trans fr.out⟩
      | ok F3 r3 =>
        cases e4 : (resultP N) d r3 with
        | bad c l k =>
          rw [show (fnP N) d ts = .bad c l k by simp only [fnP, seqP, Out.bind, e1, e2, e3, e4]]
          replace e1 := Lib.hid e1
          replace e2 := Lib.hid e2
          replace e3 := Lib.hid e3
          replace e4 := Lib.hid e4
          have hs := Lib.hid h
          replace ht := Lib.hid ht
          replace hX := Lib.hid hX
          replace hdn := Lib.hid hdn
          replace hv := Lib.hid hv
          clear h
          go_enter Try.func29, Try.ntmps29
          go_wp2_with fail
          refine HH.out.mono ?_
          rintro e w1 ⟨rfl, hb⟩
          have hbl1 := (hs.out.rd.carry hb).lt
          replace hb := Lib.hid hb
          go_wp2_with fail
          obtain ⟨W, hW⟩ : ∃ W, W = w1.alloc (.cells #[.int .u8 kd, .int .i64 ln, .int .i64 cl, .int .i64 nm, .string X, .int .i64 dn] 50) := ⟨_, rfl⟩
          rw [← hW]
          have HS0 : Hid (Sit W b tb to tc T at_ d v D n ts) := Lib.hid (by rw [hW]; exact (hs.out.carry hb.out).carry (below_alloc _ _))
          have HF0 : Hid (Fr b w W) := Lib.hid (by rw [hW]; exact (Fr.only (Onl.below hb.out) (by omega)).trans (Fr.only (Onl.below (below_alloc _ _)) (by omega)))
          have HM0 : Hid (SAt W w1.heap.size kd ln cl nm X dn) := Lib.hid (by rw [hW]; exact SAt.made w1 kd ln cl nm X dn)
          clear hW
          have HC1 := Lib.hid (okOf (take_any HS0.out { data := #[102, 110] } [102, 110] (by rw [ByteArray.toList_eq])) e1.out)
          refine HC1.out.mono ?_
          rintro e w2 ⟨rfl, ⟨at1, v1, dr, rd⟩, fr⟩
          have HS1 := Lib.hid (HS0.out.then (s := 1) (gd_take [102, 110] d ts F1 r1 e1.out) dr rd)
          have HF1 := Lib.hid (HF0.out.trans fr)
          have HM1 := Lib.hid (HM0.out.fr fr (by omega))
          clear dr rd fr
          have z1 : F1.cnt = 0 := by rw [nil_take e1.out]; rfl
          have y1 : F1.post = [] := by rw [nil_take e1.out]; rfl
          obtain ⟨⟨kd2, ln2, cl2, nm2, tx2⟩, ht2⟩ : ∃ t, hd r1 = t := ⟨_, rfl⟩
          obtain ⟨X2, hX2⟩ : ∃ X2, bs tx2 = X2 := ⟨_, rfl⟩
          have hF := tokF4 kd2 ln2 cl2 nm2 X2
          have HN0 := Lib.hid (HS1.out.next_at ht2 w2 (Below.refl _ _))
          rw [hX2] at HN0
          replace ht2 := Lib.hid ht2
          replace hX2 := Lib.hid hX2
          replace z1 := Lib.hid z1
          replace y1 := Lib.hid y1
          go_wp2_with fail
          refine HN0.out.mono ?_
          rintro e wn ⟨rfl, hbn⟩
          replace HF1 := Lib.hid (HF1.out.trans (Fr.only (Onl.below hbn) (by have := HS1.out.rd.lt; omega)))
          replace HS1 := Lib.hid (HS1.out.carry hbn)
          replace HM1 := Lib.hid (HM1.out.below hbn)
          replace hbn := Lib.hid hbn
          go_wp2_with fail
          have HC2 := Lib.hid (okOf (kind_any HS1.out 1 (by decide)) e2.out)
          refine HC2.out.mono ?_
          rintro e w3 ⟨rfl, ⟨at2, v2, dr, rd⟩, fr⟩
          have HS2 := Lib.hid (HS1.out.then (s := 1) (gd_kind 1 (by decide) (by decide) d r1 F2 r2 e2.out) dr rd)
          have HF2 := Lib.hid (HF1.out.trans fr)
          have HM2 := Lib.hid (HM1.out.fr fr (by omega))
          clear dr rd fr
          go_wp2_with fail
          have HC3 := Lib.hid (okOf (within_r (HS2.out) { data := #[40] } { data := #[41] } [40] [41] (by rw [ByteArray.toList_eq]) (by rw [ByteArray.toList_eq]) (fn_of (parameters_does (parameter_does N _ (by omega)) ((gd_typed 5 N).mono (by omega)) N (by omega)) (by intro args w; simp [go_sem])) (gd_listed ((gd_typed 5 N).mono (by omega)) N)) e3.out)
          refine HC3.out.mono ?_
          rintro e w4 ⟨rfl, ⟨at3, v3, dr, rd⟩, fr⟩
          have HS3 := Lib.hid (HS2.out.then (s := 2) (gd_within (o := [40]) (c := [41]) (gd_listed ((gd_typed 5 N).mono (by omega)) N) d r2 F3 r3 e3.out) dr rd)
          have HF3 := Lib.hid (HF2.out.trans fr)
          have HM3 := Lib.hid (HM2.out.fr fr (by omega))
          clear dr rd fr
          have hrd3 : Rd w4 b tb to tc T at3 d v3 (D ++ (F2.app F3).post) := by have := HS3.out.rd; simpa [post_app, y1.out, List.append_assoc] using this
          obtain ⟨a3, m3, cap3, a4, cap4, hv3, hcut, hrow, hle3⟩ := cut_row hrd3 dn hdn.out
          obtain ⟨cn, hcn⟩ : ∃ cn, (F2.app F3).cnt = cn := ⟨_, rfl⟩
          rw [hcn] at hcut
          obtain ⟨np, hnp⟩ : ∃ np, cntK 5 (F2.app F3).post = np := ⟨_, rfl⟩
          have c3 := hrd3.c3
          rw [hv3] at c3
          have hcn2 : cn ≤ 600000 := by have h1 := HS3.out.rm; have h2 := z1.out; simp [post_len] at h1; rw [cnt_app] at hcn; omega
          have HCN := Lib.hid (fun (w' : World) (hb : Below w4.heap.size w4 w') => count_any (cap := cap4) (Lib.hid (show (F2.app F3).post.length = cn by rw [post_len]; exact hcn)) hcn2 (Lib.hid (hrow.carry hb)) 5)
          rw [hnp] at HCN
          obtain ⟨m0, m1, m2, m3', m4, m5⟩ := HM3.out.at
          have k3 := fun D os => cell_regrown (w := w4) (a := ⟨b, 3, none⟩) (v := .slice a3 m3 cap3) c3 D os
          have k5 := fun D os => cell_regrown (w := w4) (a := ⟨w1.heap.size, 5, none⟩) (v := .int .i64 dn) m5 D os
          have cc : ∀ D os, Calls Try.prog 49 #[.slice a4 cn cap4, .int .u8 5] (grow (redrawn w4 D) os) fun e w'' => e = .returned (.int .i64 np) ∧ ∃ p : Regrown, w'' = grow (redrawn w4 p.d) p.os := fun D os => Calls.regrown_of (HCN.out _ (below_regrown _ _ _))
          replace hnp := Lib.hid hnp
          clear hrd3 hv3 hrow hcn m0 m1 m2 m3' m4 m5 c3
          go_wp2_with fail
          refine wp_region_quiet_below (by kernel_rfl) (by kernel_rfl) ?_
          repeat (quiet_step (first | with_reducible exact cc _ _))
          refine wpQuiet_nil ?_
          rintro _ ⟨⟨dq, osq⟩, rfl⟩
          have hbq := below_regrown w4 dq osq
          clear k3 k5 cc
          generalize grow (redrawn w4 dq) osq = wq at *
          replace HF3 := Lib.hid (HF3.out.trans (Fr.only (Onl.below hbq) (by have := HS3.out.rd.lt; omega)))
          replace HS3 := Lib.hid (HS3.out.carry hbq)
          replace HM3 := Lib.hid (HM3.out.below hbq)
          replace hbq := Lib.hid hbq
          clear hcut
          go_wp2_with fail
          have HC4 := Lib.hid (badOf (result_r (HS3.out) N (by omega)) e4.out)
          refine HC4.out.mono ?_
          rintro e w5 ⟨rfl, rf, fr⟩
          replace rf := Lib.hid rf
          replace fr := Lib.hid fr
          go_wp2_with fail
          go_ret
          exact ⟨rfl, rf.out, HF3.out.trans fr.out⟩
        | ok F4 r4 =>
          cases e5 : (blockOf (stmtP N) N) d r4 with
          | bad c l k =>
            rw [show (fnP N) d ts = .bad c l k by simp only [fnP, seqP, Out.bind, e1, e2, e3, e4, e5]]
            replace e1 := Lib.hid e1
            replace e2 := Lib.hid e2
            replace e3 := Lib.hid e3
            replace e4 := Lib.hid e4
            replace e5 := Lib.hid e5
            have hs := Lib.hid h
            replace ht := Lib.hid ht
            replace hX := Lib.hid hX
            replace hdn := Lib.hid hdn
            replace hv := Lib.hid hv
            clear h
            go_enter Try.func29, Try.ntmps29
            go_wp2_with fail
            refine HH.out.mono ?_
            rintro e w1 ⟨rfl, hb⟩
            have hbl1 := (hs.out.rd.carry hb).lt
            replace hb := Lib.hid hb
            go_wp2_with fail
            obtain ⟨W, hW⟩ : ∃ W, W = w1.alloc (.cells #[.int .u8 kd, .int .i64 ln, .int .i64 cl, .int .i64 nm, .string X, .int .i64 dn] 50) := ⟨_, rfl⟩
            rw [← hW]
            have HS0 : Hid (Sit W b tb to tc T at_ d v D n ts) := Lib.hid (by rw [hW]; exact (hs.out.carry hb.out).carry (below_alloc _ _))
            have HF0 : Hid (Fr b w W) := Lib.hid (by rw [hW]; exact (Fr.only (Onl.below hb.out) (by omega)).trans (Fr.only (Onl.below (below_alloc _ _)) (by omega)))
            have HM0 : Hid (SAt W w1.heap.size kd ln cl nm X dn) := Lib.hid (by rw [hW]; exact SAt.made w1 kd ln cl nm X dn)
            clear hW
            have HC1 := Lib.hid (okOf (take_any HS0.out { data := #[102, 110] } [102, 110] (by rw [ByteArray.toList_eq])) e1.out)
            refine HC1.out.mono ?_
            rintro e w2 ⟨rfl, ⟨at1, v1, dr, rd⟩, fr⟩
            have HS1 := Lib.hid (HS0.out.then (s := 1) (gd_take [102, 110] d ts F1 r1 e1.out) dr rd)
            have HF1 := Lib.hid (HF0.out.trans fr)
            have HM1 := Lib.hid (HM0.out.fr fr (by omega))
            clear dr rd fr
            have z1 : F1.cnt = 0 := by rw [nil_take e1.out]; rfl
            have y1 : F1.post = [] := by rw [nil_take e1.out]; rfl
            obtain ⟨⟨kd2, ln2, cl2, nm2, tx2⟩, ht2⟩ : ∃ t, hd r1 = t := ⟨_, rfl⟩
            obtain ⟨X2, hX2⟩ : ∃ X2, bs tx2 = X2 := ⟨_, rfl⟩
            have hF := tokF4 kd2 ln2 cl2 nm2 X2
            have HN0 := Lib.hid (HS1.out.next_at ht2 w2 (Below.refl _ _))
            rw [hX2] at HN0
            replace ht2 := Lib.hid ht2
            replace hX2 := Lib.hid hX2
            replace z1 := Lib.hid z1
            replace y1 := Lib.hid y1
            go_wp2_with fail
            refine HN0.out.mono ?_
            rintro e wn ⟨rfl, hbn⟩
            replace HF1 := Lib.hid (HF1.out.trans (Fr.only (Onl.below hbn) (by have := HS1.out.rd.lt; omega)))
            replace HS1 := Lib.hid (HS1.out.carry hbn)
            replace HM1 := Lib.hid (HM1.out.below hbn)
            replace hbn := Lib.hid hbn
            go_wp2_with fail
            have HC2 := Lib.hid (okOf (kind_any HS1.out 1 (by decide)) e2.out)
            refine HC2.out.mono ?_
            rintro e w3 ⟨rfl, ⟨at2, v2, dr, rd⟩, fr⟩
            have HS2 := Lib.hid (HS1.out.then (s := 1) (gd_kind 1 (by decide) (by decide) d r1 F2 r2 e2.out) dr rd)
            have HF2 := Lib.hid (HF1.out.trans fr)
            have HM2 := Lib.hid (HM1.out.fr fr (by omega))
            clear dr rd fr
            go_wp2_with fail
            have HC3 := Lib.hid (okOf (within_r (HS2.out) { data := #[40] } { data := #[41] } [40] [41] (by rw [ByteArray.toList_eq]) (by rw [ByteArray.toList_eq]) (fn_of (parameters_does (parameter_does N _ (by omega)) ((gd_typed 5 N).mono (by omega)) N (by omega)) (by intro args w; simp [go_sem])) (gd_listed ((gd_typed 5 N).mono (by omega)) N)) e3.out)
            refine HC3.out.mono ?_
            rintro e w4 ⟨rfl, ⟨at3, v3, dr, rd⟩, fr⟩
            have HS3 := Lib.hid (HS2.out.then (s := 2) (gd_within (o := [40]) (c := [41]) (gd_listed ((gd_typed 5 N).mono (by omega)) N) d r2 F3 r3 e3.out) dr rd)
            have HF3 := Lib.hid (HF2.out.trans fr)
            have HM3 := Lib.hid (HM2.out.fr fr (by omega))
            clear dr rd fr
            have hrd3 : Rd w4 b tb to tc T at3 d v3 (D ++ (F2.app F3).post) := by have := HS3.out.rd; simpa [post_app, y1.out, List.append_assoc] using this
            obtain ⟨a3, m3, cap3, a4, cap4, hv3, hcut, hrow, hle3⟩ := cut_row hrd3 dn hdn.out
            obtain ⟨cn, hcn⟩ : ∃ cn, (F2.app F3).cnt = cn := ⟨_, rfl⟩
            rw [hcn] at hcut
            obtain ⟨np, hnp⟩ : ∃ np, cntK 5 (F2.app F3).post = np := ⟨_, rfl⟩
            have c3 := hrd3.c3
            rw [hv3] at c3
            have hcn2 : cn ≤ 600000 := by have h1 := HS3.out.rm; have h2 := z1.out; simp [post_len] at h1; rw [cnt_app] at hcn; omega
            have HCN := Lib.hid (fun (w' : World) (hb : Below w4.heap.size w4 w') => count_any (cap := cap4) (Lib.hid (show (F2.app F3).post.length = cn by rw [post_len]; exact hcn)) hcn2 (Lib.hid (hrow.carry hb)) 5)
            rw [hnp] at HCN
            obtain ⟨m0, m1, m2, m3', m4, m5⟩ := HM3.out.at
            have k3 := fun D os => cell_regrown (w := w4) (a := ⟨b, 3, none⟩) (v := .slice a3 m3 cap3) c3 D os
            have k5 := fun D os => cell_regrown (w := w4) (a := ⟨w1.heap.size, 5, none⟩) (v := .int .i64 dn) m5 D os
            have cc : ∀ D os, Calls Try.prog 49 #[.slice a4 cn cap4, .int .u8 5] (grow (redrawn w4 D) os) fun e w'' => e = .returned (.int .i64 np) ∧ ∃ p : Regrown, w'' = grow (redrawn w4 p.d) p.os := fun D os => Calls.regrown_of (HCN.out _ (below_regrown _ _ _))
            replace hnp := Lib.hid hnp
            clear hrd3 hv3 hrow hcn m0 m1 m2 m3' m4 m5 c3
            go_wp2_with fail
            refine wp_region_quiet_below (by kernel_rfl) (by kernel_rfl) ?_
            repeat (quiet_step (first | with_reducible exact cc _ _))
            refine wpQuiet_nil ?_
            rintro _ ⟨⟨dq, osq⟩, rfl⟩
            have hbq := below_regrown w4 dq osq
            clear k3 k5 cc
            generalize grow (redrawn w4 dq) osq = wq at *
            replace HF3 := Lib.hid (HF3.out.trans (Fr.only (Onl.below hbq) (by have := HS3.out.rd.lt; omega)))
            replace HS3 := Lib.hid (HS3.out.carry hbq)
            replace HM3 := Lib.hid (HM3.out.below hbq)
            replace hbq := Lib.hid hbq
            clear hcut
            go_wp2_with fail
            have HC4 := Lib.hid (okOf (result_r (HS3.out) N (by omega)) e4.out)
            refine HC4.out.mono ?_
            rintro e w5 ⟨rfl, ⟨at4, v4, dr, rd⟩, fr⟩
            have HS4 := Lib.hid ((⟨rd, dr, (result_lft N e4.out).2.1 HS3.out.en, by have h1 := (result_lft N e4.out).1; have h2 := HS3.out.ln; omega, by have l1 := (gd_take [102, 110] d ts F1 r1 e1.out).1; have l2 := (gd_kind 1 (by decide) (by decide) d r1 F2 r2 e2.out).1; have l3 := (gd_within (o := [40]) (c := [41]) (gd_listed ((gd_typed 5 N).mono (by omega)) N) d r2 F3 r3 e3.out).1; have l4 := (result_lft N e4.out).1; have l0 := hs.out.rm; simp [post_len]; omega, HS3.out.dp⟩ : Sit w5 b tb to tc T at4 d v4 (D ++ F1.post ++ F2.post ++ F3.post ++ F4.post) (n - 1 - 1 - 2) r4))
            have HF4 := Lib.hid (HF3.out.trans fr)
            have HM4 := Lib.hid (HM3.out.fr fr (by omega))
            clear dr rd fr
            go_wp2_with fail
            have HC5 := Lib.hid (badOf ((block_does (n := N) (m := N) ((stmt_does N).mono (by omega)) (by omega)) (HS4.out.up (by omega))) e5.out)
            refine HC5.out.mono ?_
            rintro e w6 ⟨rfl, rf, fr⟩
            replace rf := Lib.hid rf
            replace fr := Lib.hid fr
            go_wp2_with fail
            go_ret
            exact ⟨rfl, rf.out, HF4.out.trans fr.out⟩
          | ok F5 r5 =>
            rw [show (fnP N) d ts = .ok (.cons (⟨4, (hd ts).line, (hd ts).col, (cntK 5 (F2.app F3).post : Nat), (hd r1).text⟩) ((F2.app F3).app (F4.app F5)) .nil) r5 by simp only [fnP, seqP, Out.bind, e1, e2, e3, e4, e5]]
            replace e1 := Lib.hid e1
            replace e2 := Lib.hid e2
            replace e3 := Lib.hid e3
            replace e4 := Lib.hid e4
            replace e5 := Lib.hid e5
            have hs := Lib.hid h
            replace ht := Lib.hid ht
            replace hX := Lib.hid hX
            replace hdn := Lib.hid hdn
            replace hv := Lib.hid hv
            clear h
            go_enter Try.func29, Try.ntmps29
            go_wp2_with fail
            refine HH.out.mono ?_
            rintro e w1 ⟨rfl, hb⟩
            have hbl1 := (hs.out.rd.carry hb).lt
            replace hb := Lib.hid hb
            go_wp2_with fail
            obtain ⟨W, hW⟩ : ∃ W, W = w1.alloc (.cells #[.int .u8 kd, .int .i64 ln, .int .i64 cl, .int .i64 nm, .string X, .int .i64 dn] 50) := ⟨_, rfl⟩
            rw [← hW]
            have HS0 : Hid (Sit W b tb to tc T at_ d v D n ts) := Lib.hid (by rw [hW]; exact (hs.out.carry hb.out).carry (below_alloc _ _))
            have HF0 : Hid (Fr b w W) := Lib.hid (by rw [hW]; exact (Fr.only (Onl.below hb.out) (by omega)).trans (Fr.only (Onl.below (below_alloc _ _)) (by omega)))
            have HM0 : Hid (SAt W w1.heap.size kd ln cl nm X dn) := Lib.hid (by rw [hW]; exact SAt.made w1 kd ln cl nm X dn)
            clear hW
            have HC1 := Lib.hid (okOf (take_any HS0.out { data := #[102, 110] } [102, 110] (by rw [ByteArray.toList_eq])) e1.out)
            refine HC1.out.mono ?_
            rintro e w2 ⟨rfl, ⟨at1, v1, dr, rd⟩, fr⟩
            have HS1 := Lib.hid (HS0.out.then (s := 1) (gd_take [102, 110] d ts F1 r1 e1.out) dr rd)
            have HF1 := Lib.hid (HF0.out.trans fr)
            have HM1 := Lib.hid (HM0.out.fr fr (by omega))
            clear dr rd fr
            have z1 : F1.cnt = 0 := by rw [nil_take e1.out]; rfl
            have y1 : F1.post = [] := by rw [nil_take e1.out]; rfl
            obtain ⟨⟨kd2, ln2, cl2, nm2, tx2⟩, ht2⟩ : ∃ t, hd r1 = t := ⟨_, rfl⟩
            obtain ⟨X2, hX2⟩ : ∃ X2, bs tx2 = X2 := ⟨_, rfl⟩
            have hF := tokF4 kd2 ln2 cl2 nm2 X2
            have HN0 := Lib.hid (HS1.out.next_at ht2 w2 (Below.refl _ _))
            rw [hX2] at HN0
            replace ht2 := Lib.hid ht2
            replace hX2 := Lib.hid hX2
            replace z1 := Lib.hid z1
            replace y1 := Lib.hid y1
            go_wp2_with fail
            refine HN0.out.mono ?_
            rintro e wn ⟨rfl, hbn⟩
            replace HF1 := Lib.hid (HF1.out.trans (Fr.only (Onl.below hbn) (by have := HS1.out.rd.lt; omega)))
            replace HS1 := Lib.hid (HS1.out.carry hbn)
            replace HM1 := Lib.hid (HM1.out.below hbn)
            replace hbn := Lib.hid hbn
            go_wp2_with fail
            have HC2 := Lib.hid (okOf (kind_any HS1.out 1 (by decide)) e2.out)
            refine HC2.out.mono ?_
            rintro e w3 ⟨rfl, ⟨at2, v2, dr, rd⟩, fr⟩
            have HS2 := Lib.hid (HS1.out.then (s := 1) (gd_kind 1 (by decide) (by decide) d r1 F2 r2 e2.out) dr rd)
            have HF2 := Lib.hid (HF1.out.trans fr)
            have HM2 := Lib.hid (HM1.out.fr fr (by omega))
            clear dr rd fr
            go_wp2_with fail
            have HC3 := Lib.hid (okOf (within_r (HS2.out) { data := #[40] } { data := #[41] } [40] [41] (by rw [ByteArray.toList_eq]) (by rw [ByteArray.toList_eq]) (fn_of (parameters_does (parameter_does N _ (by omega)) ((gd_typed 5 N).mono (by omega)) N (by omega)) (by intro args w; simp [go_sem])) (gd_listed ((gd_typed 5 N).mono (by omega)) N)) e3.out)
            refine HC3.out.mono ?_
            rintro e w4 ⟨rfl, ⟨at3, v3, dr, rd⟩, fr⟩
            have HS3 := Lib.hid (HS2.out.then (s := 2) (gd_within (o := [40]) (c := [41]) (gd_listed ((gd_typed 5 N).mono (by omega)) N) d r2 F3 r3 e3.out) dr rd)
            have HF3 := Lib.hid (HF2.out.trans fr)
            have HM3 := Lib.hid (HM2.out.fr fr (by omega))
            clear dr rd fr
            have hrd3 : Rd w4 b tb to tc T at3 d v3 (D ++ (F2.app F3).post) := by have := HS3.out.rd; simpa [post_app, y1.out, List.append_assoc] using this
            obtain ⟨a3, m3, cap3, a4, cap4, hv3, hcut, hrow, hle3⟩ := cut_row hrd3 dn hdn.out
            obtain ⟨cn, hcn⟩ : ∃ cn, (F2.app F3).cnt = cn := ⟨_, rfl⟩
            rw [hcn] at hcut
            obtain ⟨np, hnp⟩ : ∃ np, cntK 5 (F2.app F3).post = np := ⟨_, rfl⟩
            have c3 := hrd3.c3
            rw [hv3] at c3
            have hcn2 : cn ≤ 600000 := by have h1 := HS3.out.rm; have h2 := z1.out; simp [post_len] at h1; rw [cnt_app] at hcn; omega
            have HCN := Lib.hid (fun (w' : World) (hb : Below w4.heap.size w4 w') => count_any (cap := cap4) (Lib.hid (show (F2.app F3).post.length = cn by rw [post_len]; exact hcn)) hcn2 (Lib.hid (hrow.carry hb)) 5)
            rw [hnp] at HCN
            obtain ⟨m0, m1, m2, m3', m4, m5⟩ := HM3.out.at
            have k3 := fun D os => cell_regrown (w := w4) (a := ⟨b, 3, none⟩) (v := .slice a3 m3 cap3) c3 D os
            have k5 := fun D os => cell_regrown (w := w4) (a := ⟨w1.heap.size, 5, none⟩) (v := .int .i64 dn) m5 D os
            have cc : ∀ D os, Calls Try.prog 49 #[.slice a4 cn cap4, .int .u8 5] (grow (redrawn w4 D) os) fun e w'' => e = .returned (.int .i64 np) ∧ ∃ p : Regrown, w'' = grow (redrawn w4 p.d) p.os := fun D os => Calls.regrown_of (HCN.out _ (below_regrown _ _ _))
            replace hnp := Lib.hid hnp
            clear hrd3 hv3 hrow hcn m0 m1 m2 m3' m4 m5 c3
            go_wp2_with fail
            refine wp_region_quiet_below (by kernel_rfl) (by kernel_rfl) ?_
            repeat (quiet_step (first | with_reducible exact cc _ _))
            refine wpQuiet_nil ?_
            rintro _ ⟨⟨dq, osq⟩, rfl⟩
            have hbq := below_regrown w4 dq osq
            clear k3 k5 cc
            generalize grow (redrawn w4 dq) osq = wq at *
            replace HF3 := Lib.hid (HF3.out.trans (Fr.only (Onl.below hbq) (by have := HS3.out.rd.lt; omega)))
            replace HS3 := Lib.hid (HS3.out.carry hbq)
            replace HM3 := Lib.hid (HM3.out.below hbq)
            replace hbq := Lib.hid hbq
            clear hcut
            go_wp2_with fail
            have HC4 := Lib.hid (okOf (result_r (HS3.out) N (by omega)) e4.out)
            refine HC4.out.mono ?_
            rintro e w5 ⟨rfl, ⟨at4, v4, dr, rd⟩, fr⟩
            have HS4 := Lib.hid ((⟨rd, dr, (result_lft N e4.out).2.1 HS3.out.en, by have h1 := (result_lft N e4.out).1; have h2 := HS3.out.ln; omega, by have l1 := (gd_take [102, 110] d ts F1 r1 e1.out).1; have l2 := (gd_kind 1 (by decide) (by decide) d r1 F2 r2 e2.out).1; have l3 := (gd_within (o := [40]) (c := [41]) (gd_listed ((gd_typed 5 N).mono (by omega)) N) d r2 F3 r3 e3.out).1; have l4 := (result_lft N e4.out).1; have l0 := hs.out.rm; simp [post_len]; omega, HS3.out.dp⟩ : Sit w5 b tb to tc T at4 d v4 (D ++ F1.post ++ F2.post ++ F3.post ++ F4.post) (n - 1 - 1 - 2) r4))
            have HF4 := Lib.hid (HF3.out.trans fr)
            have HM4 := Lib.hid (HM3.out.fr fr (by omega))
            clear dr rd fr
            go_wp2_with fail
            have HC5 := Lib.hid (okOf ((block_does (n := N) (m := N) ((stmt_does N).mono (by omega)) (by omega)) (HS4.out.up (by omega))) e5.out)
            refine HC5.out.mono ?_
            rintro e w6 ⟨rfl, ⟨at5, v5, dr, rd⟩, fr⟩
            have HS5 := Lib.hid (HS4.out.then (s := 1) (gd_block (gd_stmt N) N d r4 F5 r5 e5.out) dr rd)
            have HF5 := Lib.hid (HF4.out.trans fr)
            have HM5 := Lib.hid (HM4.out.fr fr (by omega))
            clear dr rd fr
            obtain ⟨m0, m1, m2, m3, m4, m5⟩ := HM5.out.at
            go_wp2_with fail
            have HA := Lib.hid (add_any HS5.out.rd kd ln cl dn nm X 4 0 0 0 (np : Int) X2 ((F2.app F3).app (F4.app F5)).cnt (by have := hdn.out; have := z1.out; simp [post_len, cnt_app, Fo.cnt]; omega) (by have := HS5.out.rm; omega))
            refine HA.out.mono ?_
            rintro e wa ⟨rfl, ⟨va, rda⟩, fra⟩
            replace rda := Lib.hid rda
            replace fra := Lib.hid fra
            go_wp2_with fail
            go_ret
            exact ⟨rfl, ⟨at5, va, HS5.out.dr, rd_node rda.out (by simp [post_app, Fo.post, List.append_assoc, y1.out]) (by simp [mkK, mkX, mkY, mkN, Inf.nd, ht.out, ht2.out, hX2.out, hnp.out]; try rfl)⟩, HF5.out.trans fra.out⟩

set_option maxHeartbeats 400000 in
theorem declaration_r {w : World} {b tb to tc : Nat} {T : List Tok} {at_ d : Nat} {v : Value} {D : List Nd} {n : Nat} {ts : List Tok} (h : Sit w b tb to tc T at_ d v D n ts) {N : Nat} (hN : n ≤ N) : Calls Try.prog 18 #[pR b] w (Post b tb to tc T d D w ((declP N) d ts)) := by
  have hbl := h.rd.lt
  cases q0 : sees [114, 101, 99] ts with
  | true =>
    have HS := Lib.hid h
    have Q0 := Lib.hid (fun w' hb => sees_any (h.rd.carry (w' := w') hb) h.next { data := #[114, 101, 99] } [114, 101, 99] (by rw [ByteArray.toList_eq]) true q0)
    simp only [declP, iteP]
    rw [if_pos q0]
    have HCALL := Lib.hid (fun (w' : World) (hb : Below w.heap.size w w') => record_r (h.carry hb) q0 hN)
    clear h
    go_enter Try.func18, Try.ntmps18
    go_wp2_with fail
    refine (Q0.out _ (Below.refl _ _)).mono ?_
    rintro e w1 ⟨rfl, hb1⟩
    replace hb1 := Lib.hid hb1
    go_wp2_with fail
    refine (HCALL.out _ (hb1.out)).mono ?_
    rintro e wz ⟨rfl, hw⟩
    replace hw := Lib.hid hw
    go_wp2_with fail
    go_ret
    exact ⟨rfl, hw.out.back (Fr.only (Onl.below (hb1.out)) (by omega))⟩
  | false =>
    have HS := Lib.hid h
    have Q0 := Lib.hid (fun w' hb => sees_any (h.rd.carry (w' := w') hb) h.next { data := #[114, 101, 99] } [114, 101, 99] (by rw [ByteArray.toList_eq]) false q0)
    simp only [declP, iteP]
    rw [if_neg (show ¬ sees [114, 101, 99] ts = true by rw [q0]; simp)]
    have HCALL := Lib.hid (fun (w' : World) (hb : Below w.heap.size w w') => function_r (h.carry hb) hN)
    clear h
    go_enter Try.func18, Try.ntmps18
    go_wp2_with fail
    refine (Q0.out _ (Below.refl _ _)).mono ?_
    rintro e w1 ⟨rfl, hb1⟩
    replace hb1 := Lib.hid hb1
    go_wp2_with fail
    refine (HCALL.out _ (hb1.out)).mono ?_
    rintro e wz ⟨rfl, hw⟩
    replace hw := Lib.hid hw
    go_wp2_with fail
    go_ret
    exact ⟨rfl, hw.out.back (Fr.only (Onl.below (hb1.out)) (by omega))⟩

end Go.Proofs.Ytbknflaooemigaa
