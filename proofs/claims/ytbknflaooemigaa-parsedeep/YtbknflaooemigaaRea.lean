/-
  Contracts of parse.reader's anyType, signed, unary, nameOrCall, making and atom. Conditions: as said.
-/
import Derived.Test.YtbknflaooemigaaRdm
namespace Go.Proofs.Ytbknflaooemigaa
open Go.RowKit Go.Sort
set_option linter.unusedVariables false
set_option linter.unusedSimpArgs false

set_option maxHeartbeats 400000 in
theorem anyType_r {w : World} {b tb to tc : Nat} {T : List Tok} {at_ d : Nat} {v : Value} {D : List Nd} {n : Nat} {ts : List Tok} (h : Sit w b tb to tc T at_ d v D n ts) {p : Pt} (hp : Does 65 (n - 1) p) (hg : Gd 0 p) : Calls Try.prog 65 #[pR b] w (Post b tb to tc T d D w ((iteP [91] (listTypeP p) plainTypeP) d ts)) := by
  have hbl := h.rd.lt
  cases q0 : sees [91] ts with
  | true =>
    have HS := Lib.hid h
    have Q0 := Lib.hid (fun w' hb => sees_any (h.rd.carry (w' := w') hb) h.next { data := #[91] } [91] (by rw [ByteArray.toList_eq]) true q0)
    simp only [iteP]
    rw [if_pos q0]
    have HCALL := Lib.hid (fun (w' : World) (hb : Below w.heap.size w w') => listType_r (h.carry hb) hp hg)
    clear h
    go_enter Try.func65, Try.ntmps65
    go_wp2_with fail
    refine (Q0.out _ (Below.refl _ _)).mono ?_
    rintro e w1 ⟨rfl, hb1⟩
    replace hb1 := Lib.hid hb1
    go_wp2_with fail
    refine (HCALL.out _ (hb1.out)).mono ?_
    rintro e wz ⟨rfl, hw⟩
    replace hw := Lib.hid hw
    go_wp2_with fail
    go_ret
    exact ⟨rfl, hw.out.back (Fr.only (Onl.below (hb1.out)) (by omega))⟩
  | false =>
    have HS := Lib.hid h
    have Q0 := Lib.hid (fun w' hb => sees_any (h.rd.carry (w' := w') hb) h.next { data := #[91] } [91] (by rw [ByteArray.toList_eq]) false q0)
    simp only [iteP]
    rw [if_neg (show ¬ sees [91] ts = true by rw [q0]; simp)]
    have HCALL := Lib.hid (fun (w' : World) (hb : Below w.heap.size w w') => plainType_r (h.carry hb))
    clear h
    go_enter Try.func65, Try.ntmps65
    go_wp2_with fail
    refine (Q0.out _ (Below.refl _ _)).mono ?_
    rintro e w1 ⟨rfl, hb1⟩
    replace hb1 := Lib.hid hb1
    go_wp2_with fail
    refine (HCALL.out _ (hb1.out)).mono ?_
    rintro e wz ⟨rfl, hw⟩
    replace hw := Lib.hid hw
    go_wp2_with fail
    go_ret
    exact ⟨rfl, hw.out.back (Fr.only (Onl.below (hb1.out)) (by omega))⟩

theorem sit_pos {w : World} {b tb to tc : Nat} {T : List Tok} {at_ d : Nat} {v : Value} {D : List Nd} {ts : List Tok} (h : Sit w b tb to tc T at_ d v D 0 ts) : False := by
  obtain ⟨t, l, rfl⟩ := h.en.ne
  have := h.ln
  simp at this
theorem type_does (n : Nat) : Does 65 n (typeP n) := by
  induction n with
  | zero => intro w b tb to tc T at_ d v D ts h; exact (sit_pos h).elim
  | succ n ih => intro w b tb to tc T at_ d v D ts h; exact anyType_r h ih (gd_type n)
theorem listType_at {w : World} {b tb to tc : Nat} {T : List Tok} {at_ d : Nat} {v : Value} {D : List Nd} {n : Nat} {ts : List Tok} (h : Sit w b tb to tc T at_ d v D n ts) (N : Nat) (hN : n ≤ N + 1) : Calls Try.prog 75 #[pR b] w (Post b tb to tc T d D w (listTypeP (typeP N) d ts)) :=
  listType_r h ((type_does N).mono (by omega)) (gd_type N)

set_option maxHeartbeats 1000000 in
theorem signed_r {w : World} {b tb to tc : Nat} {T : List Tok} {at_ d : Nat} {v : Value} {D : List Nd} {n : Nat} {ts : List Tok} (h : Sit w b tb to tc T at_ d v D n ts) {U : Pt} {x : List UInt8} (hq : sees x ts = true) (hU : Does 81 (n - 1) U) (hg : Gd 0 U) (op : Int) : Calls Try.prog 89 #[pR b, .int .i64 op] w (Post b tb to tc T d D w (nodeP (mkN 30 op) (deeperP U) d ts)) := by
  have hbl := h.rd.lt
  have hk0 : (hd ts).kind ≠ 8 := by obtain ⟨t, l, rfl, hk, _⟩ := sees_cons hq; simp [hd]; omega
  obtain ⟨⟨kd, ln, cl, nm, tx⟩, ht⟩ : ∃ t, hd ts = t := ⟨_, rfl⟩
  obtain ⟨a, cap, hv⟩ := own_slice h.rd.own
  obtain ⟨X, hX⟩ : ∃ X, bs tx = X := ⟨_, rfl⟩
  obtain ⟨dn, hdn⟩ : ∃ dn, D.length = dn := ⟨_, rfl⟩
  have HH : Hid (Calls Try.prog 43 #[pR b] w fun e w' => e = .returned (sV kd ln cl nm X dn) ∧ Below w.heap.size w w') := Lib.hid (by have := here_any h ht dn hdn a cap (by rw [hv, hdn]); rw [hX] at this; exact this)
  cases e1 : (deeperP U) d ts with
  | bad c l k =>
    rw [show (nodeP (mkN 30 op) (deeperP U)) d ts = .bad c l k by simp only [nodeP, Out.bind, e1]]
    replace e1 := Lib.hid e1
    have hs := Lib.hid h
    replace ht := Lib.hid ht
    replace hX := Lib.hid hX
    replace hdn := Lib.hid hdn
    replace hv := Lib.hid hv
    clear h
    go_enter Try.func89, Try.ntmps89
    go_wp2_with fail
    refine HH.out.mono ?_
    rintro e w1 ⟨rfl, hb⟩
    have hbl1 := (hs.out.rd.carry hb).lt
    replace hb := Lib.hid hb
    go_wp2_with fail
    obtain ⟨W, hW⟩ : ∃ W, W = w1.alloc (.cells #[.int .u8 kd, .int .i64 ln, .int .i64 cl, .int .i64 nm, .string X, .int .i64 dn] 50) := ⟨_, rfl⟩
    rw [← hW]
    have HS0 : Hid (Sit W b tb to tc T at_ d v D n ts) := Lib.hid (by rw [hW]; exact (hs.out.carry hb.out).carry (below_alloc _ _))
    have HF0 : Hid (Fr b w W) := Lib.hid (by rw [hW]; exact (Fr.only (Onl.below hb.out) (by omega)).trans (Fr.only (Onl.below (below_alloc _ _)) (by omega)))
    have HM0 : Hid (SAt W w1.heap.size kd ln cl nm X dn) := Lib.hid (by rw [hW]; exact SAt.made w1 kd ln cl nm X dn)
    clear hW
    have HC1 := Lib.hid (badOf (deeper_any (HS0.out) hk0 (fn_of hU (by intro args w; simp [go_sem]))) e1.out)
    refine HC1.out.mono ?_
    rintro e w2 ⟨rfl, rf, fr⟩
    replace rf := Lib.hid rf
    replace fr := Lib.hid fr
    go_wp2_with fail
    go_ret
    exact ⟨rfl, rf.out, HF0.out.trans fr.out⟩
  | ok F1 r1 =>
    rw [show (nodeP (mkN 30 op) (deeperP U)) d ts = .ok (.cons (mkN 30 op ts) (F1) .nil) r1 by simp only [nodeP, Out.bind, e1]]
    replace e1 := Lib.hid e1
    have hs := Lib.hid h
    replace ht := Lib.hid ht
    replace hX := Lib.hid hX
    replace hdn := Lib.hid hdn
    replace hv := Lib.hid hv
    clear h
    go_enter Try.func89, Try.ntmps89
    go_wp2_with fail
    refine HH.out.mono ?_
    rintro e w1 ⟨rfl, hb⟩
    have hbl1 := (hs.out.rd.carry hb).lt
    replace hb := Lib.hid hb
    go_wp2_with fail
    obtain ⟨W, hW⟩ : ∃ W, W = w1.alloc (.cells #[.int .u8 kd, .int .i64 ln, .int .i64 cl, .int .i64 nm, .string X, .int .i64 dn] 50) := ⟨_, rfl⟩
    rw [← hW]
    have HS0 : Hid (Sit W b tb to tc T at_ d v D n ts) := Lib.hid (by rw [hW]; exact (hs.out.carry hb.out).carry (below_alloc _ _))
    have HF0 : Hid (Fr b w W) := Lib.hid (by rw [hW]; exact (Fr.only (Onl.below hb.out) (by omega)).trans (Fr.only (Onl.below (below_alloc _ _)) (by omega)))
    have HM0 : Hid (SAt W w1.heap.size kd ln cl nm X dn) := Lib.hid (by rw [hW]; exact SAt.made w1 kd ln cl nm X dn)
    clear hW
    have HC1 := Lib.hid (okOf (deeper_any (HS0.out) hk0 (fn_of hU (by intro args w; simp [go_sem]))) e1.out)
    refine HC1.out.mono ?_
    rintro e w2 ⟨rfl, ⟨at1, v1, dr, rd⟩, fr⟩
    have HS1 := Lib.hid (HS0.out.then (s := 1) (ga_deeper (d := d) hq hg F1 r1 e1.out) dr rd)
    have HF1 := Lib.hid (HF0.out.trans fr)
    have HM1 := Lib.hid (HM0.out.fr fr (by omega))
    clear dr rd fr
    obtain ⟨m0, m1, m2, m3, m4, m5⟩ := HM1.out.at
    go_wp2_with fail
    have HA := Lib.hid (add_any HS1.out.rd kd ln cl dn nm X 30 0 0 0 op { data := #[] } (F1).cnt (by have := hdn.out; simp [post_len, cnt_app, Fo.cnt]; omega) (by have := HS1.out.rm; omega))
    refine HA.out.mono ?_
    rintro e wa ⟨rfl, ⟨va, rda⟩, fra⟩
    replace rda := Lib.hid rda
    replace fra := Lib.hid fra
    go_wp2_with fail
    go_ret
    exact ⟨rfl, ⟨at1, va, HS1.out.dr, rd_node rda.out (by simp [post_app, Fo.post, List.append_assoc]) (by simp [mkK, mkX, mkY, mkN, Inf.nd, ht.out]; try rfl)⟩, HF1.out.trans fra.out⟩

set_option maxHeartbeats 400000 in
theorem unary_r {w : World} {b tb to tc : Nat} {T : List Tok} {at_ d : Nat} {v : Value} {D : List Nd} {n : Nat} {ts : List Tok} (h : Sit w b tb to tc T at_ d v D n ts) {U p : Pt} (hU : Does 81 (n - 1) U) (hg : Gd 0 U) (hp : Does 90 n p) : Calls Try.prog 81 #[pR b] w (Post b tb to tc T d D w ((unaryOf U p) d ts)) := by
  have hbl := h.rd.lt
  cases q0 : sees [45] ts with
  | true =>
    have HS := Lib.hid h
    have Q0 := Lib.hid (fun w' hb => sees_any (h.rd.carry (w' := w') hb) h.next { data := #[45] } [45] (by rw [ByteArray.toList_eq]) true q0)
    unfold unaryOf
    rw [if_pos q0]
    have HCALL := Lib.hid (fun (w' : World) (hb : Below w.heap.size w w') => signed_r (h.carry hb) q0 hU hg 12)
    clear h
    go_enter Try.func81, Try.ntmps81
    go_wp2_with fail
    refine (Q0.out _ (Below.refl _ _)).mono ?_
    rintro e w1 ⟨rfl, hb1⟩
    replace hb1 := Lib.hid hb1
    go_wp2_with fail
    refine (HCALL.out _ (hb1.out)).mono ?_
    rintro e wz ⟨rfl, hw⟩
    replace hw := Lib.hid hw
    go_wp2_with fail
    go_ret
    exact ⟨rfl, hw.out.back (Fr.only (Onl.below (hb1.out)) (by omega))⟩
  | false =>
    cases q1 : sees [33] ts with
    | true =>
      have HS := Lib.hid h
      have Q0 := Lib.hid (fun w' hb => sees_any (h.rd.carry (w' := w') hb) h.next { data := #[45] } [45] (by rw [ByteArray.toList_eq]) false q0)
      have Q1 := Lib.hid (fun w' hb => sees_any (h.rd.carry (w' := w') hb) h.next { data := #[33] } [33] (by rw [ByteArray.toList_eq]) true q1)
      unfold unaryOf
      rw [if_neg (show ¬ sees [45] ts = true by rw [q0]; simp), if_pos q1]
      have HCALL := Lib.hid (fun (w' : World) (hb : Below w.heap.size w w') => signed_r (h.carry hb) q1 hU hg 13)
      clear h
      go_enter Try.func81, Try.ntmps81
      go_wp2_with fail
      refine (Q0.out _ (Below.refl _ _)).mono ?_
      rintro e w1 ⟨rfl, hb1⟩
      replace hb1 := Lib.hid hb1
      go_wp2_with fail
      refine (Q1.out _ (hb1.out)).mono ?_
      rintro e w2 ⟨rfl, hb2⟩
      replace hb2 := Lib.hid (below_step hb1.out hb2)
      go_wp2_with fail
      refine (HCALL.out _ (hb2.out)).mono ?_
      rintro e wz ⟨rfl, hw⟩
      replace hw := Lib.hid hw
      go_wp2_with fail
      go_ret
      exact ⟨rfl, hw.out.back (Fr.only (Onl.below (hb2.out)) (by omega))⟩
    | false =>
      have HS := Lib.hid h
      have Q0 := Lib.hid (fun w' hb => sees_any (h.rd.carry (w' := w') hb) h.next { data := #[45] } [45] (by rw [ByteArray.toList_eq]) false q0)
      have Q1 := Lib.hid (fun w' hb => sees_any (h.rd.carry (w' := w') hb) h.next { data := #[33] } [33] (by rw [ByteArray.toList_eq]) false q1)
      unfold unaryOf
      rw [if_neg (show ¬ sees [45] ts = true by rw [q0]; simp), if_neg (show ¬ sees [33] ts = true by rw [q1]; simp)]
      have HCALL := Lib.hid (fun (w' : World) (hb : Below w.heap.size w w') => hp (h.carry hb))
      clear h
      go_enter Try.func81, Try.ntmps81
      go_wp2_with fail
      refine (Q0.out _ (Below.refl _ _)).mono ?_
      rintro e w1 ⟨rfl, hb1⟩
      replace hb1 := Lib.hid hb1
      go_wp2_with fail
      refine (Q1.out _ (hb1.out)).mono ?_
      rintro e w2 ⟨rfl, hb2⟩
      replace hb2 := Lib.hid (below_step hb1.out hb2)
      go_wp2_with fail
      refine (HCALL.out _ (hb2.out)).mono ?_
      rintro e wz ⟨rfl, hw⟩
      replace hw := Lib.hid hw
      go_wp2_with fail
      go_ret
      exact ⟨rfl, hw.out.back (Fr.only (Onl.below (hb2.out)) (by omega))⟩

set_option maxHeartbeats 1000000 in
theorem name_plain {w : World} {b tb to tc : Nat} {T : List Tok} {at_ d : Nat} {v : Value} {D : List Nd} {n : Nat} {ts : List Tok} (h : Sit w b tb to tc T at_ d v D n ts) {E : Pt} {N : Nat} (hk1 : (hd ts).kind = 1) (hq : sees [40] ts.tail = false) : Calls Try.prog 94 #[pR b] w (Post b tb to tc T d D w (nameP E N d ts)) := by
  have hbl := h.rd.lt
  obtain ⟨⟨kd, ln, cl, nm, tx⟩, ht⟩ : ∃ t, hd ts = t := ⟨_, rfl⟩
  obtain ⟨a, cap, hv⟩ := own_slice h.rd.own
  obtain ⟨X, hX⟩ : ∃ X, bs tx = X := ⟨_, rfl⟩
  obtain ⟨dn, hdn⟩ : ∃ dn, D.length = dn := ⟨_, rfl⟩
  have HH : Hid (Calls Try.prog 43 #[pR b] w fun e w' => e = .returned (sV kd ln cl nm X dn) ∧ Below w.heap.size w w') := Lib.hid (by have := here_any h ht dn hdn a cap (by rw [hv, hdn]); rw [hX] at this; exact this)
  have hk : (hd ts).kind ≠ 8 := by rw [hk1]; decide
  have hlt : at_ < T.length := (List.getElem?_eq_some_iff.1 h.next).1
  have htn := h.rd.tn
  have hn : at_ < 1000000 := by omega
  replace hk := Lib.hid hk
  rw [show (nameP E N) d ts = .ok (.cons (mkX 26 ts) (Fo.nil) .nil) ts.tail by simp only [nameP, hq, Bool.false_eq_true, if_false]]
  have hs := Lib.hid h
  replace hq := Lib.hid hq
  replace ht := Lib.hid ht
  replace hX := Lib.hid hX
  replace hdn := Lib.hid hdn
  replace hv := Lib.hid hv
  clear h hlt htn
  go_enter Try.func94, Try.ntmps94
  go_wp2_with fail
  refine HH.out.mono ?_
  rintro e w1 ⟨rfl, hb⟩
  have c1 := (hs.out.rd.carry hb).c1
  have fz := (hs.out.rd.carry hb).fz
  have hbl1 := (hs.out.rd.carry hb).lt
  have HT := (hs.out.carry hb).tail ((hs.out.carry hb).rd.bump (at_ + 1)) hk.out
  rw [show ((at_ + 1 : Nat) : Int) = (at_ : Int) + 1 by omega] at HT
  replace HT := Lib.hid HT
  replace hb := Lib.hid hb
  go_wp2_with fail
  obtain ⟨W, hW⟩ : ∃ W, W = (w1.setCell ⟨b, 1, none⟩ (.int .i64 ((at_ : Int) + 1))).alloc (.cells #[.int .u8 kd, .int .i64 ln, .int .i64 cl, .int .i64 nm, .string X, .int .i64 dn] 50) := ⟨_, rfl⟩
  rw [← hW]
  have HS0 : Hid (Sit W b tb to tc T (at_ + 1) d v D (n - 1) ts.tail) := Lib.hid (by rw [hW]; exact HT.out.carry (below_alloc _ _))
  have HF0 : Hid (Fr b w W) := Lib.hid (by rw [hW]; exact ((Fr.only (Onl.below hb.out) (by omega)).trans (Fr.only (Onl.set _ _ _ _) (by omega))).trans (Fr.only (Onl.below (below_alloc _ _)) (by simp; omega)))
  have HM0 : Hid (SAt W w1.heap.size kd ln cl nm X dn) := Lib.hid (by rw [hW]; have := SAt.made (w1.setCell ⟨b, 1, none⟩ (.int .i64 ((at_ : Int) + 1))) kd ln cl nm X dn; simpa using this)
  clear hW HT c1 fz
  have HQ0 := Lib.hid (sees_any HS0.out.rd HS0.out.next { data := #[40] } [40] (by rw [ByteArray.toList_eq]) false hq.out)
  refine HQ0.out.mono ?_
  rintro e wq ⟨rfl, hbq⟩
  replace HF0 := Lib.hid (HF0.out.trans (Fr.only (Onl.below hbq) (by have := HS0.out.rd.lt; omega)))
  replace HS0 := Lib.hid (HS0.out.carry hbq)
  replace HM0 := Lib.hid (HM0.out.below hbq)
  replace hbq := Lib.hid hbq
  obtain ⟨m0, m1, m2, m3, m4, m5⟩ := HM0.out.at
  go_wp2_with fail
  have HA := Lib.hid (add_any HS0.out.rd kd ln cl dn nm X 26 0 0 0 0 X (Fo.nil).cnt (by have := hdn.out; simp [post_len, cnt_app, Fo.cnt]; omega) (by have := HS0.out.rm; omega))
  refine HA.out.mono ?_
  rintro e wa ⟨rfl, ⟨va, rda⟩, fra⟩
  replace rda := Lib.hid rda
  replace fra := Lib.hid fra
  go_wp2_with fail
  go_ret
  exact ⟨rfl, ⟨(at_ + 1), va, HS0.out.dr, rd_node rda.out (by simp [post_app, Fo.post, List.append_assoc]) (by simp [mkK, mkX, mkY, mkN, Inf.nd, ht.out, hX.out]; try rfl)⟩, HF0.out.trans fra.out⟩

set_option maxHeartbeats 1000000 in
theorem name_call {w : World} {b tb to tc : Nat} {T : List Tok} {at_ d : Nat} {v : Value} {D : List Nd} {n : Nat} {ts : List Tok} (h : Sit w b tb to tc T at_ d v D n ts) {E : Pt} {N : Nat} (hk1 : (hd ts).kind = 1) (hq : sees [40] ts.tail = true) (hE : Does 10 (n - 2) E) (hg : Gd 0 E) (hN : n ≤ N + 2) : Calls Try.prog 94 #[pR b] w (Post b tb to tc T d D w (nameP E N d ts)) := by
  have hbl := h.rd.lt
  obtain ⟨⟨kd, ln, cl, nm, tx⟩, ht⟩ : ∃ t, hd ts = t := ⟨_, rfl⟩
  obtain ⟨a, cap, hv⟩ := own_slice h.rd.own
  obtain ⟨X, hX⟩ : ∃ X, bs tx = X := ⟨_, rfl⟩
  obtain ⟨dn, hdn⟩ : ∃ dn, D.length = dn := ⟨_, rfl⟩
  have HH : Hid (Calls Try.prog 43 #[pR b] w fun e w' => e = .returned (sV kd ln cl nm X dn) ∧ Below w.heap.size w w') := Lib.hid (by have := here_any h ht dn hdn a cap (by rw [hv, hdn]); rw [hX] at this; exact this)
  have hk : (hd ts).kind ≠ 8 := by rw [hk1]; decide
  have hlt : at_ < T.length := (List.getElem?_eq_some_iff.1 h.next).1
  have htn := h.rd.tn
  have hn : at_ < 1000000 := by omega
  replace hk := Lib.hid hk
  cases e1 : (withinP [40] [41] (listedP E N)) d ts.tail with
  | bad c l k =>
    rw [show (nameP E N) d ts = .bad c l k by simp only [nameP, nodeP, afterP, hq, if_true, Out.bind, e1]]
    replace e1 := Lib.hid e1
    have hs := Lib.hid h
    replace hq := Lib.hid hq
    replace ht := Lib.hid ht
    replace hX := Lib.hid hX
    replace hdn := Lib.hid hdn
    replace hv := Lib.hid hv
    clear h hlt htn
    go_enter Try.func94, Try.ntmps94
    go_wp2_with fail
    refine HH.out.mono ?_
    rintro e w1 ⟨rfl, hb⟩
    have c1 := (hs.out.rd.carry hb).c1
    have fz := (hs.out.rd.carry hb).fz
    have hbl1 := (hs.out.rd.carry hb).lt
    have HT := (hs.out.carry hb).tail ((hs.out.carry hb).rd.bump (at_ + 1)) hk.out
    rw [show ((at_ + 1 : Nat) : Int) = (at_ : Int) + 1 by omega] at HT
    replace HT := Lib.hid HT
    replace hb := Lib.hid hb
    go_wp2_with fail
    obtain ⟨W, hW⟩ : ∃ W, W = (w1.setCell ⟨b, 1, none⟩ (.int .i64 ((at_ : Int) + 1))).alloc (.cells #[.int .u8 kd, .int .i64 ln, .int .i64 cl, .int .i64 nm, .string X, .int .i64 dn] 50) := ⟨_, rfl⟩
    rw [← hW]
    have HS0 : Hid (Sit W b tb to tc T (at_ + 1) d v D (n - 1) ts.tail) := Lib.hid (by rw [hW]; exact HT.out.carry (below_alloc _ _))
    have HF0 : Hid (Fr b w W) := Lib.hid (by rw [hW]; exact ((Fr.only (Onl.below hb.out) (by omega)).trans (Fr.only (Onl.set _ _ _ _) (by omega))).trans (Fr.only (Onl.below (below_alloc _ _)) (by simp; omega)))
    have HM0 : Hid (SAt W w1.heap.size kd ln cl nm X dn) := Lib.hid (by rw [hW]; have := SAt.made (w1.setCell ⟨b, 1, none⟩ (.int .i64 ((at_ : Int) + 1))) kd ln cl nm X dn; simpa using this)
    clear hW HT c1 fz
    have HQ0 := Lib.hid (sees_any HS0.out.rd HS0.out.next { data := #[40] } [40] (by rw [ByteArray.toList_eq]) true hq.out)
    refine HQ0.out.mono ?_
    rintro e wq ⟨rfl, hbq⟩
    replace HF0 := Lib.hid (HF0.out.trans (Fr.only (Onl.below hbq) (by have := HS0.out.rd.lt; omega)))
    replace HS0 := Lib.hid (HS0.out.carry hbq)
    replace HM0 := Lib.hid (HM0.out.below hbq)
    replace hbq := Lib.hid hbq
    go_wp2_with fail
    have HC1 := Lib.hid (badOf (within_r (HS0.out) { data := #[40] } { data := #[41] } [40] [41] (by rw [ByteArray.toList_eq]) (by rw [ByteArray.toList_eq]) (fn_of (arguments_does (n := n - 1 - 1) (hE.mono (by omega)) hg N (by omega)) (by intro args w; simp [go_sem])) (gd_listed hg N)) e1.out)
    refine HC1.out.mono ?_
    rintro e w2 ⟨rfl, rf, fr⟩
    replace rf := Lib.hid rf
    replace fr := Lib.hid fr
    go_wp2_with fail
    go_ret
    exact ⟨rfl, rf.out, HF0.out.trans fr.out⟩
  | ok F1 r1 =>
    rw [show (nameP E N) d ts = .ok (.cons (mkX 27 ts) (F1) .nil) r1 by simp only [nameP, nodeP, afterP, hq, if_true, Out.bind, e1]]
    replace e1 := Lib.hid e1
    have hs := Lib.hid h
    replace hq := Lib.hid hq
    replace ht := Lib.hid ht
    replace hX := Lib.hid hX
    replace hdn := Lib.hid hdn
    replace hv := Lib.hid hv
    clear h hlt htn
    go_enter Try.func94, Try.ntmps94
    go_wp2_with fail
    refine HH.out.mono ?_
    rintro e w1 ⟨rfl, hb⟩
    have c1 := (hs.out.rd.carry hb).c1
    have fz := (hs.out.rd.carry hb).fz
    have hbl1 := (hs.out.rd.carry hb).lt
    have HT := (hs.out.carry hb).tail ((hs.out.carry hb).rd.bump (at_ + 1)) hk.out
    rw [show ((at_ + 1 : Nat) : Int) = (at_ : Int) + 1 by omega] at HT
    replace HT := Lib.hid HT
    replace hb := Lib.hid hb
    go_wp2_with fail
    obtain ⟨W, hW⟩ : ∃ W, W = (w1.setCell ⟨b, 1, none⟩ (.int .i64 ((at_ : Int) + 1))).alloc (.cells #[.int .u8 kd, .int .i64 ln, .int .i64 cl, .int .i64 nm, .string X, .int .i64 dn] 50) := ⟨_, rfl⟩
    rw [← hW]
    have HS0 : Hid (Sit W b tb to tc T (at_ + 1) d v D (n - 1) ts.tail) := Lib.hid (by rw [hW]; exact HT.out.carry (below_alloc _ _))
    have HF0 : Hid (Fr b w W) := Lib.hid (by rw [hW]; exact ((Fr.only (Onl.below hb.out) (by omega)).trans (Fr.only (Onl.set _ _ _ _) (by omega))).trans (Fr.only (Onl.below (below_alloc _ _)) (by simp; omega)))
    have HM0 : Hid (SAt W w1.heap.size kd ln cl nm X dn) := Lib.hid (by rw [hW]; have := SAt.made (w1.setCell ⟨b, 1, none⟩ (.int .i64 ((at_ : Int) + 1))) kd ln cl nm X dn; simpa using this)
    clear hW HT c1 fz
    have HQ0 := Lib.hid (sees_any HS0.out.rd HS0.out.next { data := #[40] } [40] (by rw [ByteArray.toList_eq]) true hq.out)
    refine HQ0.out.mono ?_
    rintro e wq ⟨rfl, hbq⟩
    replace HF0 := Lib.hid (HF0.out.trans (Fr.only (Onl.below hbq) (by have := HS0.out.rd.lt; omega)))
    replace HS0 := Lib.hid (HS0.out.carry hbq)
    replace HM0 := Lib.hid (HM0.out.below hbq)
    replace hbq := Lib.hid hbq
    go_wp2_with fail
    have HC1 := Lib.hid (okOf (within_r (HS0.out) { data := #[40] } { data := #[41] } [40] [41] (by rw [ByteArray.toList_eq]) (by rw [ByteArray.toList_eq]) (fn_of (arguments_does (n := n - 1 - 1) (hE.mono (by omega)) hg N (by omega)) (by intro args w; simp [go_sem])) (gd_listed hg N)) e1.out)
    refine HC1.out.mono ?_
    rintro e w2 ⟨rfl, ⟨at1, v1, dr, rd⟩, fr⟩
    have HS1 := Lib.hid (HS0.out.then (s := 2) (gd_within (o := [40]) (c := [41]) (gd_listed hg N) d ts.tail F1 r1 e1.out) dr rd)
    have HF1 := Lib.hid (HF0.out.trans fr)
    have HM1 := Lib.hid (HM0.out.fr fr (by omega))
    clear dr rd fr
    obtain ⟨m0, m1, m2, m3, m4, m5⟩ := HM1.out.at
    go_wp2_with fail
    have HA := Lib.hid (add_any HS1.out.rd kd ln cl dn nm X 27 0 0 0 0 X (F1).cnt (by have := hdn.out; simp [post_len, cnt_app, Fo.cnt]; omega) (by have := HS1.out.rm; omega))
    refine HA.out.mono ?_
    rintro e wa ⟨rfl, ⟨va, rda⟩, fra⟩
    replace rda := Lib.hid rda
    replace fra := Lib.hid fra
    go_wp2_with fail
    go_ret
    exact ⟨rfl, ⟨at1, va, HS1.out.dr, rd_node rda.out (by simp [post_app, Fo.post, List.append_assoc]) (by simp [mkK, mkX, mkY, mkN, Inf.nd, ht.out, hX.out]; try rfl)⟩, HF1.out.trans fra.out⟩

theorem name_r {w : World} {b tb to tc : Nat} {T : List Tok} {at_ d : Nat} {v : Value} {D : List Nd} {n : Nat} {ts : List Tok} (h : Sit w b tb to tc T at_ d v D n ts) {E : Pt} {N : Nat} (hk1 : (hd ts).kind = 1) (hE : Does 10 (n - 2) E) (hg : Gd 0 E) (hN : n ≤ N + 2) : Calls Try.prog 94 #[pR b] w (Post b tb to tc T d D w (nameP E N d ts)) := by
  cases hq : sees [40] ts.tail with
  | true => exact name_call h hk1 hq hE hg hN
  | false => exact name_plain h hk1 hq

set_option maxHeartbeats 1000000 in
theorem make_rec {w : World} {b tb to tc : Nat} {T : List Tok} {at_ d : Nat} {v : Value} {D : List Nd} {n : Nat} {ts : List Tok} (h : Sit w b tb to tc T at_ d v D n ts) {E : Pt} {N : Nat} (hm : sees [109, 97, 107, 101] ts = true) (hq : (hd ts.tail).kind = 2) : Calls Try.prog 93 #[pR b] w (Post b tb to tc T d D w (makeP E N d ts)) := by
  have hbl := h.rd.lt
  obtain ⟨⟨kd, ln, cl, nm, tx⟩, ht⟩ : ∃ t, hd ts = t := ⟨_, rfl⟩
  obtain ⟨a, cap, hv⟩ := own_slice h.rd.own
  obtain ⟨X, hX⟩ : ∃ X, bs tx = X := ⟨_, rfl⟩
  obtain ⟨dn, hdn⟩ : ∃ dn, D.length = dn := ⟨_, rfl⟩
  have HH : Hid (Calls Try.prog 43 #[pR b] w fun e w' => e = .returned (sV kd ln cl nm X dn) ∧ Below w.heap.size w w') := Lib.hid (by have := here_any h ht dn hdn a cap (by rw [hv, hdn]); rw [hX] at this; exact this)
  have hk : (hd ts).kind ≠ 8 := by obtain ⟨t, l, rfl, hk, _⟩ := sees_cons hm; simp [hd]; omega
  have hlt : at_ < T.length := (List.getElem?_eq_some_iff.1 h.next).1
  have htn := h.rd.tn
  have hn : at_ < 1000000 := by omega
  replace hk := Lib.hid hk
  obtain ⟨⟨kd3, ln3, cl3, nm3, tx3⟩, hp2⟩ : ∃ t, hd ts.tail = t := ⟨_, rfl⟩
  have hF := tokF0 kd3 ln3 cl3 nm3 (bs tx3)
  have k3 : ((kd3 : Int) == 2) = true := by rw [hp2] at hq; simp at hq; rw [hq]; rfl
  cases e1 : (plainTypeP) d ts.tail with
  | bad c l k =>
    rw [show (makeP E N) d ts = .bad c l k by simp only [makeP, nodeP, afterP, seqP, hq, if_true, Out.bind, e1]]
    replace e1 := Lib.hid e1
    have hs := Lib.hid h
    replace hp2 := Lib.hid hp2
    replace hq := Lib.hid hq
    replace ht := Lib.hid ht
    replace hX := Lib.hid hX
    replace hdn := Lib.hid hdn
    replace hv := Lib.hid hv
    clear h hlt htn
    go_enter Try.func93, Try.ntmps93
    go_wp2_with fail
    refine HH.out.mono ?_
    rintro e w1 ⟨rfl, hb⟩
    have c1 := (hs.out.rd.carry hb).c1
    have fz := (hs.out.rd.carry hb).fz
    have hbl1 := (hs.out.rd.carry hb).lt
    have HT := (hs.out.carry hb).tail ((hs.out.carry hb).rd.bump (at_ + 1)) hk.out
    rw [show ((at_ + 1 : Nat) : Int) = (at_ : Int) + 1 by omega] at HT
    replace HT := Lib.hid HT
    replace hb := Lib.hid hb
    go_wp2_with fail
    obtain ⟨W, hW⟩ : ∃ W, W = (w1.setCell ⟨b, 1, none⟩ (.int .i64 ((at_ : Int) + 1))).alloc (.cells #[.int .u8 kd, .int .i64 ln, .int .i64 cl, .int .i64 nm, .string X, .int .i64 dn] 50) := ⟨_, rfl⟩
    rw [← hW]
    have HS0 : Hid (Sit W b tb to tc T (at_ + 1) d v D (n - 1) ts.tail) := Lib.hid (by rw [hW]; exact HT.out.carry (below_alloc _ _))
    have HF0 : Hid (Fr b w W) := Lib.hid (by rw [hW]; exact ((Fr.only (Onl.below hb.out) (by omega)).trans (Fr.only (Onl.set _ _ _ _) (by omega))).trans (Fr.only (Onl.below (below_alloc _ _)) (by simp; omega)))
    have HM0 : Hid (SAt W w1.heap.size kd ln cl nm X dn) := Lib.hid (by rw [hW]; have := SAt.made (w1.setCell ⟨b, 1, none⟩ (.int .i64 ((at_ : Int) + 1))) kd ln cl nm X dn; simpa using this)
    clear hW HT c1 fz
    have HQ0 := Lib.hid (HS0.out.next_at hp2.out W (Below.refl _ _))
    refine HQ0.out.mono ?_
    rintro e wq ⟨rfl, hbq⟩
    replace HF0 := Lib.hid (HF0.out.trans (Fr.only (Onl.below hbq) (by have := HS0.out.rd.lt; omega)))
    replace HS0 := Lib.hid (HS0.out.carry hbq)
    replace HM0 := Lib.hid (HM0.out.below hbq)
    replace hbq := Lib.hid hbq
    go_wp2_with fail
    have HC1 := Lib.hid (badOf (plainType_r (HS0.out)) e1.out)
    refine HC1.out.mono ?_
    rintro e w2 ⟨rfl, rf, fr⟩
    replace rf := Lib.hid rf
    replace fr := Lib.hid fr
    go_wp2_with fail
    go_ret
    exact ⟨rfl, rf.out, HF0.out.trans fr.out⟩
  | ok F1 r1 =>
    cases e2 : (withinP [40] [41] nothingP) d r1 with
    | bad c l k =>
      rw [show (makeP E N) d ts = .bad c l k by simp only [makeP, nodeP, afterP, seqP, hq, if_true, Out.bind, e1, e2]]
      replace e1 := Lib.hid e1
      replace e2 := Lib.hid e2
      have hs := Lib.hid h
      replace hp2 := Lib.hid hp2
      replace hq := Lib.hid hq
      replace ht := Lib.hid ht
      replace hX := Lib.hid hX
      replace hdn := Lib.hid hdn
      replace hv := Lib.hid hv
      clear h hlt htn
      go_enter Try.func93, Try.ntmps93
      go_wp2_with fail
      refine HH.out.mono ?_
      rintro e w1 ⟨rfl, hb⟩
      have c1 := (hs.out.rd.carry hb).c1
      have fz := (hs.out.rd.carry hb).fz
      have hbl1 := (hs.out.rd.carry hb).lt
      have HT := (hs.out.carry hb).tail ((hs.out.carry hb).rd.bump (at_ + 1)) hk.out
      rw [show ((at_ + 1 : Nat) : Int) = (at_ : Int) + 1 by omega] at HT
      replace HT := Lib.hid HT
      replace hb := Lib.hid hb
      go_wp2_with fail
      obtain ⟨W, hW⟩ : ∃ W, W = (w1.setCell ⟨b, 1, none⟩ (.int .i64 ((at_ : Int) + 1))).alloc (.cells #[.int .u8 kd, .int .i64 ln, .int .i64 cl, .int .i64 nm, .string X, .int .i64 dn] 50) := ⟨_, rfl⟩
      rw [← hW]
      have HS0 : Hid (Sit W b tb to tc T (at_ + 1) d v D (n - 1) ts.tail) := Lib.hid (by rw [hW]; exact HT.out.carry (below_alloc _ _))
      have HF0 : Hid (Fr b w W) := Lib.hid (by rw [hW]; exact ((Fr.only (Onl.below hb.out) (by omega)).trans (Fr.only (Onl.set _ _ _ _) (by omega))).trans (Fr.only (Onl.below (below_alloc _ _)) (by simp; omega)))
      have HM0 : Hid (SAt W w1.heap.size kd ln cl nm X dn) := Lib.hid (by rw [hW]; have := SAt.made (w1.setCell ⟨b, 1, none⟩ (.int .i64 ((at_ : Int) + 1))) kd ln cl nm X dn; simpa using this)
      clear hW HT c1 fz
      have HQ0 := Lib.hid (HS0.out.next_at hp2.out W (Below.refl _ _))
      refine HQ0.out.mono ?_
      rintro e wq ⟨rfl, hbq⟩
      replace HF0 := Lib.hid (HF0.out.trans (Fr.only (Onl.below hbq) (by have := HS0.out.rd.lt; omega)))
      replace HS0 := Lib.hid (HS0.out.carry hbq)
      replace HM0 := Lib.hid (HM0.out.below hbq)
      replace hbq := Lib.hid hbq
      go_wp2_with fail
      have HC1 := Lib.hid (okOf (plainType_r (HS0.out)) e1.out)
      refine HC1.out.mono ?_
      rintro e w2 ⟨rfl, ⟨at1, v1, dr, rd⟩, fr⟩
      have HS1 := Lib.hid (HS0.out.then (s := 0) (gd_plainType d ts.tail F1 r1 e1.out) dr rd)
      have HF1 := Lib.hid (HF0.out.trans fr)
      have HM1 := Lib.hid (HM0.out.fr fr (by omega))
      clear dr rd fr
      go_wp2_with fail
      have HC2 := Lib.hid (badOf (within_r (HS1.out) { data := #[40] } { data := #[41] } [40] [41] (by rw [ByteArray.toList_eq]) (by rw [ByteArray.toList_eq]) (fn_of (nothing_does _) (by intro args w; simp [go_sem])) gd_nothing) e2.out)
      refine HC2.out.mono ?_
      rintro e w3 ⟨rfl, rf, fr⟩
      replace rf := Lib.hid rf
      replace fr := Lib.hid fr
      go_wp2_with fail
      go_ret
      exact ⟨rfl, rf.out, HF1.out.trans fr.out⟩
    | ok F2 r2 =>
      rw [show (makeP E N) d ts = .ok (.cons (mkK 32 ts) (F1.app F2) .nil) r2 by simp only [makeP, nodeP, afterP, seqP, hq, if_true, Out.bind, e1, e2]]
      replace e1 := Lib.hid e1
      replace e2 := Lib.hid e2
      have hs := Lib.hid h
      replace hp2 := Lib.hid hp2
      replace hq := Lib.hid hq
      replace ht := Lib.hid ht
      replace hX := Lib.hid hX
      replace hdn := Lib.hid hdn
      replace hv := Lib.hid hv
      clear h hlt htn
      go_enter Try.func93, Try.ntmps93
      go_wp2_with fail
      refine HH.out.mono ?_
      rintro e w1 ⟨rfl, hb⟩
      have c1 := (hs.out.rd.carry hb).c1
      have fz := (hs.out.rd.carry hb).fz
      have hbl1 := (hs.out.rd.carry hb).lt
      have HT := (hs.out.carry hb).tail ((hs.out.carry hb).rd.bump (at_ + 1)) hk.out
      rw [show ((at_ + 1 : Nat) : Int) = (at_ : Int) + 1 by omega] at HT
      replace HT := Lib.hid HT
      replace hb := Lib.hid hb
      go_wp2_with fail
      obtain ⟨W, hW⟩ : ∃ W, W = (w1.setCell ⟨b, 1, none⟩ (.int .i64 ((at_ : Int) + 1))).alloc (.cells #[.int .u8 kd, .int .i64 ln, .int .i64 cl, .int .i64 nm, .string X, .int .i64 dn] 50) := ⟨_, rfl⟩
      rw [← hW]
      have HS0 : Hid (Sit W b tb to tc T (at_ + 1) d v D (n - 1) ts.tail) := Lib.hid (by rw [hW]; exact HT.out.carry (below_alloc _ _))
      have HF0 : Hid (Fr b w W) := Lib.hid (by rw [hW]; exact ((Fr.only (Onl.below hb.out) (by omega)).trans (Fr.only (Onl.set _ _ _ _) (by omega))).trans (Fr.only (Onl.below (below_alloc _ _)) (by simp; omega)))
      have HM0 : Hid (SAt W w1.heap.size kd ln cl nm X dn) := Lib.hid (by rw [hW]; have := SAt.made (w1.setCell ⟨b, 1, none⟩ (.int .i64 ((at_ : Int) + 1))) kd ln cl nm X dn; simpa using this)
      clear hW HT c1 fz
      have HQ0 := Lib.hid (HS0.out.next_at hp2.out W (Below.refl _ _))
      refine HQ0.out.mono ?_
      rintro e wq ⟨rfl, hbq⟩
      replace HF0 := Lib.hid (HF0.out.trans (Fr.only (Onl.below hbq) (by have := HS0.out.rd.lt; omega)))
      replace HS0 := Lib.hid (HS0.out.carry hbq)
      replace HM0 := Lib.hid (HM0.out.below hbq)
      replace hbq := Lib.hid hbq
      go_wp2_with fail
      have HC1 := Lib.hid (okOf (plainType_r (HS0.out)) e1.out)
      refine HC1.out.mono ?_
      rintro e w2 ⟨rfl, ⟨at1, v1, dr, rd⟩, fr⟩
      have HS1 := Lib.hid (HS0.out.then (s := 0) (gd_plainType d ts.tail F1 r1 e1.out) dr rd)
      have HF1 := Lib.hid (HF0.out.trans fr)
      have HM1 := Lib.hid (HM0.out.fr fr (by omega))
      clear dr rd fr
      go_wp2_with fail
      have HC2 := Lib.hid (okOf (within_r (HS1.out) { data := #[40] } { data := #[41] } [40] [41] (by rw [ByteArray.toList_eq]) (by rw [ByteArray.toList_eq]) (fn_of (nothing_does _) (by intro args w; simp [go_sem])) gd_nothing) e2.out)
      refine HC2.out.mono ?_
      rintro e w3 ⟨rfl, ⟨at2, v2, dr, rd⟩, fr⟩
      have HS2 := Lib.hid (HS1.out.then (s := 2) (gd_within (o := [40]) (c := [41]) gd_nothing d r1 F2 r2 e2.out) dr rd)
      have HF2 := Lib.hid (HF1.out.trans fr)
      have HM2 := Lib.hid (HM1.out.fr fr (by omega))
      clear dr rd fr
      obtain ⟨m0, m1, m2, m3, m4, m5⟩ := HM2.out.at
      go_wp2_with fail
      have HA := Lib.hid (add_any HS2.out.rd kd ln cl dn nm X 32 0 0 0 0 { data := #[] } (F1.app F2).cnt (by have := hdn.out; simp [post_len, cnt_app, Fo.cnt]; omega) (by have := HS2.out.rm; omega))
      refine HA.out.mono ?_
      rintro e wa ⟨rfl, ⟨va, rda⟩, fra⟩
      replace rda := Lib.hid rda
      replace fra := Lib.hid fra
      go_wp2_with fail
      go_ret
      exact ⟨rfl, ⟨at2, va, HS2.out.dr, rd_node rda.out (by simp [post_app, Fo.post, List.append_assoc]) (by simp [mkK, mkX, mkY, mkN, Inf.nd, ht.out]; try rfl)⟩, HF2.out.trans fra.out⟩

set_option maxHeartbeats 1000000 in
theorem make_list {w : World} {b tb to tc : Nat} {T : List Tok} {at_ d : Nat} {v : Value} {D : List Nd} {n : Nat} {ts : List Tok} (h : Sit w b tb to tc T at_ d v D n ts) {E : Pt} {N : Nat} (hm : sees [109, 97, 107, 101] ts = true) (hq : ¬ (hd ts.tail).kind = 2) (hE : Does 10 (n - 2) E) (hg : Gd 0 E) (hN : n ≤ N + 2) : Calls Try.prog 93 #[pR b] w (Post b tb to tc T d D w (makeP E N d ts)) := by
  have hbl := h.rd.lt
  obtain ⟨⟨kd, ln, cl, nm, tx⟩, ht⟩ : ∃ t, hd ts = t := ⟨_, rfl⟩
  obtain ⟨a, cap, hv⟩ := own_slice h.rd.own
  obtain ⟨X, hX⟩ : ∃ X, bs tx = X := ⟨_, rfl⟩
  obtain ⟨dn, hdn⟩ : ∃ dn, D.length = dn := ⟨_, rfl⟩
  have HH : Hid (Calls Try.prog 43 #[pR b] w fun e w' => e = .returned (sV kd ln cl nm X dn) ∧ Below w.heap.size w w') := Lib.hid (by have := here_any h ht dn hdn a cap (by rw [hv, hdn]); rw [hX] at this; exact this)
  have hk : (hd ts).kind ≠ 8 := by obtain ⟨t, l, rfl, hk, _⟩ := sees_cons hm; simp [hd]; omega
  have hlt : at_ < T.length := (List.getElem?_eq_some_iff.1 h.next).1
  have htn := h.rd.tn
  have hn : at_ < 1000000 := by omega
  replace hk := Lib.hid hk
  obtain ⟨⟨kd3, ln3, cl3, nm3, tx3⟩, hp2⟩ : ∃ t, hd ts.tail = t := ⟨_, rfl⟩
  have hF := tokF0 kd3 ln3 cl3 nm3 (bs tx3)
  have k3 : ((kd3 : Int) == 2) = false := by rw [hp2] at hq; simp at hq; rw [beq_eq_false_iff_ne]; omega
  cases e1 : (listTypeP (typeP N)) d ts.tail with
  | bad c l k =>
    rw [show (makeP E N) d ts = .bad c l k by simp only [makeP, nodeP, afterP, seqP, hq, if_false, Out.bind, e1]]
    replace e1 := Lib.hid e1
    have hs := Lib.hid h
    replace hp2 := Lib.hid hp2
    replace hq := Lib.hid hq
    replace ht := Lib.hid ht
    replace hX := Lib.hid hX
    replace hdn := Lib.hid hdn
    replace hv := Lib.hid hv
    clear h hlt htn
    go_enter Try.func93, Try.ntmps93
    go_wp2_with fail
    refine HH.out.mono ?_
    rintro e w1 ⟨rfl, hb⟩
    have c1 := (hs.out.rd.carry hb).c1
    have fz := (hs.out.rd.carry hb).fz
    have hbl1 := (hs.out.rd.carry hb).lt
    have HT := (hs.out.carry hb).tail ((hs.out.carry hb).rd.bump (at_ + 1)) hk.out
    rw [show ((at_ + 1 : Nat) : Int) = (at_ : Int) + 1 by omega] at HT
    replace HT := Lib.hid HT
    replace hb := Lib.hid hb
    go_wp2_with fail
    obtain ⟨W, hW⟩ : ∃ W, W = (w1.setCell ⟨b, 1, none⟩ (.int .i64 ((at_ : Int) + 1))).alloc (.cells #[.int .u8 kd, .int .i64 ln, .int .i64 cl, .int .i64 nm, .string X, .int .i64 dn] 50) := ⟨_, rfl⟩
    rw [← hW]
    have HS0 : Hid (Sit W b tb to tc T (at_ + 1) d v D (n - 1) ts.tail) := Lib.hid (by rw [hW]; exact HT.out.carry (below_alloc _ _))
    have HF0 : Hid (Fr b w W) := Lib.hid (by rw [hW]; exact ((Fr.only (Onl.below hb.out) (by omega)).trans (Fr.only (Onl.set _ _ _ _) (by omega))).trans (Fr.only (Onl.below (below_alloc _ _)) (by simp; omega)))
    have HM0 : Hid (SAt W w1.heap.size kd ln cl nm X dn) := Lib.hid (by rw [hW]; have := SAt.made (w1.setCell ⟨b, 1, none⟩ (.int .i64 ((at_ : Int) + 1))) kd ln cl nm X dn; simpa using this)
    clear hW HT c1 fz
    have HQ0 := Lib.hid (HS0.out.next_at hp2.out W (Below.refl _ _))
    refine HQ0.out.mono ?_
    rintro e wq ⟨rfl, hbq⟩
    replace HF0 := Lib.hid (HF0.out.trans (Fr.only (Onl.below hbq) (by have := HS0.out.rd.lt; omega)))
    replace HS0 := Lib.hid (HS0.out.carry hbq)
    replace HM0 := Lib.hid (HM0.out.below hbq)
    replace hbq := Lib.hid hbq
    go_wp2_with fail
    have HC1 := Lib.hid (badOf (listType_at (HS0.out) N (by omega)) e1.out)
    refine HC1.out.mono ?_
    rintro e w2 ⟨rfl, rf, fr⟩
    replace rf := Lib.hid rf
    replace fr := Lib.hid fr
    go_wp2_with fail
    go_ret
    exact ⟨rfl, rf.out, HF0.out.trans fr.out⟩
  | ok F1 r1 =>
    cases e2 : (withinP [40] [41] E) d r1 with
    | bad c l k =>
      rw [show (makeP E N) d ts = .bad c l k by simp only [makeP, nodeP, afterP, seqP, hq, if_false, Out.bind, e1, e2]]
      replace e1 := Lib.hid e1
      replace e2 := Lib.hid e2
      have hs := Lib.hid h
      replace hp2 := Lib.hid hp2
      replace hq := Lib.hid hq
      replace ht := Lib.hid ht
      replace hX := Lib.hid hX
      replace hdn := Lib.hid hdn
      replace hv := Lib.hid hv
      clear h hlt htn
      go_enter Try.func93, Try.ntmps93
      go_wp2_with fail
      refine HH.out.mono ?_
      rintro e w1 ⟨rfl, hb⟩
      have c1 := (hs.out.rd.carry hb).c1
      have fz := (hs.out.rd.carry hb).fz
      have hbl1 := (hs.out.rd.carry hb).lt
      have HT := (hs.out.carry hb).tail ((hs.out.carry hb).rd.bump (at_ + 1)) hk.out
      rw [show ((at_ + 1 : Nat) : Int) = (at_ : Int) + 1 by omega] at HT
      replace HT := Lib.hid HT
      replace hb := Lib.hid hb
      go_wp2_with fail
      obtain ⟨W, hW⟩ : ∃ W, W = (w1.setCell ⟨b, 1, none⟩ (.int .i64 ((at_ : Int) + 1))).alloc (.cells #[.int .u8 kd, .int .i64 ln, .int .i64 cl, .int .i64 nm, .string X, .int .i64 dn] 50) := ⟨_, rfl⟩
      rw [← hW]
      have HS0 : Hid (Sit W b tb to tc T (at_ + 1) d v D (n - 1) ts.tail) := Lib.hid (by rw [hW]; exact HT.out.carry (below_alloc _ _))
      have HF0 : Hid (Fr b w W) := Lib.hid (by rw [hW]; exact ((Fr.only (Onl.below hb.out) (by omega)).trans (Fr.only (Onl.set _ _ _ _) (by omega))).trans (Fr.only (Onl.below (below_alloc _ _)) (by simp; omega)))
      have HM0 : Hid (SAt W w1.heap.size kd ln cl nm X dn) := Lib.hid (by rw [hW]; have := SAt.made (w1.setCell ⟨b, 1, none⟩ (.int .i64 ((at_ : Int) + 1))) kd ln cl nm X dn; simpa using this)
      clear hW HT c1 fz
      have HQ0 := Lib.hid (HS0.out.next_at hp2.out W (Below.refl _ _))
      refine HQ0.out.mono ?_
      rintro e wq ⟨rfl, hbq⟩
      replace HF0 := Lib.hid (HF0.out.trans (Fr.only (Onl.below hbq) (by have := HS0.out.rd.lt; omega)))
      replace HS0 := Lib.hid (HS0.out.carry hbq)
      replace HM0 := Lib.hid (HM0.out.below hbq)
      replace hbq := Lib.hid hbq
      go_wp2_with fail
      have HC1 := Lib.hid (okOf (listType_at (HS0.out) N (by omega)) e1.out)
      refine HC1.out.mono ?_
      rintro e w2 ⟨rfl, ⟨at1, v1, dr, rd⟩, fr⟩
      have HS1 := Lib.hid (HS0.out.then (s := 1) (gd_listType (gd_type N) d ts.tail F1 r1 e1.out) dr rd)
      have HF1 := Lib.hid (HF0.out.trans fr)
      have HM1 := Lib.hid (HM0.out.fr fr (by omega))
      clear dr rd fr
      go_wp2_with fail
      have HC2 := Lib.hid (badOf (within_r (HS1.out) { data := #[40] } { data := #[41] } [40] [41] (by rw [ByteArray.toList_eq]) (by rw [ByteArray.toList_eq]) (fn_of (hE.mono (by omega)) (by intro args w; simp [go_sem])) hg) e2.out)
      refine HC2.out.mono ?_
      rintro e w3 ⟨rfl, rf, fr⟩
      replace rf := Lib.hid rf
      replace fr := Lib.hid fr
      go_wp2_with fail
      go_ret
      exact ⟨rfl, rf.out, HF1.out.trans fr.out⟩
    | ok F2 r2 =>
      rw [show (makeP E N) d ts = .ok (.cons (mkK 32 ts) (F1.app F2) .nil) r2 by simp only [makeP, nodeP, afterP, seqP, hq, if_false, Out.bind, e1, e2]]
      replace e1 := Lib.hid e1
      replace e2 := Lib.hid e2
      have hs := Lib.hid h
      replace hp2 := Lib.hid hp2
      replace hq := Lib.hid hq
      replace ht := Lib.hid ht
      replace hX := Lib.hid hX
      replace hdn := Lib.hid hdn
      replace hv := Lib.hid hv
      clear h hlt htn
      go_enter Try.func93, Try.ntmps93
      go_wp2_with fail
      refine HH.out.mono ?_
      rintro e w1 ⟨rfl, hb⟩
      have c1 := (hs.out.rd.carry hb).c1
      have fz := (hs.out.rd.carry hb).fz
      have hbl1 := (hs.out.rd.carry hb).lt
      have HT := (hs.out.carry hb).tail ((hs.out.carry hb).rd.bump (at_ + 1)) hk.out
      rw [show ((at_ + 1 : Nat) : Int) = (at_ : Int) + 1 by omega] at HT
      replace HT := Lib.hid HT
      replace hb := Lib.hid hb
      go_wp2_with fail
      obtain ⟨W, hW⟩ : ∃ W, W = (w1.setCell ⟨b, 1, none⟩ (.int .i64 ((at_ : Int) + 1))).alloc (.cells #[.int .u8 kd, .int .i64 ln, .int .i64 cl, .int .i64 nm, .string X, .int .i64 dn] 50) := ⟨_, rfl⟩
      rw [← hW]
      have HS0 : Hid (Sit W b tb to tc T (at_ + 1) d v D (n - 1) ts.tail) := Lib.hid (by rw [hW]; exact HT.out.carry (below_alloc _ _))
      have HF0 : Hid (Fr b w W) := Lib.hid (by rw [hW]; exact ((Fr.only (Onl.below hb.out) (by omega)).trans (Fr.only (Onl.set _ _ _ _) (by omega))).trans (Fr.only (Onl.below (below_alloc _ _)) (by simp; omega)))
      have HM0 : Hid (SAt W w1.heap.size kd ln cl nm X dn) := Lib.hid (by rw [hW]; have := SAt.made (w1.setCell ⟨b, 1, none⟩ (.int .i64 ((at_ : Int) + 1))) kd ln cl nm X dn; simpa using this)
      clear hW HT c1 fz
      have HQ0 := Lib.hid (HS0.out.next_at hp2.out W (Below.refl _ _))
      refine HQ0.out.mono ?_
      rintro e wq ⟨rfl, hbq⟩
      replace HF0 := Lib.hid (HF0.out.trans (Fr.only (Onl.below hbq) (by have := HS0.out.rd.lt; omega)))
      replace HS0 := Lib.hid (HS0.out.carry hbq)
      replace HM0 := Lib.hid (HM0.out.below hbq)
      replace hbq := Lib.hid hbq
      go_wp2_with fail
      have HC1 := Lib.hid (okOf (listType_at (HS0.out) N (by omega)) e1.out)
      refine HC1.out.mono ?_
      rintro e w2 ⟨rfl, ⟨at1, v1, dr, rd⟩, fr⟩
      have HS1 := Lib.hid (HS0.out.then (s := 1) (gd_listType (gd_type N) d ts.tail F1 r1 e1.out) dr rd)
      have HF1 := Lib.hid (HF0.out.trans fr)
      have HM1 := Lib.hid (HM0.out.fr fr (by omega))
      clear dr rd fr
      go_wp2_with fail
      have HC2 := Lib.hid (okOf (within_r (HS1.out) { data := #[40] } { data := #[41] } [40] [41] (by rw [ByteArray.toList_eq]) (by rw [ByteArray.toList_eq]) (fn_of (hE.mono (by omega)) (by intro args w; simp [go_sem])) hg) e2.out)
      refine HC2.out.mono ?_
      rintro e w3 ⟨rfl, ⟨at2, v2, dr, rd⟩, fr⟩
      have HS2 := Lib.hid (HS1.out.then (s := 2) (gd_within (o := [40]) (c := [41]) hg d r1 F2 r2 e2.out) dr rd)
      have HF2 := Lib.hid (HF1.out.trans fr)
      have HM2 := Lib.hid (HM1.out.fr fr (by omega))
      clear dr rd fr
      obtain ⟨m0, m1, m2, m3, m4, m5⟩ := HM2.out.at
      go_wp2_with fail
      have HA := Lib.hid (add_any HS2.out.rd kd ln cl dn nm X 32 0 0 0 0 { data := #[] } (F1.app F2).cnt (by have := hdn.out; simp [post_len, cnt_app, Fo.cnt]; omega) (by have := HS2.out.rm; omega))
      refine HA.out.mono ?_
      rintro e wa ⟨rfl, ⟨va, rda⟩, fra⟩
      replace rda := Lib.hid rda
      replace fra := Lib.hid fra
      go_wp2_with fail
      go_ret
      exact ⟨rfl, ⟨at2, va, HS2.out.dr, rd_node rda.out (by simp [post_app, Fo.post, List.append_assoc]) (by simp [mkK, mkX, mkY, mkN, Inf.nd, ht.out]; try rfl)⟩, HF2.out.trans fra.out⟩

theorem make_r {w : World} {b tb to tc : Nat} {T : List Tok} {at_ d : Nat} {v : Value} {D : List Nd} {n : Nat} {ts : List Tok} (h : Sit w b tb to tc T at_ d v D n ts) {E : Pt} {N : Nat} (hm : sees [109, 97, 107, 101] ts = true) (hE : Does 10 (n - 2) E) (hg : Gd 0 E) (hN : n ≤ N + 2) : Calls Try.prog 93 #[pR b] w (Post b tb to tc T d D w (makeP E N d ts)) := by
  by_cases hq : (hd ts.tail).kind = 2
  · exact make_rec h hm hq
  · exact make_list h hm hq hE hg hN

set_option maxHeartbeats 400000 in
theorem atom_r {w : World} {b tb to tc : Nat} {T : List Tok} {at_ d : Nat} {v : Value} {D : List Nd} {n : Nat} {ts : List Tok} (h : Sit w b tb to tc T at_ d v D n ts) {E : Pt} {N : Nat} (hE : Does 10 (n - 1) E) (hg : Gd 0 E) (hN : n ≤ N + 2) : Calls Try.prog 91 #[pR b] w (Post b tb to tc T d D w ((atomP E N) d ts)) := by
  have hbl := h.rd.lt
  obtain ⟨⟨kd, ln, cl, nm, tx⟩, ht⟩ : ∃ t, hd ts = t := ⟨_, rfl⟩
  obtain ⟨X, hX⟩ : ∃ X, bs tx = X := ⟨_, rfl⟩
  have hF := tokF0 kd ln cl nm X
  cases q0 : sees [40] ts with
  | true =>
    have HS := Lib.hid h
    have Q0 := Lib.hid (fun w' hb => sees_any (h.rd.carry (w' := w') hb) h.next { data := #[40] } [40] (by rw [ByteArray.toList_eq]) true q0)
    unfold atomP
    rw [if_pos q0]
    have HCALL := Lib.hid (fun (w' : World) (hb : Below w.heap.size w w') => within_r (h.carry hb) { data := #[40] } { data := #[41] } [40] [41] (by rw [ByteArray.toList_eq]) (by rw [ByteArray.toList_eq]) (fn_of hE (by intro args w; simp [go_sem])) hg)
    clear h ht hX
    go_enter Try.func91, Try.ntmps91
    go_wp2_with fail
    refine (Q0.out _ (Below.refl _ _)).mono ?_
    rintro e w1 ⟨rfl, hb1⟩
    replace hb1 := Lib.hid hb1
    go_wp2_with fail
    refine (HCALL.out _ (hb1.out)).mono ?_
    rintro e wz ⟨rfl, hw⟩
    replace hw := Lib.hid hw
    go_wp2_with fail
    go_ret
    exact ⟨rfl, hw.out.back (Fr.only (Onl.below (hb1.out)) (by omega))⟩
  | false =>
    cases q1 : sees [109, 97, 107, 101] ts with
    | true =>
      have HS := Lib.hid h
      have Q0 := Lib.hid (fun w' hb => sees_any (h.rd.carry (w' := w') hb) h.next { data := #[40] } [40] (by rw [ByteArray.toList_eq]) false q0)
      have Q1 := Lib.hid (fun w' hb => sees_any (h.rd.carry (w' := w') hb) h.next { data := #[109, 97, 107, 101] } [109, 97, 107, 101] (by rw [ByteArray.toList_eq]) true q1)
      unfold atomP
      rw [if_neg (show ¬ sees [40] ts = true by rw [q0]; simp), if_pos q1]
      have HCALL := Lib.hid (fun (w' : World) (hb : Below w.heap.size w w') => make_r (h.carry hb) q1 (hE.mono (by omega)) hg hN)
      clear h ht hX
      go_enter Try.func91, Try.ntmps91
      go_wp2_with fail
      refine (Q0.out _ (Below.refl _ _)).mono ?_
      rintro e w1 ⟨rfl, hb1⟩
      replace hb1 := Lib.hid hb1
      go_wp2_with fail
      refine (Q1.out _ (hb1.out)).mono ?_
      rintro e w2 ⟨rfl, hb2⟩
      replace hb2 := Lib.hid (below_step hb1.out hb2)
      go_wp2_with fail
      refine (HCALL.out _ (hb2.out)).mono ?_
      rintro e wz ⟨rfl, hw⟩
      replace hw := Lib.hid hw
      go_wp2_with fail
      go_ret
      exact ⟨rfl, hw.out.back (Fr.only (Onl.below (hb2.out)) (by omega))⟩
    | false =>
      by_cases q2 : (hd ts).kind = 1
      · have hdum := True.intro
        have HS := Lib.hid h
        have Q0 := Lib.hid (fun w' hb => sees_any (h.rd.carry (w' := w') hb) h.next { data := #[40] } [40] (by rw [ByteArray.toList_eq]) false q0)
        have Q1 := Lib.hid (fun w' hb => sees_any (h.rd.carry (w' := w') hb) h.next { data := #[109, 97, 107, 101] } [109, 97, 107, 101] (by rw [ByteArray.toList_eq]) false q1)
        have Q2 := Lib.hid (fun w' hb => h.next_at ht w' hb)
        rw [hX] at Q2
        have k2 : ((kd : Int) == 1) = true := by rw [ht] at q2; simp at q2; rw [q2]; rfl
        unfold atomP
        rw [if_neg (show ¬ sees [40] ts = true by rw [q0]; simp), if_neg (show ¬ sees [109, 97, 107, 101] ts = true by rw [q1]; simp), if_pos q2]
        have HCALL := Lib.hid (fun (w' : World) (hb : Below w.heap.size w w') => name_r (h.carry hb) q2 (hE.mono (by omega)) hg hN)
        clear h ht hX
        go_enter Try.func91, Try.ntmps91
        go_wp2_with fail
        refine (Q0.out _ (Below.refl _ _)).mono ?_
        rintro e w1 ⟨rfl, hb1⟩
        replace hb1 := Lib.hid hb1
        go_wp2_with fail
        refine (Q1.out _ (hb1.out)).mono ?_
        rintro e w2 ⟨rfl, hb2⟩
        replace hb2 := Lib.hid (below_step hb1.out hb2)
        go_wp2_with fail
        refine (Q2.out _ (hb2.out)).mono ?_
        rintro e w3 ⟨rfl, hb3⟩
        replace hb3 := Lib.hid (below_step hb2.out hb3)
        go_wp2_with fail
        refine (HCALL.out _ (hb3.out)).mono ?_
        rintro e wz ⟨rfl, hw⟩
        replace hw := Lib.hid hw
        go_wp2_with fail
        go_ret
        exact ⟨rfl, hw.out.back (Fr.only (Onl.below (hb3.out)) (by omega))⟩
      have HS := Lib.hid h
      have Q0 := Lib.hid (fun w' hb => sees_any (h.rd.carry (w' := w') hb) h.next { data := #[40] } [40] (by rw [ByteArray.toList_eq]) false q0)
      have Q1 := Lib.hid (fun w' hb => sees_any (h.rd.carry (w' := w') hb) h.next { data := #[109, 97, 107, 101] } [109, 97, 107, 101] (by rw [ByteArray.toList_eq]) false q1)
      have Q2 := Lib.hid (fun w' hb => h.next_at ht w' hb)
      rw [hX] at Q2
      have k2 : ((kd : Int) == 1) = false := by rw [ht] at q2; simp at q2; rw [beq_eq_false_iff_ne]; omega
      unfold atomP
      rw [if_neg (show ¬ sees [40] ts = true by rw [q0]; simp), if_neg (show ¬ sees [109, 97, 107, 101] ts = true by rw [q1]; simp), if_neg q2]
      have HCALL := Lib.hid (fun (w' : World) (hb : Below w.heap.size w w') => constant_r (h.carry hb))
      clear h ht hX
      go_enter Try.func91, Try.ntmps91
      go_wp2_with fail
      refine (Q0.out _ (Below.refl _ _)).mono ?_
      rintro e w1 ⟨rfl, hb1⟩
      replace hb1 := Lib.hid hb1
      go_wp2_with fail
      refine (Q1.out _ (hb1.out)).mono ?_
      rintro e w2 ⟨rfl, hb2⟩
      replace hb2 := Lib.hid (below_step hb1.out hb2)
      go_wp2_with fail
      refine (Q2.out _ (hb2.out)).mono ?_
      rintro e w3 ⟨rfl, hb3⟩
      replace hb3 := Lib.hid (below_step hb2.out hb3)
      go_wp2_with fail
      refine (HCALL.out _ (hb3.out)).mono ?_
      rintro e wz ⟨rfl, hw⟩
      replace hw := Lib.hid hw
      go_wp2_with fail
      go_ret
      exact ⟨rfl, hw.out.back (Fr.only (Onl.below (hb3.out)) (by omega))⟩

end Go.Proofs.Ytbknflaooemigaa
