/-
 Contracts of parse.reader's anyType, signed, unary, nameOrCall, making and atom. Conditions: as said. Contracts of parse.reader's dot and postfix, and with them of expressions of any number of tokens. Conditions: as said.
-/
import Derived.Test.YtbknflaooemigaaGreatRd3
namespace Go.Proofs.YtbknflaooemigaaGreat
section
open Go.RowKit Go.Sort
set_option linter.unusedVariables false
set_option linter.unusedSimpArgs false

set_option maxHeartbeats 400000 in
theorem anyType_r {w : World} {b tb to tc : Nat} {T : List Tok} {at_ d : Nat} {v : Value} {D : List Nd} {n : Nat} {ts : List Tok} (h : Sit w b tb to tc T at_ d v D n ts) {p : Pt} (hp : Does 100 (n - 1) p) (hg : Gd 0 p) : Calls Tryz.prog 100 #[pR b] w (Post b tb to tc T d D w ((iteP [91] (listTypeP p) plainTypeP) d ts)) := by
 have hbl := h.rd.lt
 cases q0 : sees [91] ts with
 | true =>
  have HS := Lib.hid h
  have Q0 := Lib.hid (fun w' hb => sees_any (h.rd.carry (w' := w') hb) h.next { data := #[91] } [91] (by rw [ByteArray.toList_eq]) true q0)
  simp only [iteP]
  rw [if_pos q0]
  have HCALL := Lib.hid (fun (w' : World) (hb : Below w.heap.size w w') => listType_r (h.carry hb) hp hg)
  clear h
  go_enter Tryz.func100, Tryz.ntmps100
  go_wp2_with fail
  refine (Q0.out _ (Below.refl _ _)).mono ?_
  rintro e w1 ⟨rfl, hb1⟩
  replace hb1 := Lib.hid hb1
  go_wp2_with fail
  refine (HCALL.out _ (hb1.out)).mono ?_
  rintro e wz ⟨rfl, hw⟩
  replace hw := Lib.hid hw
  go_wp2_with fail
  go_ret
  exact ⟨rfl, hw.out.back (Fr.only (Onl.below (hb1.out)) (by omega))⟩
 | false =>
  have HS := Lib.hid h
  have Q0 := Lib.hid (fun w' hb => sees_any (h.rd.carry (w' := w') hb) h.next { data := #[91] } [91] (by rw [ByteArray.toList_eq]) false q0)
  simp only [iteP]
  rw [if_neg (show ¬ sees [91] ts = true by rw [q0]; simp)]
  have HCALL := Lib.hid (fun (w' : World) (hb : Below w.heap.size w w') => plainType_r (h.carry hb))
  clear h
  go_enter Tryz.func100, Tryz.ntmps100
  go_wp2_with fail
  refine (Q0.out _ (Below.refl _ _)).mono ?_
  rintro e w1 ⟨rfl, hb1⟩
  replace hb1 := Lib.hid hb1
  go_wp2_with fail
  refine (HCALL.out _ (hb1.out)).mono ?_
  rintro e wz ⟨rfl, hw⟩
  replace hw := Lib.hid hw
  go_wp2_with fail
  go_ret
  exact ⟨rfl, hw.out.back (Fr.only (Onl.below (hb1.out)) (by omega))⟩

theorem sit_pos {w : World} {b tb to tc : Nat} {T : List Tok} {at_ d : Nat} {v : Value} {D : List Nd} {ts : List Tok} (h : Sit w b tb to tc T at_ d v D 0 ts) : False := by
 obtain ⟨t, l, rfl⟩ := h.en.ne
 have := h.ln
 simp at this
theorem type_does (n : Nat) : Does 100 n (typeP n) := by
 induction n with
 | zero => intro w b tb to tc T at_ d v D ts h; exact (sit_pos h).elim
 | succ n ih => intro w b tb to tc T at_ d v D ts h; exact anyType_r h ih (gd_type n)
theorem listType_at {w : World} {b tb to tc : Nat} {T : List Tok} {at_ d : Nat} {v : Value} {D : List Nd} {n : Nat} {ts : List Tok} (h : Sit w b tb to tc T at_ d v D n ts) (N : Nat) (hN : n ≤ N + 1) : Calls Tryz.prog 111 #[pR b] w (Post b tb to tc T d D w (listTypeP (typeP N) d ts)) :=
 listType_r h ((type_does N).mono (by omega)) (gd_type N)

set_option maxHeartbeats 1000000 in
theorem signed_r {w : World} {b tb to tc : Nat} {T : List Tok} {at_ d : Nat} {v : Value} {D : List Nd} {n : Nat} {ts : List Tok} (h : Sit w b tb to tc T at_ d v D n ts) {U : Pt} {x : List UInt8} (hq : sees x ts = true) (hU : Does 117 (n - 1) U) (hg : Gd 0 U) (op : Int) : Calls Tryz.prog 125 #[pR b, .int .i64 op] w (Post b tb to tc T d D w (nodeP (mkN 30 op) (deeperP U) d ts)) := by
 have hbl := h.rd.lt
 have hk0 : (hd ts).kind ≠ 8 := by obtain ⟨t, l, rfl, hk, _⟩ := sees_cons hq; simp [hd]; omega
 obtain ⟨⟨kd, ln, cl, nm, tx⟩, ht⟩ : ∃ t, hd ts = t := ⟨_, rfl⟩
 obtain ⟨a, cap, hv⟩ := own_slice h.rd.own
 obtain ⟨X, hX⟩ : ∃ X, bs tx = X := ⟨_, rfl⟩
 obtain ⟨dn, hdn⟩ : ∃ dn, D.length = dn := ⟨_, rfl⟩
 have HH : Hid (Calls Tryz.prog 73 #[pR b] w fun e w' => e = .returned (sV kd ln cl nm X dn) ∧ Below w.heap.size w w') := Lib.hid (by have := here_any h ht dn hdn a cap (by rw [hv, hdn]); rw [hX] at this; exact this)
 cases e1 : (deeperP U) d ts with
 | bad c l k =>
  rw [show (nodeP (mkN 30 op) (deeperP U)) d ts = .bad c l k by simp only [nodeP, Out.bind, e1]]
  replace e1 := Lib.hid e1
  have hs := Lib.hid h
  replace ht := Lib.hid ht
  replace hX := Lib.hid hX
  replace hdn := Lib.hid hdn
  replace hv := Lib.hid hv
  clear h
  go_enter Tryz.func125, Tryz.ntmps125
  go_wp2_with fail
  refine HH.out.mono ?_
  rintro e w1 ⟨rfl, hb⟩
  have hbl1 := (hs.out.rd.carry hb).lt
  replace hb := Lib.hid hb
  go_wp2_with fail
  obtain ⟨W, hW⟩ : ∃ W, W = w1.alloc (.cells #[.int .u8 kd, .int .i64 ln, .int .i64 cl, .int .i64 nm, .string X, .int .i64 dn] 70) := ⟨_, rfl⟩
  rw [← hW]
  have HS0 : Hid (Sit W b tb to tc T at_ d v D n ts) := Lib.hid (by rw [hW]; exact (hs.out.carry hb.out).carry (below_alloc _ _))
  have HF0 : Hid (Fr b w W) := Lib.hid (by rw [hW]; exact (Fr.only (Onl.below hb.out) (by omega)).trans (Fr.only (Onl.below (below_alloc _ _)) (by omega)))
  have HM0 : Hid (SAt W w1.heap.size kd ln cl nm X dn) := Lib.hid (by rw [hW]; exact SAt.made w1 kd ln cl nm X dn)
  clear hW
  have HC1 := Lib.hid (badOf (deeper_any (HS0.out) hk0 (fn_of hU (by intro args w; simp [go_sem]))) e1.out)
  refine HC1.out.mono ?_
  rintro e w2 ⟨rfl, rf, fr⟩
  replace rf := Lib.hid rf
  replace fr := Lib.hid fr
  go_wp2_with fail
  go_ret
  exact ⟨rfl, rf.out, HF0.out.trans fr.out⟩
 | ok F1 r1 =>
  rw [show (nodeP (mkN 30 op) (deeperP U)) d ts = .ok (.cons (mkN 30 op ts) (F1) .nil) r1 by simp only [nodeP, Out.bind, e1]]
  replace e1 := Lib.hid e1
  have hs := Lib.hid h
  replace ht := Lib.hid ht
  replace hX := Lib.hid hX
  replace hdn := Lib.hid hdn
  replace hv := Lib.hid hv
  clear h
  go_enter Tryz.func125, Tryz.ntmps125
  go_wp2_with fail
  refine HH.out.mono ?_
  rintro e w1 ⟨rfl, hb⟩
  have hbl1 := (hs.out.rd.carry hb).lt
  replace hb := Lib.hid hb
  go_wp2_with fail
  obtain ⟨W, hW⟩ : ∃ W, W = w1.alloc (.cells #[.int .u8 kd, .int .i64 ln, .int .i64 cl, .int .i64 nm, .string X, .int .i64 dn] 70) := ⟨_, rfl⟩
  rw [← hW]
  have HS0 : Hid (Sit W b tb to tc T at_ d v D n ts) := Lib.hid (by rw [hW]; exact (hs.out.carry hb.out).carry (below_alloc _ _))
  have HF0 : Hid (Fr b w W) := Lib.hid (by rw [hW]; exact (Fr.only (Onl.below hb.out) (by omega)).trans (Fr.only (Onl.below (below_alloc _ _)) (by omega)))
  have HM0 : Hid (SAt W w1.heap.size kd ln cl nm X dn) := Lib.hid (by rw [hW]; exact SAt.made w1 kd ln cl nm X dn)
  clear hW
  have HC1 := Lib.hid (okOf (deeper_any (HS0.out) hk0 (fn_of hU (by intro args w; simp [go_sem]))) e1.out)
  refine HC1.out.mono ?_
  rintro e w2 ⟨rfl, ⟨at1, v1, dr, rd⟩, fr⟩
  have HS1 := Lib.hid (HS0.out.then (s := 1) (ga_deeper (d := d) hq hg F1 r1 e1.out) dr rd)
  have HF1 := Lib.hid (HF0.out.trans fr)
  have HM1 := Lib.hid (HM0.out.fr fr (by omega))
  clear dr rd fr
  obtain ⟨m0, m1, m2, m3, m4, m5⟩ := HM1.out.at
  go_wp2_with fail
  have HA := Lib.hid (add_any HS1.out.rd kd ln cl dn nm X 30 0 0 0 op { data := #[] } (F1).cnt (by have := hdn.out; simp [post_len, cnt_app, Fo.cnt]; omega) (by have := HS1.out.rm; omega))
  refine HA.out.mono ?_
  rintro e wa ⟨rfl, ⟨va, rda⟩, fra⟩
  replace rda := Lib.hid rda
  replace fra := Lib.hid fra
  go_wp2_with fail
  go_ret
  exact ⟨rfl, ⟨at1, va, HS1.out.dr, rd_node rda.out (by simp [post_app, Fo.post, List.append_assoc]) (by simp [mkK, mkX, mkY, mkN, Inf.nd, ht.out]; try rfl)⟩, HF1.out.trans fra.out⟩

set_option maxHeartbeats 400000 in
theorem unary_r {w : World} {b tb to tc : Nat} {T : List Tok} {at_ d : Nat} {v : Value} {D : List Nd} {n : Nat} {ts : List Tok} (h : Sit w b tb to tc T at_ d v D n ts) {U p : Pt} (hU : Does 117 (n - 1) U) (hg : Gd 0 U) (hp : Does 126 n p) : Calls Tryz.prog 117 #[pR b] w (Post b tb to tc T d D w ((unaryOf U p) d ts)) := by
 have hbl := h.rd.lt
 cases q0 : sees [45] ts with
 | true =>
  have HS := Lib.hid h
  have Q0 := Lib.hid (fun w' hb => sees_any (h.rd.carry (w' := w') hb) h.next { data := #[45] } [45] (by rw [ByteArray.toList_eq]) true q0)
  unfold unaryOf
  rw [if_pos q0]
  have HCALL := Lib.hid (fun (w' : World) (hb : Below w.heap.size w w') => signed_r (h.carry hb) q0 hU hg 12)
  clear h
  go_enter Tryz.func117, Tryz.ntmps117
  go_wp2_with fail
  refine (Q0.out _ (Below.refl _ _)).mono ?_
  rintro e w1 ⟨rfl, hb1⟩
  replace hb1 := Lib.hid hb1
  go_wp2_with fail
  refine (HCALL.out _ (hb1.out)).mono ?_
  rintro e wz ⟨rfl, hw⟩
  replace hw := Lib.hid hw
  go_wp2_with fail
  go_ret
  exact ⟨rfl, hw.out.back (Fr.only (Onl.below (hb1.out)) (by omega))⟩
 | false =>
  cases q1 : sees [33] ts with
  | true =>
   have HS := Lib.hid h
   have Q0 := Lib.hid (fun w' hb => sees_any (h.rd.carry (w' := w') hb) h.next { data := #[45] } [45] (by rw [ByteArray.toList_eq]) false q0)
   have Q1 := Lib.hid (fun w' hb => sees_any (h.rd.carry (w' := w') hb) h.next { data := #[33] } [33] (by rw [ByteArray.toList_eq]) true q1)
   unfold unaryOf
   rw [if_neg (show ¬ sees [45] ts = true by rw [q0]; simp), if_pos q1]
   have HCALL := Lib.hid (fun (w' : World) (hb : Below w.heap.size w w') => signed_r (h.carry hb) q1 hU hg 13)
   clear h
   go_enter Tryz.func117, Tryz.ntmps117
   go_wp2_with fail
   refine (Q0.out _ (Below.refl _ _)).mono ?_
   rintro e w1 ⟨rfl, hb1⟩
   replace hb1 := Lib.hid hb1
   go_wp2_with fail
   refine (Q1.out _ (hb1.out)).mono ?_
   rintro e w2 ⟨rfl, hb2⟩
   replace hb2 := Lib.hid (below_step hb1.out hb2)
   go_wp2_with fail
   refine (HCALL.out _ (hb2.out)).mono ?_
   rintro e wz ⟨rfl, hw⟩
   replace hw := Lib.hid hw
   go_wp2_with fail
   go_ret
   exact ⟨rfl, hw.out.back (Fr.only (Onl.below (hb2.out)) (by omega))⟩
  | false =>
   have HS := Lib.hid h
   have Q0 := Lib.hid (fun w' hb => sees_any (h.rd.carry (w' := w') hb) h.next { data := #[45] } [45] (by rw [ByteArray.toList_eq]) false q0)
   have Q1 := Lib.hid (fun w' hb => sees_any (h.rd.carry (w' := w') hb) h.next { data := #[33] } [33] (by rw [ByteArray.toList_eq]) false q1)
   unfold unaryOf
   rw [if_neg (show ¬ sees [45] ts = true by rw [q0]; simp), if_neg (show ¬ sees [33] ts = true by rw [q1]; simp)]
   have HCALL := Lib.hid (fun (w' : World) (hb : Below w.heap.size w w') => hp (h.carry hb))
   clear h
   go_enter Tryz.func117, Tryz.ntmps117
   go_wp2_with fail
   refine (Q0.out _ (Below.refl _ _)).mono ?_
   rintro e w1 ⟨rfl, hb1⟩
   replace hb1 := Lib.hid hb1
   go_wp2_with fail
   refine (Q1.out _ (hb1.out)).mono ?_
   rintro e w2 ⟨rfl, hb2⟩
   replace hb2 := Lib.hid (below_step hb1.out hb2)
   go_wp2_with fail
   refine (HCALL.out _ (hb2.out)).mono ?_
   rintro e wz ⟨rfl, hw⟩
   replace hw := Lib.hid hw
   go_wp2_with fail
   go_ret
   exact ⟨rfl, hw.out.back (Fr.only (Onl.below (hb2.out)) (by omega))⟩

set_option maxHeartbeats 1000000 in
theorem name_plain {w : World} {b tb to tc : Nat} {T : List Tok} {at_ d : Nat} {v : Value} {D : List Nd} {n : Nat} {ts : List Tok} (h : Sit w b tb to tc T at_ d v D n ts) {E : Pt} {N : Nat} (hk1 : (hd ts).kind = 1) (hq : sees [40] ts.tail = false) : Calls Tryz.prog 130 #[pR b] w (Post b tb to tc T d D w (nameP E N d ts)) := by
 have hbl := h.rd.lt
 obtain ⟨⟨kd, ln, cl, nm, tx⟩, ht⟩ : ∃ t, hd ts = t := ⟨_, rfl⟩
 obtain ⟨a, cap, hv⟩ := own_slice h.rd.own
 obtain ⟨X, hX⟩ : ∃ X, bs tx = X := ⟨_, rfl⟩
 obtain ⟨dn, hdn⟩ : ∃ dn, D.length = dn := ⟨_, rfl⟩
 have HH : Hid (Calls Tryz.prog 73 #[pR b] w fun e w' => e = .returned (sV kd ln cl nm X dn) ∧ Below w.heap.size w w') := Lib.hid (by have := here_any h ht dn hdn a cap (by rw [hv, hdn]); rw [hX] at this; exact this)
 have hk : (hd ts).kind ≠ 8 := by rw [hk1]; decide
 have hlt : at_ < T.length := (List.getElem?_eq_some_iff.1 h.next).1
 have htn := h.rd.tn
 have hn : at_ < 1000000 := by omega
 replace hk := Lib.hid hk
 rw [show (nameP E N) d ts = .ok (.cons (mkX 26 ts) (Fo.nil) .nil) ts.tail by simp only [nameP, hq, Bool.false_eq_true, if_false]]
 have hs := Lib.hid h
 replace hq := Lib.hid hq
 replace ht := Lib.hid ht
 replace hX := Lib.hid hX
 replace hdn := Lib.hid hdn
 replace hv := Lib.hid hv
 clear h hlt htn
 go_enter Tryz.func130, Tryz.ntmps130
 go_wp2_with fail
 refine HH.out.mono ?_
 rintro e w1 ⟨rfl, hb⟩
 have c1 := (hs.out.rd.carry hb).c1
 have fz := (hs.out.rd.carry hb).fz
 have hbl1 := (hs.out.rd.carry hb).lt
 have HT := (hs.out.carry hb).tail ((hs.out.carry hb).rd.bump (at_ + 1)) hk.out
 rw [show ((at_ + 1 : Nat) : Int) = (at_ : Int) + 1 by omega] at HT
 replace HT := Lib.hid HT
 replace hb := Lib.hid hb
 go_wp2_with fail
 obtain ⟨W, hW⟩ : ∃ W, W = (w1.setCell ⟨b, 1, none⟩ (.int .i64 ((at_ : Int) + 1))).alloc (.cells #[.int .u8 kd, .int .i64 ln, .int .i64 cl, .int .i64 nm, .string X, .int .i64 dn] 70) := ⟨_, rfl⟩
 rw [← hW]
 have HS0 : Hid (Sit W b tb to tc T (at_ + 1) d v D (n - 1) ts.tail) := Lib.hid (by rw [hW]; exact HT.out.carry (below_alloc _ _))
 have HF0 : Hid (Fr b w W) := Lib.hid (by rw [hW]; exact ((Fr.only (Onl.below hb.out) (by omega)).trans (Fr.only (Onl.set _ _ _ _) (by omega))).trans (Fr.only (Onl.below (below_alloc _ _)) (by simp; omega)))
 have HM0 : Hid (SAt W w1.heap.size kd ln cl nm X dn) := Lib.hid (by rw [hW]; have := SAt.made (w1.setCell ⟨b, 1, none⟩ (.int .i64 ((at_ : Int) + 1))) kd ln cl nm X dn; simpa using this)
 clear hW HT c1 fz
 have HQ0 := Lib.hid (sees_any HS0.out.rd HS0.out.next { data := #[40] } [40] (by rw [ByteArray.toList_eq]) false hq.out)
 refine HQ0.out.mono ?_
 rintro e wq ⟨rfl, hbq⟩
 replace HF0 := Lib.hid (HF0.out.trans (Fr.only (Onl.below hbq) (by have := HS0.out.rd.lt; omega)))
 replace HS0 := Lib.hid (HS0.out.carry hbq)
 replace HM0 := Lib.hid (HM0.out.below hbq)
 replace hbq := Lib.hid hbq
 obtain ⟨m0, m1, m2, m3, m4, m5⟩ := HM0.out.at
 go_wp2_with fail
 have HA := Lib.hid (add_any HS0.out.rd kd ln cl dn nm X 26 0 0 0 0 X (Fo.nil).cnt (by have := hdn.out; simp [post_len, cnt_app, Fo.cnt]; omega) (by have := HS0.out.rm; omega))
 refine HA.out.mono ?_
 rintro e wa ⟨rfl, ⟨va, rda⟩, fra⟩
 replace rda := Lib.hid rda
 replace fra := Lib.hid fra
 go_wp2_with fail
 go_ret
 exact ⟨rfl, ⟨(at_ + 1), va, HS0.out.dr, rd_node rda.out (by simp [post_app, Fo.post, List.append_assoc]) (by simp [mkK, mkX, mkY, mkN, Inf.nd, ht.out, hX.out]; try rfl)⟩, HF0.out.trans fra.out⟩

set_option maxHeartbeats 1000000 in
theorem name_call {w : World} {b tb to tc : Nat} {T : List Tok} {at_ d : Nat} {v : Value} {D : List Nd} {n : Nat} {ts : List Tok} (h : Sit w b tb to tc T at_ d v D n ts) {E : Pt} {N : Nat} (hk1 : (hd ts).kind = 1) (hq : sees [40] ts.tail = true) (hE : Does 13 (n - 2) E) (hg : Gd 0 E) (hN : n ≤ N + 2) : Calls Tryz.prog 130 #[pR b] w (Post b tb to tc T d D w (nameP E N d ts)) := by
 have hbl := h.rd.lt
 obtain ⟨⟨kd, ln, cl, nm, tx⟩, ht⟩ : ∃ t, hd ts = t := ⟨_, rfl⟩
 obtain ⟨a, cap, hv⟩ := own_slice h.rd.own
 obtain ⟨X, hX⟩ : ∃ X, bs tx = X := ⟨_, rfl⟩
 obtain ⟨dn, hdn⟩ : ∃ dn, D.length = dn := ⟨_, rfl⟩
 have HH : Hid (Calls Tryz.prog 73 #[pR b] w fun e w' => e = .returned (sV kd ln cl nm X dn) ∧ Below w.heap.size w w') := Lib.hid (by have := here_any h ht dn hdn a cap (by rw [hv, hdn]); rw [hX] at this; exact this)
 have hk : (hd ts).kind ≠ 8 := by rw [hk1]; decide
 have hlt : at_ < T.length := (List.getElem?_eq_some_iff.1 h.next).1
 have htn := h.rd.tn
 have hn : at_ < 1000000 := by omega
 replace hk := Lib.hid hk
 cases e1 : (withinP [40] [41] (listedP E N)) d ts.tail with
 | bad c l k =>
  rw [show (nameP E N) d ts = .bad c l k by simp only [nameP, nodeP, afterP, hq, if_true, Out.bind, e1]]
  replace e1 := Lib.hid e1
  have hs := Lib.hid h
  replace hq := Lib.hid hq
  replace ht := Lib.hid ht
  replace hX := Lib.hid hX
  replace hdn := Lib.hid hdn
  replace hv := Lib.hid hv
  clear h hlt htn
  go_enter Tryz.func130, Tryz.ntmps130
  go_wp2_with fail
  refine HH.out.mono ?_
  rintro e w1 ⟨rfl, hb⟩
  have c1 := (hs.out.rd.carry hb).c1
  have fz := (hs.out.rd.carry hb).fz
  have hbl1 := (hs.out.rd.carry hb).lt
  have HT := (hs.out.carry hb).tail ((hs.out.carry hb).rd.bump (at_ + 1)) hk.out
  rw [show ((at_ + 1 : Nat) : Int) = (at_ : Int) + 1 by omega] at HT
  replace HT := Lib.hid HT
  replace hb := Lib.hid hb
  go_wp2_with fail
  obtain ⟨W, hW⟩ : ∃ W, W = (w1.setCell ⟨b, 1, none⟩ (.int .i64 ((at_ : Int) + 1))).alloc (.cells #[.int .u8 kd, .int .i64 ln, .int .i64 cl, .int .i64 nm, .string X, .int .i64 dn] 70) := ⟨_, rfl⟩
  rw [← hW]
  have HS0 : Hid (Sit W b tb to tc T (at_ + 1) d v D (n - 1) ts.tail) := Lib.hid (by rw [hW]; exact HT.out.carry (below_alloc _ _))
  have HF0 : Hid (Fr b w W) := Lib.hid (by rw [hW]; exact ((Fr.only (Onl.below hb.out) (by omega)).trans (Fr.only (Onl.set _ _ _ _) (by omega))).trans (Fr.only (Onl.below (below_alloc _ _)) (by simp; omega)))
  have HM0 : Hid (SAt W w1.heap.size kd ln cl nm X dn) := Lib.hid (by rw [hW]; have := SAt.made (w1.setCell ⟨b, 1, none⟩ (.int .i64 ((at_ : Int) + 1))) kd ln cl nm X dn; simpa using this)
  clear hW HT c1 fz
  have HQ0 := Lib.hid (sees_any HS0.out.rd HS0.out.next { data := #[40] } [40] (by rw [ByteArray.toList_eq]) true hq.out)
  refine HQ0.out.mono ?_
  rintro e wq ⟨rfl, hbq⟩
  replace HF0 := Lib.hid (HF0.out.trans (Fr.only (Onl.below hbq) (by have := HS0.out.rd.lt; omega)))
  replace HS0 := Lib.hid (HS0.out.carry hbq)
  replace HM0 := Lib.hid (HM0.out.below hbq)
  replace hbq := Lib.hid hbq
  go_wp2_with fail
  have HC1 := Lib.hid (badOf (within_r (HS0.out) { data := #[40] } { data := #[41] } [40] [41] (by rw [ByteArray.toList_eq]) (by rw [ByteArray.toList_eq]) (fn_of (arguments_does (n := n - 1 - 1) (hE.mono (by omega)) hg N (by omega)) (by intro args w; simp [go_sem])) (gd_listed hg N)) e1.out)
  refine HC1.out.mono ?_
  rintro e w2 ⟨rfl, rf, fr⟩
  replace rf := Lib.hid rf
  replace fr := Lib.hid fr
  go_wp2_with fail
  go_ret
  exact ⟨rfl, rf.out, HF0.out.trans fr.out⟩
 | ok F1 r1 =>
  rw [show (nameP E N) d ts = .ok (.cons (mkX 27 ts) (F1) .nil) r1 by simp only [nameP, nodeP, afterP, hq, if_true, Out.bind, e1]]
  replace e1 := Lib.hid e1
  have hs := Lib.hid h
  replace hq := Lib.hid hq
  replace ht := Lib.hid ht
  replace hX := Lib.hid hX
  replace hdn := Lib.hid hdn
  replace hv := Lib.hid hv
  clear h hlt htn
  go_enter Tryz.func130, Tryz.ntmps130
  go_wp2_with fail
  refine HH.out.mono ?_
  rintro e w1 ⟨rfl, hb⟩
  have c1 := (hs.out.rd.carry hb).c1
  have fz := (hs.out.rd.carry hb).fz
  have hbl1 := (hs.out.rd.carry hb).lt
  have HT := (hs.out.carry hb).tail ((hs.out.carry hb).rd.bump (at_ + 1)) hk.out
  rw [show ((at_ + 1 : Nat) : Int) = (at_ : Int) + 1 by omega] at HT
  replace HT := Lib.hid HT
  replace hb := Lib.hid hb
  go_wp2_with fail
  obtain ⟨W, hW⟩ : ∃ W, W = (w1.setCell ⟨b, 1, none⟩ (.int .i64 ((at_ : Int) + 1))).alloc (.cells #[.int .u8 kd, .int .i64 ln, .int .i64 cl, .int .i64 nm, .string X, .int .i64 dn] 70) := ⟨_, rfl⟩
  rw [← hW]
  have HS0 : Hid (Sit W b tb to tc T (at_ + 1) d v D (n - 1) ts.tail) := Lib.hid (by rw [hW]; exact HT.out.carry (below_alloc _ _))
  have HF0 : Hid (Fr b w W) := Lib.hid (by rw [hW]; exact ((Fr.only (Onl.below hb.out) (by omega)).trans (Fr.only (Onl.set _ _ _ _) (by omega))).trans (Fr.only (Onl.below (below_alloc _ _)) (by simp; omega)))
  have HM0 : Hid (SAt W w1.heap.size kd ln cl nm X dn) := Lib.hid (by rw [hW]; have := SAt.made (w1.setCell ⟨b, 1, none⟩ (.int .i64 ((at_ : Int) + 1))) kd ln cl nm X dn; simpa using this)
  clear hW HT c1 fz
  have HQ0 := Lib.hid (sees_any HS0.out.rd HS0.out.next { data := #[40] } [40] (by rw [ByteArray.toList_eq]) true hq.out)
  refine HQ0.out.mono ?_
  rintro e wq ⟨rfl, hbq⟩
  replace HF0 := Lib.hid (HF0.out.trans (Fr.only (Onl.below hbq) (by have := HS0.out.rd.lt; omega)))
  replace HS0 := Lib.hid (HS0.out.carry hbq)
  replace HM0 := Lib.hid (HM0.out.below hbq)
  replace hbq := Lib.hid hbq
  go_wp2_with fail
  have HC1 := Lib.hid (okOf (within_r (HS0.out) { data := #[40] } { data := #[41] } [40] [41] (by rw [ByteArray.toList_eq]) (by rw [ByteArray.toList_eq]) (fn_of (arguments_does (n := n - 1 - 1) (hE.mono (by omega)) hg N (by omega)) (by intro args w; simp [go_sem])) (gd_listed hg N)) e1.out)
  refine HC1.out.mono ?_
  rintro e w2 ⟨rfl, ⟨at1, v1, dr, rd⟩, fr⟩
  have HS1 := Lib.hid (HS0.out.then (s := 2) (gd_within (o := [40]) (c := [41]) (gd_listed hg N) d ts.tail F1 r1 e1.out) dr rd)
  have HF1 := Lib.hid (HF0.out.trans fr)
  have HM1 := Lib.hid (HM0.out.fr fr (by omega))
  clear dr rd fr
  obtain ⟨m0, m1, m2, m3, m4, m5⟩ := HM1.out.at
  go_wp2_with fail
  have HA := Lib.hid (add_any HS1.out.rd kd ln cl dn nm X 27 0 0 0 0 X (F1).cnt (by have := hdn.out; simp [post_len, cnt_app, Fo.cnt]; omega) (by have := HS1.out.rm; omega))
  refine HA.out.mono ?_
  rintro e wa ⟨rfl, ⟨va, rda⟩, fra⟩
  replace rda := Lib.hid rda
  replace fra := Lib.hid fra
  go_wp2_with fail
  go_ret
  exact ⟨rfl, ⟨at1, va, HS1.out.dr, rd_node rda.out (by simp [post_app, Fo.post, List.append_assoc]) (by simp [mkK, mkX, mkY, mkN, Inf.nd, ht.out, hX.out]; try rfl)⟩, HF1.out.trans fra.out⟩

theorem name_r {w : World} {b tb to tc : Nat} {T : List Tok} {at_ d : Nat} {v : Value} {D : List Nd} {n : Nat} {ts : List Tok} (h : Sit w b tb to tc T at_ d v D n ts) {E : Pt} {N : Nat} (hk1 : (hd ts).kind = 1) (hE : Does 13 (n - 2) E) (hg : Gd 0 E) (hN : n ≤ N + 2) : Calls Tryz.prog 130 #[pR b] w (Post b tb to tc T d D w (nameP E N d ts)) := by
 cases hq : sees [40] ts.tail with
 | true => exact name_call h hk1 hq hE hg hN
 | false => exact name_plain h hk1 hq

set_option maxHeartbeats 1000000 in
theorem make_rec {w : World} {b tb to tc : Nat} {T : List Tok} {at_ d : Nat} {v : Value} {D : List Nd} {n : Nat} {ts : List Tok} (h : Sit w b tb to tc T at_ d v D n ts) {E : Pt} {N : Nat} (hm : sees [109, 97, 107, 101] ts = true) (hq : (hd ts.tail).kind = 2) : Calls Tryz.prog 129 #[pR b] w (Post b tb to tc T d D w (makeP E N d ts)) := by
 have hbl := h.rd.lt
 obtain ⟨⟨kd, ln, cl, nm, tx⟩, ht⟩ : ∃ t, hd ts = t := ⟨_, rfl⟩
 obtain ⟨a, cap, hv⟩ := own_slice h.rd.own
 obtain ⟨X, hX⟩ : ∃ X, bs tx = X := ⟨_, rfl⟩
 obtain ⟨dn, hdn⟩ : ∃ dn, D.length = dn := ⟨_, rfl⟩
 have HH : Hid (Calls Tryz.prog 73 #[pR b] w fun e w' => e = .returned (sV kd ln cl nm X dn) ∧ Below w.heap.size w w') := Lib.hid (by have := here_any h ht dn hdn a cap (by rw [hv, hdn]); rw [hX] at this; exact this)
 have hk : (hd ts).kind ≠ 8 := by obtain ⟨t, l, rfl, hk, _⟩ := sees_cons hm; simp [hd]; omega
 have hlt : at_ < T.length := (List.getElem?_eq_some_iff.1 h.next).1
 have htn := h.rd.tn
 have hn : at_ < 1000000 := by omega
 replace hk := Lib.hid hk
 obtain ⟨⟨kd3, ln3, cl3, nm3, tx3⟩, hp2⟩ : ∃ t, hd ts.tail = t := ⟨_, rfl⟩
 have hF := tokF0 kd3 ln3 cl3 nm3 (bs tx3)
 have k3 : ((kd3 : Int) == 2) = true := by rw [hp2] at hq; simp at hq; rw [hq]; rfl
 cases e1 : (plainTypeP) d ts.tail with
 | bad c l k =>
  rw [show (makeP E N) d ts = .bad c l k by simp only [makeP, nodeP, afterP, seqP, hq, if_true, Out.bind, e1]]
  replace e1 := Lib.hid e1
  have hs := Lib.hid h
  replace hp2 := Lib.hid hp2
  replace hq := Lib.hid hq
  replace ht := Lib.hid ht
  replace hX := Lib.hid hX
  replace hdn := Lib.hid hdn
  replace hv := Lib.hid hv
  clear h hlt htn
  go_enter Tryz.func129, Tryz.ntmps129
  go_wp2_with fail
  refine HH.out.mono ?_
  rintro e w1 ⟨rfl, hb⟩
  have c1 := (hs.out.rd.carry hb).c1
  have fz := (hs.out.rd.carry hb).fz
  have hbl1 := (hs.out.rd.carry hb).lt
  have HT := (hs.out.carry hb).tail ((hs.out.carry hb).rd.bump (at_ + 1)) hk.out
  rw [show ((at_ + 1 : Nat) : Int) = (at_ : Int) + 1 by omega] at HT
  replace HT := Lib.hid HT
  replace hb := Lib.hid hb
  go_wp2_with fail
  obtain ⟨W, hW⟩ : ∃ W, W = (w1.setCell ⟨b, 1, none⟩ (.int .i64 ((at_ : Int) + 1))).alloc (.cells #[.int .u8 kd, .int .i64 ln, .int .i64 cl, .int .i64 nm, .string X, .int .i64 dn] 70) := ⟨_, rfl⟩
  rw [← hW]
  have HS0 : Hid (Sit W b tb to tc T (at_ + 1) d v D (n - 1) ts.tail) := Lib.hid (by rw [hW]; exact HT.out.carry (below_alloc _ _))
  have HF0 : Hid (Fr b w W) := Lib.hid (by rw [hW]; exact ((Fr.only (Onl.below hb.out) (by omega)).trans (Fr.only (Onl.set _ _ _ _) (by omega))).trans (Fr.only (Onl.below (below_alloc _ _)) (by simp; omega)))
  have HM0 : Hid (SAt W w1.heap.size kd ln cl nm X dn) := Lib.hid (by rw [hW]; have := SAt.made (w1.setCell ⟨b, 1, none⟩ (.int .i64 ((at_ : Int) + 1))) kd ln cl nm X dn; simpa using this)
  clear hW HT c1 fz
  have HQ0 := Lib.hid (HS0.out.next_at hp2.out W (Below.refl _ _))
  refine HQ0.out.mono ?_
  rintro e wq ⟨rfl, hbq⟩
  replace HF0 := Lib.hid (HF0.out.trans (Fr.only (Onl.below hbq) (by have := HS0.out.rd.lt; omega)))
  replace HS0 := Lib.hid (HS0.out.carry hbq)
  replace HM0 := Lib.hid (HM0.out.below hbq)
  replace hbq := Lib.hid hbq
  go_wp2_with fail
  have HC1 := Lib.hid (badOf (plainType_r (HS0.out)) e1.out)
  refine HC1.out.mono ?_
  rintro e w2 ⟨rfl, rf, fr⟩
  replace rf := Lib.hid rf
  replace fr := Lib.hid fr
  go_wp2_with fail
  go_ret
  exact ⟨rfl, rf.out, HF0.out.trans fr.out⟩
 | ok F1 r1 =>
  cases e2 : (withinP [40] [41] nothingP) d r1 with
  | bad c l k =>
   rw [show (makeP E N) d ts = .bad c l k by simp only [makeP, nodeP, afterP, seqP, hq, if_true, Out.bind, e1, e2]]
   replace e1 := Lib.hid e1
   replace e2 := Lib.hid e2
   have hs := Lib.hid h
   replace hp2 := Lib.hid hp2
   replace hq := Lib.hid hq
   replace ht := Lib.hid ht
   replace hX := Lib.hid hX
   replace hdn := Lib.hid hdn
   replace hv := Lib.hid hv
   clear h hlt htn
   go_enter Tryz.func129, Tryz.ntmps129
   go_wp2_with fail
   refine HH.out.mono ?_
   rintro e w1 ⟨rfl, hb⟩
   have c1 := (hs.out.rd.carry hb).c1
   have fz := (hs.out.rd.carry hb).fz
   have hbl1 := (hs.out.rd.carry hb).lt
   have HT := (hs.out.carry hb).tail ((hs.out.carry hb).rd.bump (at_ + 1)) hk.out
   rw [show ((at_ + 1 : Nat) : Int) = (at_ : Int) + 1 by omega] at HT
   replace HT := Lib.hid HT
   replace hb := Lib.hid hb
   go_wp2_with fail
   obtain ⟨W, hW⟩ : ∃ W, W = (w1.setCell ⟨b, 1, none⟩ (.int .i64 ((at_ : Int) + 1))).alloc (.cells #[.int .u8 kd, .int .i64 ln, .int .i64 cl, .int .i64 nm, .string X, .int .i64 dn] 70) := ⟨_, rfl⟩
   rw [← hW]
   have HS0 : Hid (Sit W b tb to tc T (at_ + 1) d v D (n - 1) ts.tail) := Lib.hid (by rw [hW]; exact HT.out.carry (below_alloc _ _))
   have HF0 : Hid (Fr b w W) := Lib.hid (by rw [hW]; exact ((Fr.only (Onl.below hb.out) (by omega)).trans (Fr.only (Onl.set _ _ _ _) (by omega))).trans (Fr.only (Onl.below (below_alloc _ _)) (by simp; omega)))
   have HM0 : Hid (SAt W w1.heap.size kd ln cl nm X dn) := Lib.hid (by rw [hW]; have := SAt.made (w1.setCell ⟨b, 1, none⟩ (.int .i64 ((at_ : Int) + 1))) kd ln cl nm X dn; simpa using this)
   clear hW HT c1 fz
   have HQ0 := Lib.hid (HS0.out.next_at hp2.out W (Below.refl _ _))
   refine HQ0.out.mono ?_
   rintro e wq ⟨rfl, hbq⟩
   replace HF0 := Lib.hid (HF0.out.trans (Fr.only (Onl.below hbq) (by have := HS0.out.rd.lt; omega)))
   replace HS0 := Lib.hid (HS0.out.carry hbq)
   replace HM0 := Lib.hid (HM0.out.below hbq)
   replace hbq := Lib.hid hbq
   go_wp2_with fail
   have HC1 := Lib.hid (okOf (plainType_r (HS0.out)) e1.out)
   refine HC1.out.mono ?_
   rintro e w2 ⟨rfl, ⟨at1, v1, dr, rd⟩, fr⟩
   have HS1 := Lib.hid (HS0.out.then (s := 0) (gd_plainType d ts.tail F1 r1 e1.out) dr rd)
   have HF1 := Lib.hid (HF0.out.trans fr)
   have HM1 := Lib.hid (HM0.out.fr fr (by omega))
   clear dr rd fr
   go_wp2_with fail
   have HC2 := Lib.hid (badOf (within_r (HS1.out) { data := #[40] } { data := #[41] } [40] [41] (by rw [ByteArray.toList_eq]) (by rw [ByteArray.toList_eq]) (fn_of (nothing_does _) (by intro args w; simp [go_sem])) gd_nothing) e2.out)
   refine HC2.out.mono ?_
   rintro e w3 ⟨rfl, rf, fr⟩
   replace rf := Lib.hid rf
   replace fr := Lib.hid fr
   go_wp2_with fail
   go_ret
   exact ⟨rfl, rf.out, HF1.out.trans fr.out⟩
  | ok F2 r2 =>
   rw [show (makeP E N) d ts = .ok (.cons (mkK 32 ts) (F1.app F2) .nil) r2 by simp only [makeP, nodeP, afterP, seqP, hq, if_true, Out.bind, e1, e2]]
   replace e1 := Lib.hid e1
   replace e2 := Lib.hid e2
   have hs := Lib.hid h
   replace hp2 := Lib.hid hp2
   replace hq := Lib.hid hq
   replace ht := Lib.hid ht
   replace hX := Lib.hid hX
   replace hdn := Lib.hid hdn
   replace hv := Lib.hid hv
   clear h hlt htn
   go_enter Tryz.func129, Tryz.ntmps129
   go_wp2_with fail
   refine HH.out.mono ?_
   rintro e w1 ⟨rfl, hb⟩
   have c1 := (hs.out.rd.carry hb).c1
   have fz := (hs.out.rd.carry hb).fz
   have hbl1 := (hs.out.rd.carry hb).lt
   have HT := (hs.out.carry hb).tail ((hs.out.carry hb).rd.bump (at_ + 1)) hk.out
   rw [show ((at_ + 1 : Nat) : Int) = (at_ : Int) + 1 by omega] at HT
   replace HT := Lib.hid HT
   replace hb := Lib.hid hb
   go_wp2_with fail
   obtain ⟨W, hW⟩ : ∃ W, W = (w1.setCell ⟨b, 1, none⟩ (.int .i64 ((at_ : Int) + 1))).alloc (.cells #[.int .u8 kd, .int .i64 ln, .int .i64 cl, .int .i64 nm, .string X, .int .i64 dn] 70) := ⟨_, rfl⟩
   rw [← hW]
   have HS0 : Hid (Sit W b tb to tc T (at_ + 1) d v D (n - 1) ts.tail) := Lib.hid (by rw [hW]; exact HT.out.carry (below_alloc _ _))
   have HF0 : Hid (Fr b w W) := Lib.hid (by rw [hW]; exact ((Fr.only (Onl.below hb.out) (by omega)).trans (Fr.only (Onl.set _ _ _ _) (by omega))).trans (Fr.only (Onl.below (below_alloc _ _)) (by simp; omega)))
   have HM0 : Hid (SAt W w1.heap.size kd ln cl nm X dn) := Lib.hid (by rw [hW]; have := SAt.made (w1.setCell ⟨b, 1, none⟩ (.int .i64 ((at_ : Int) + 1))) kd ln cl nm X dn; simpa using this)
   clear hW HT c1 fz
   have HQ0 := Lib.hid (HS0.out.next_at hp2.out W (Below.refl _ _))
   refine HQ0.out.mono ?_
   rintro e wq ⟨rfl, hbq⟩
   replace HF0 := Lib.hid (HF0.out.trans (Fr.only (Onl.below hbq) (by have := HS0.out.rd.lt; omega)))
   replace HS0 := Lib.hid (HS0.out.carry hbq)
   replace HM0 := Lib.hid (HM0.out.below hbq)
   replace hbq := Lib.hid hbq
   go_wp2_with fail
   have HC1 := Lib.hid (okOf (plainType_r (HS0.out)) e1.out)
   refine HC1.out.mono ?_
   rintro e w2 ⟨rfl, ⟨at1, v1, dr, rd⟩, fr⟩
   have HS1 := Lib.hid (HS0.out.then (s := 0) (gd_plainType d ts.tail F1 r1 e1.out) dr rd)
   have HF1 := Lib.hid (HF0.out.trans fr)
   have HM1 := Lib.hid (HM0.out.fr fr (by omega))
   clear dr rd fr
   go_wp2_with fail
   have HC2 := Lib.hid (okOf (within_r (HS1.out) { data := #[40] } { data := #[41] } [40] [41] (by rw [ByteArray.toList_eq]) (by rw [ByteArray.toList_eq]) (fn_of (nothing_does _) (by intro args w; simp [go_sem])) gd_nothing) e2.out)
   refine HC2.out.mono ?_
   rintro e w3 ⟨rfl, ⟨at2, v2, dr, rd⟩, fr⟩
   have HS2 := Lib.hid (HS1.out.then (s := 2) (gd_within (o := [40]) (c := [41]) gd_nothing d r1 F2 r2 e2.out) dr rd)
   have HF2 := Lib.hid (HF1.out.trans fr)
   have HM2 := Lib.hid (HM1.out.fr fr (by omega))
   clear dr rd fr
   obtain ⟨m0, m1, m2, m3, m4, m5⟩ := HM2.out.at
   go_wp2_with fail
   have HA := Lib.hid (add_any HS2.out.rd kd ln cl dn nm X 32 0 0 0 0 { data := #[] } (F1.app F2).cnt (by have := hdn.out; simp [post_len, cnt_app, Fo.cnt]; omega) (by have := HS2.out.rm; omega))
   refine HA.out.mono ?_
   rintro e wa ⟨rfl, ⟨va, rda⟩, fra⟩
   replace rda := Lib.hid rda
   replace fra := Lib.hid fra
   go_wp2_with fail
   go_ret
   exact ⟨rfl, ⟨at2, va, HS2.out.dr, rd_node rda.out (by simp [post_app, Fo.post, List.append_assoc]) (by simp [mkK, mkX, mkY, mkN, Inf.nd, ht.out]; try rfl)⟩, HF2.out.trans fra.out⟩

set_option maxHeartbeats 1000000 in
theorem make_list {w : World} {b tb to tc : Nat} {T : List Tok} {at_ d : Nat} {v : Value} {D : List Nd} {n : Nat} {ts : List Tok} (h : Sit w b tb to tc T at_ d v D n ts) {E : Pt} {N : Nat} (hm : sees [109, 97, 107, 101] ts = true) (hq : ¬ (hd ts.tail).kind = 2) (hE : Does 13 (n - 2) E) (hg : Gd 0 E) (hN : n ≤ N + 2) : Calls Tryz.prog 129 #[pR b] w (Post b tb to tc T d D w (makeP E N d ts)) := by
 have hbl := h.rd.lt
 obtain ⟨⟨kd, ln, cl, nm, tx⟩, ht⟩ : ∃ t, hd ts = t := ⟨_, rfl⟩
 obtain ⟨a, cap, hv⟩ := own_slice h.rd.own
 obtain ⟨X, hX⟩ : ∃ X, bs tx = X := ⟨_, rfl⟩
 obtain ⟨dn, hdn⟩ : ∃ dn, D.length = dn := ⟨_, rfl⟩
 have HH : Hid (Calls Tryz.prog 73 #[pR b] w fun e w' => e = .returned (sV kd ln cl nm X dn) ∧ Below w.heap.size w w') := Lib.hid (by have := here_any h ht dn hdn a cap (by rw [hv, hdn]); rw [hX] at this; exact this)
 have hk : (hd ts).kind ≠ 8 := by obtain ⟨t, l, rfl, hk, _⟩ := sees_cons hm; simp [hd]; omega
 have hlt : at_ < T.length := (List.getElem?_eq_some_iff.1 h.next).1
 have htn := h.rd.tn
 have hn : at_ < 1000000 := by omega
 replace hk := Lib.hid hk
 obtain ⟨⟨kd3, ln3, cl3, nm3, tx3⟩, hp2⟩ : ∃ t, hd ts.tail = t := ⟨_, rfl⟩
 have hF := tokF0 kd3 ln3 cl3 nm3 (bs tx3)
 have k3 : ((kd3 : Int) == 2) = false := by rw [hp2] at hq; simp at hq; rw [beq_eq_false_iff_ne]; omega
 cases e1 : (listTypeP (typeP N)) d ts.tail with
 | bad c l k =>
  rw [show (makeP E N) d ts = .bad c l k by simp only [makeP, nodeP, afterP, seqP, hq, if_false, Out.bind, e1]]
  replace e1 := Lib.hid e1
  have hs := Lib.hid h
  replace hp2 := Lib.hid hp2
  replace hq := Lib.hid hq
  replace ht := Lib.hid ht
  replace hX := Lib.hid hX
  replace hdn := Lib.hid hdn
  replace hv := Lib.hid hv
  clear h hlt htn
  go_enter Tryz.func129, Tryz.ntmps129
  go_wp2_with fail
  refine HH.out.mono ?_
  rintro e w1 ⟨rfl, hb⟩
  have c1 := (hs.out.rd.carry hb).c1
  have fz := (hs.out.rd.carry hb).fz
  have hbl1 := (hs.out.rd.carry hb).lt
  have HT := (hs.out.carry hb).tail ((hs.out.carry hb).rd.bump (at_ + 1)) hk.out
  rw [show ((at_ + 1 : Nat) : Int) = (at_ : Int) + 1 by omega] at HT
  replace HT := Lib.hid HT
  replace hb := Lib.hid hb
  go_wp2_with fail
  obtain ⟨W, hW⟩ : ∃ W, W = (w1.setCell ⟨b, 1, none⟩ (.int .i64 ((at_ : Int) + 1))).alloc (.cells #[.int .u8 kd, .int .i64 ln, .int .i64 cl, .int .i64 nm, .string X, .int .i64 dn] 70) := ⟨_, rfl⟩
  rw [← hW]
  have HS0 : Hid (Sit W b tb to tc T (at_ + 1) d v D (n - 1) ts.tail) := Lib.hid (by rw [hW]; exact HT.out.carry (below_alloc _ _))
  have HF0 : Hid (Fr b w W) := Lib.hid (by rw [hW]; exact ((Fr.only (Onl.below hb.out) (by omega)).trans (Fr.only (Onl.set _ _ _ _) (by omega))).trans (Fr.only (Onl.below (below_alloc _ _)) (by simp; omega)))
  have HM0 : Hid (SAt W w1.heap.size kd ln cl nm X dn) := Lib.hid (by rw [hW]; have := SAt.made (w1.setCell ⟨b, 1, none⟩ (.int .i64 ((at_ : Int) + 1))) kd ln cl nm X dn; simpa using this)
  clear hW HT c1 fz
  have HQ0 := Lib.hid (HS0.out.next_at hp2.out W (Below.refl _ _))
  refine HQ0.out.mono ?_
  rintro e wq ⟨rfl, hbq⟩
  replace HF0 := Lib.hid (HF0.out.trans (Fr.only (Onl.below hbq) (by have := HS0.out.rd.lt; omega)))
  replace HS0 := Lib.hid (HS0.out.carry hbq)
  replace HM0 := Lib.hid (HM0.out.below hbq)
  replace hbq := Lib.hid hbq
  go_wp2_with fail
  have HC1 := Lib.hid (badOf (listType_at (HS0.out) N (by omega)) e1.out)
  refine HC1.out.mono ?_
  rintro e w2 ⟨rfl, rf, fr⟩
  replace rf := Lib.hid rf
  replace fr := Lib.hid fr
  go_wp2_with fail
  go_ret
  exact ⟨rfl, rf.out, HF0.out.trans fr.out⟩
 | ok F1 r1 =>
  cases e2 : (withinP [40] [41] E) d r1 with
  | bad c l k =>
   rw [show (makeP E N) d ts = .bad c l k by simp only [makeP, nodeP, afterP, seqP, hq, if_false, Out.bind, e1, e2]]
   replace e1 := Lib.hid e1
   replace e2 := Lib.hid e2
   have hs := Lib.hid h
   replace hp2 := Lib.hid hp2
   replace hq := Lib.hid hq
   replace ht := Lib.hid ht
   replace hX := Lib.hid hX
   replace hdn := Lib.hid hdn
   replace hv := Lib.hid hv
   clear h hlt htn
   go_enter Tryz.func129, Tryz.ntmps129
   go_wp2_with fail
   refine HH.out.mono ?_
   rintro e w1 ⟨rfl, hb⟩
   have c1 := (hs.out.rd.carry hb).c1
   have fz := (hs.out.rd.carry hb).fz
   have hbl1 := (hs.out.rd.carry hb).lt
   have HT := (hs.out.carry hb).tail ((hs.out.carry hb).rd.bump (at_ + 1)) hk.out
   rw [show ((at_ + 1 : Nat) : Int) = (at_ : Int) + 1 by omega] at HT
   replace HT := Lib.hid HT
   replace hb := Lib.hid hb
   go_wp2_with fail
   obtain ⟨W, hW⟩ : ∃ W, W = (w1.setCell ⟨b, 1, none⟩ (.int .i64 ((at_ : Int) + 1))).alloc (.cells #[.int .u8 kd, .int .i64 ln, .int .i64 cl, .int .i64 nm, .string X, .int .i64 dn] 70) := ⟨_, rfl⟩
   rw [← hW]
   have HS0 : Hid (Sit W b tb to tc T (at_ + 1) d v D (n - 1) ts.tail) := Lib.hid (by rw [hW]; exact HT.out.carry (below_alloc _ _))
   have HF0 : Hid (Fr b w W) := Lib.hid (by rw [hW]; exact ((Fr.only (Onl.below hb.out) (by omega)).trans (Fr.only (Onl.set _ _ _ _) (by omega))).trans (Fr.only (Onl.below (below_alloc _ _)) (by simp; omega)))
   have HM0 : Hid (SAt W w1.heap.size kd ln cl nm X dn) := Lib.hid (by rw [hW]; have := SAt.made (w1.setCell ⟨b, 1, none⟩ (.int .i64 ((at_ : Int) + 1))) kd ln cl nm X dn; simpa using this)
   clear hW HT c1 fz
   have HQ0 := Lib.hid (HS0.out.next_at hp2.out W (Below.refl _ _))
   refine HQ0.out.mono ?_
   rintro e wq ⟨rfl, hbq⟩
   replace HF0 := Lib.hid (HF0.out.trans (Fr.only (Onl.below hbq) (by have := HS0.out.rd.lt; omega)))
   replace HS0 := Lib.hid (HS0.out.carry hbq)
   replace HM0 := Lib.hid (HM0.out.below hbq)
   replace hbq := Lib.hid hbq
   go_wp2_with fail
   have HC1 := Lib.hid (okOf (listType_at (HS0.out) N (by omega)) e1.out)
   refine HC1.out.mono ?_
   rintro e w2 ⟨rfl, ⟨at1, v1, dr, rd⟩, fr⟩
   have HS1 := Lib.hid (HS0.out.then (s := 1) (gd_listType (gd_type N) d ts.tail F1 r1 e1.out) dr rd)
   have HF1 := Lib.hid (HF0.out.trans fr)
   have HM1 := Lib.hid (HM0.out.fr fr (by omega))
   clear dr rd fr
   go_wp2_with fail
   have HC2 := Lib.hid (badOf (within_r (HS1.out) { data := #[40] } { data := #[41] } [40] [41] (by rw [ByteArray.toList_eq]) (by rw [ByteArray.toList_eq]) (fn_of (hE.mono (by omega)) (by intro args w; simp [go_sem])) hg) e2.out)
   refine HC2.out.mono ?_
   rintro e w3 ⟨rfl, rf, fr⟩
   replace rf := Lib.hid rf
   replace fr := Lib.hid fr
   go_wp2_with fail
   go_ret
   exact ⟨rfl, rf.out, HF1.out.trans fr.out⟩
  | ok F2 r2 =>
   rw [show (makeP E N) d ts = .ok (.cons (mkK 32 ts) (F1.app F2) .nil) r2 by simp only [makeP, nodeP, afterP, seqP, hq, if_false, Out.bind, e1, e2]]
   replace e1 := Lib.hid e1
   replace e2 := Lib.hid e2
   have hs := Lib.hid h
   replace hp2 := Lib.hid hp2
   replace hq := Lib.hid hq
   replace ht := Lib.hid ht
   replace hX := Lib.hid hX
   replace hdn := Lib.hid hdn
   replace hv := Lib.hid hv
   clear h hlt htn
   go_enter Tryz.func129, Tryz.ntmps129
   go_wp2_with fail
   refine HH.out.mono ?_
   rintro e w1 ⟨rfl, hb⟩
   have c1 := (hs.out.rd.carry hb).c1
   have fz := (hs.out.rd.carry hb).fz
   have hbl1 := (hs.out.rd.carry hb).lt
   have HT := (hs.out.carry hb).tail ((hs.out.carry hb).rd.bump (at_ + 1)) hk.out
   rw [show ((at_ + 1 : Nat) : Int) = (at_ : Int) + 1 by omega] at HT
   replace HT := Lib.hid HT
   replace hb := Lib.hid hb
   go_wp2_with fail
   obtain ⟨W, hW⟩ : ∃ W, W = (w1.setCell ⟨b, 1, none⟩ (.int .i64 ((at_ : Int) + 1))).alloc (.cells #[.int .u8 kd, .int .i64 ln, .int .i64 cl, .int .i64 nm, .string X, .int .i64 dn] 70) := ⟨_, rfl⟩
   rw [← hW]
   have HS0 : Hid (Sit W b tb to tc T (at_ + 1) d v D (n - 1) ts.tail) := Lib.hid (by rw [hW]; exact HT.out.carry (below_alloc _ _))
   have HF0 : Hid (Fr b w W) := Lib.hid (by rw [hW]; exact ((Fr.only (Onl.below hb.out) (by omega)).trans (Fr.only (Onl.set _ _ _ _) (by omega))).trans (Fr.only (Onl.below (below_alloc _ _)) (by simp; omega)))
   have HM0 : Hid (SAt W w1.heap.size kd ln cl nm X dn) := Lib.hid (by rw [hW]; have := SAt.made (w1.setCell ⟨b, 1, none⟩ (.int .i64 ((at_ : Int) + 1))) kd ln cl nm X dn; simpa using this)
   clear hW HT c1 fz
   have HQ0 := Lib.hid (HS0.out.next_at hp2.out W (Below.refl _ _))
   refine HQ0.out.mono ?_
   rintro e wq ⟨rfl, hbq⟩
   replace HF0 := Lib.hid (HF0.out.trans (Fr.only (Onl.below hbq) (by have := HS0.out.rd.lt; omega)))
   replace HS0 := Lib.hid (HS0.out.carry hbq)
   replace HM0 := Lib.hid (HM0.out.below hbq)
   replace hbq := Lib.hid hbq
   go_wp2_with fail
   have HC1 := Lib.hid (okOf (listType_at (HS0.out) N (by omega)) e1.out)
   refine HC1.out.mono ?_
   rintro e w2 ⟨rfl, ⟨at1, v1, dr, rd⟩, fr⟩
   have HS1 := Lib.hid (HS0.out.then (s := 1) (gd_listType (gd_type N) d ts.tail F1 r1 e1.out) dr rd)
   have HF1 := Lib.hid (HF0.out.trans fr)
   have HM1 := Lib.hid (HM0.out.fr fr (by omega))
   clear dr rd fr
   go_wp2_with fail
   have HC2 := Lib.hid (okOf (within_r (HS1.out) { data := #[40] } { data := #[41] } [40] [41] (by rw [ByteArray.toList_eq]) (by rw [ByteArray.toList_eq]) (fn_of (hE.mono (by omega)) (by intro args w; simp [go_sem])) hg) e2.out)
   refine HC2.out.mono ?_
   rintro e w3 ⟨rfl, ⟨at2, v2, dr, rd⟩, fr⟩
   have HS2 := Lib.hid (HS1.out.then (s := 2) (gd_within (o := [40]) (c := [41]) hg d r1 F2 r2 e2.out) dr rd)
   have HF2 := Lib.hid (HF1.out.trans fr)
   have HM2 := Lib.hid (HM1.out.fr fr (by omega))
   clear dr rd fr
   obtain ⟨m0, m1, m2, m3, m4, m5⟩ := HM2.out.at
   go_wp2_with fail
   have HA := Lib.hid (add_any HS2.out.rd kd ln cl dn nm X 32 0 0 0 0 { data := #[] } (F1.app F2).cnt (by have := hdn.out; simp [post_len, cnt_app, Fo.cnt]; omega) (by have := HS2.out.rm; omega))
   refine HA.out.mono ?_
   rintro e wa ⟨rfl, ⟨va, rda⟩, fra⟩
   replace rda := Lib.hid rda
   replace fra := Lib.hid fra
   go_wp2_with fail
   go_ret
   exact ⟨rfl, ⟨at2, va, HS2.out.dr, rd_node rda.out (by simp [post_app, Fo.post, List.append_assoc]) (by simp [mkK, mkX, mkY, mkN, Inf.nd, ht.out]; try rfl)⟩, HF2.out.trans fra.out⟩

theorem make_r {w : World} {b tb to tc : Nat} {T : List Tok} {at_ d : Nat} {v : Value} {D : List Nd} {n : Nat} {ts : List Tok} (h : Sit w b tb to tc T at_ d v D n ts) {E : Pt} {N : Nat} (hm : sees [109, 97, 107, 101] ts = true) (hE : Does 13 (n - 2) E) (hg : Gd 0 E) (hN : n ≤ N + 2) : Calls Tryz.prog 129 #[pR b] w (Post b tb to tc T d D w (makeP E N d ts)) := by
 by_cases hq : (hd ts.tail).kind = 2
 ·exact make_rec h hm hq
 ·exact make_list h hm hq hE hg hN

set_option maxHeartbeats 400000 in
theorem atom_r {w : World} {b tb to tc : Nat} {T : List Tok} {at_ d : Nat} {v : Value} {D : List Nd} {n : Nat} {ts : List Tok} (h : Sit w b tb to tc T at_ d v D n ts) {E : Pt} {N : Nat} (hE : Does 13 (n - 1) E) (hg : Gd 0 E) (hN : n ≤ N + 2) : Calls Tryz.prog 127 #[pR b] w (Post b tb to tc T d D w ((atomP E N) d ts)) := by
 have hbl := h.rd.lt
 obtain ⟨⟨kd, ln, cl, nm, tx⟩, ht⟩ : ∃ t, hd ts = t := ⟨_, rfl⟩
 obtain ⟨X, hX⟩ : ∃ X, bs tx = X := ⟨_, rfl⟩
 have hF := tokF0 kd ln cl nm X
 cases q0 : sees [40] ts with
 | true =>
  have HS := Lib.hid h
  have Q0 := Lib.hid (fun w' hb => sees_any (h.rd.carry (w' := w') hb) h.next { data := #[40] } [40] (by rw [ByteArray.toList_eq]) true q0)
  unfold atomP
  rw [if_pos q0]
  have HCALL := Lib.hid (fun (w' : World) (hb : Below w.heap.size w w') => within_r (h.carry hb) { data := #[40] } { data := #[41] } [40] [41] (by rw [ByteArray.toList_eq]) (by rw [ByteArray.toList_eq]) (fn_of hE (by intro args w; simp [go_sem])) hg)
  clear h ht hX
  go_enter Tryz.func127, Tryz.ntmps127
  go_wp2_with fail
  refine (Q0.out _ (Below.refl _ _)).mono ?_
  rintro e w1 ⟨rfl, hb1⟩
  replace hb1 := Lib.hid hb1
  go_wp2_with fail
  refine (HCALL.out _ (hb1.out)).mono ?_
  rintro e wz ⟨rfl, hw⟩
  replace hw := Lib.hid hw
  go_wp2_with fail
  go_ret
  exact ⟨rfl, hw.out.back (Fr.only (Onl.below (hb1.out)) (by omega))⟩
 | false =>
  cases q1 : sees [109, 97, 107, 101] ts with
  | true =>
   have HS := Lib.hid h
   have Q0 := Lib.hid (fun w' hb => sees_any (h.rd.carry (w' := w') hb) h.next { data := #[40] } [40] (by rw [ByteArray.toList_eq]) false q0)
   have Q1 := Lib.hid (fun w' hb => sees_any (h.rd.carry (w' := w') hb) h.next { data := #[109, 97, 107, 101] } [109, 97, 107, 101] (by rw [ByteArray.toList_eq]) true q1)
   unfold atomP
   rw [if_neg (show ¬ sees [40] ts = true by rw [q0]; simp), if_pos q1]
   have HCALL := Lib.hid (fun (w' : World) (hb : Below w.heap.size w w') => make_r (h.carry hb) q1 (hE.mono (by omega)) hg hN)
   clear h ht hX
   go_enter Tryz.func127, Tryz.ntmps127
   go_wp2_with fail
   refine (Q0.out _ (Below.refl _ _)).mono ?_
   rintro e w1 ⟨rfl, hb1⟩
   replace hb1 := Lib.hid hb1
   go_wp2_with fail
   refine (Q1.out _ (hb1.out)).mono ?_
   rintro e w2 ⟨rfl, hb2⟩
   replace hb2 := Lib.hid (below_step hb1.out hb2)
   go_wp2_with fail
   refine (HCALL.out _ (hb2.out)).mono ?_
   rintro e wz ⟨rfl, hw⟩
   replace hw := Lib.hid hw
   go_wp2_with fail
   go_ret
   exact ⟨rfl, hw.out.back (Fr.only (Onl.below (hb2.out)) (by omega))⟩
  | false =>
   by_cases q2 : (hd ts).kind = 1
   ·have hdum := True.intro
    have HS := Lib.hid h
    have Q0 := Lib.hid (fun w' hb => sees_any (h.rd.carry (w' := w') hb) h.next { data := #[40] } [40] (by rw [ByteArray.toList_eq]) false q0)
    have Q1 := Lib.hid (fun w' hb => sees_any (h.rd.carry (w' := w') hb) h.next { data := #[109, 97, 107, 101] } [109, 97, 107, 101] (by rw [ByteArray.toList_eq]) false q1)
    have Q2 := Lib.hid (fun w' hb => h.next_at ht w' hb)
    rw [hX] at Q2
    have k2 : ((kd : Int) == 1) = true := by rw [ht] at q2; simp at q2; rw [q2]; rfl
    unfold atomP
    rw [if_neg (show ¬ sees [40] ts = true by rw [q0]; simp), if_neg (show ¬ sees [109, 97, 107, 101] ts = true by rw [q1]; simp), if_pos q2]
    have HCALL := Lib.hid (fun (w' : World) (hb : Below w.heap.size w w') => name_r (h.carry hb) q2 (hE.mono (by omega)) hg hN)
    clear h ht hX
    go_enter Tryz.func127, Tryz.ntmps127
    go_wp2_with fail
    refine (Q0.out _ (Below.refl _ _)).mono ?_
    rintro e w1 ⟨rfl, hb1⟩
    replace hb1 := Lib.hid hb1
    go_wp2_with fail
    refine (Q1.out _ (hb1.out)).mono ?_
    rintro e w2 ⟨rfl, hb2⟩
    replace hb2 := Lib.hid (below_step hb1.out hb2)
    go_wp2_with fail
    refine (Q2.out _ (hb2.out)).mono ?_
    rintro e w3 ⟨rfl, hb3⟩
    replace hb3 := Lib.hid (below_step hb2.out hb3)
    go_wp2_with fail
    refine (HCALL.out _ (hb3.out)).mono ?_
    rintro e wz ⟨rfl, hw⟩
    replace hw := Lib.hid hw
    go_wp2_with fail
    go_ret
    exact ⟨rfl, hw.out.back (Fr.only (Onl.below (hb3.out)) (by omega))⟩
   have HS := Lib.hid h
   have Q0 := Lib.hid (fun w' hb => sees_any (h.rd.carry (w' := w') hb) h.next { data := #[40] } [40] (by rw [ByteArray.toList_eq]) false q0)
   have Q1 := Lib.hid (fun w' hb => sees_any (h.rd.carry (w' := w') hb) h.next { data := #[109, 97, 107, 101] } [109, 97, 107, 101] (by rw [ByteArray.toList_eq]) false q1)
   have Q2 := Lib.hid (fun w' hb => h.next_at ht w' hb)
   rw [hX] at Q2
   have k2 : ((kd : Int) == 1) = false := by rw [ht] at q2; simp at q2; rw [beq_eq_false_iff_ne]; omega
   unfold atomP
   rw [if_neg (show ¬ sees [40] ts = true by rw [q0]; simp), if_neg (show ¬ sees [109, 97, 107, 101] ts = true by rw [q1]; simp), if_neg q2]
   have HCALL := Lib.hid (fun (w' : World) (hb : Below w.heap.size w w') => constant_r (h.carry hb))
   clear h ht hX
   go_enter Tryz.func127, Tryz.ntmps127
   go_wp2_with fail
   refine (Q0.out _ (Below.refl _ _)).mono ?_
   rintro e w1 ⟨rfl, hb1⟩
   replace hb1 := Lib.hid hb1
   go_wp2_with fail
   refine (Q1.out _ (hb1.out)).mono ?_
   rintro e w2 ⟨rfl, hb2⟩
   replace hb2 := Lib.hid (below_step hb1.out hb2)
   go_wp2_with fail
   refine (Q2.out _ (hb2.out)).mono ?_
   rintro e w3 ⟨rfl, hb3⟩
   replace hb3 := Lib.hid (below_step hb2.out hb3)
   go_wp2_with fail
   refine (HCALL.out _ (hb3.out)).mono ?_
   rintro e wz ⟨rfl, hw⟩
   replace hw := Lib.hid hw
   go_wp2_with fail
   go_ret
   exact ⟨rfl, hw.out.back (Fr.only (Onl.below (hb3.out)) (by omega))⟩
end
end Go.Proofs.YtbknflaooemigaaGreat

namespace Go.Proofs.YtbknflaooemigaaGreat
section
open Go.RowKit Go.Sort
set_option linter.unusedVariables false
set_option linter.unusedSimpArgs false

def dotP (F : Fo) : Pt := fun d ts => (kindP 1 d ts.tail).bind fun _ r => .ok (.cons (mkY 29 ts) F .nil) r

set_option maxHeartbeats 1000000 in
theorem dot_r {w : World} {b tb to tc : Nat} {T : List Tok} {at_ d : Nat} {v : Value} {D : List Nd} {F : Fo} {n : Nat} {ts : List Tok} (h : Sit w b tb to tc T at_ d v (D ++ F.post) n ts) (hk : (hd ts).kind ≠ 8) {kd ln cl : Nat} {nm : Int} {tx : List UInt8} (ht : hd ts = ⟨kd, ln, cl, nm, tx⟩) (X : ByteArray) (dn : Nat) (hdn : D.length = dn) :
  Calls Tryz.prog 128 #[pR b, sV kd ln cl nm X dn] w (Post b tb to tc T d D w (dotP F d ts)) := by
 have hbl := h.rd.lt
 have hlt : at_ < T.length := (List.getElem?_eq_some_iff.1 h.next).1
 have htn := h.rd.tn
 have hn : at_ < 1000000 := by omega
 obtain ⟨⟨kd2, ln2, cl2, nm2, tx2⟩, ht2⟩ : ∃ t, hd ts.tail = t := ⟨_, rfl⟩
 obtain ⟨X2, hX2⟩ : ∃ X2, bs tx2 = X2 := ⟨_, rfl⟩
 have hF := tokF4 kd2 ln2 cl2 nm2 X2
 have c1 := h.rd.c1
 have fz := h.rd.fz
 have hsz := h.rm
 have HT := h.tail (h.rd.bump (at_ + 1)) hk
 rw [show ((at_ + 1 : Nat) : Int) = (at_ : Int) + 1 by omega] at HT
 obtain ⟨W, hW⟩ : ∃ W, W = (w.setCell ⟨b, 1, none⟩ (.int .i64 ((at_ : Int) + 1))).alloc (.cells #[.int .u8 kd, .int .i64 ln, .int .i64 cl, .int .i64 nm, .string X, .int .i64 dn] 70) := ⟨_, rfl⟩
 have HS0 : Hid (Sit W b tb to tc T (at_ + 1) d v (D ++ F.post) (n - 1) ts.tail) := Lib.hid (by rw [hW]; exact HT.carry (below_alloc _ _))
 have HF0 : Hid (Fr b w W) := Lib.hid (by rw [hW]; exact (Fr.only (Onl.set _ _ _ _) (by omega)).trans (Fr.only (Onl.below (below_alloc _ _)) (by simp; omega)))
 have HM0 : Hid (SAt W w.heap.size kd ln cl nm X dn) := Lib.hid (by rw [hW]; have := SAt.made (w.setCell ⟨b, 1, none⟩ (.int .i64 ((at_ : Int) + 1))) kd ln cl nm X dn; simpa using this)
 have HN := Lib.hid (HS0.out.next_at ht2 W (Below.refl _ _))
 rw [hX2] at HN
 unfold dotP
 cases e1 : kindP 1 d ts.tail with
 | bad c l k =>
  replace e1 := Lib.hid e1
  clear h HT hlt htn hk ht hX2 ht2
  go_enter Tryz.func128, Tryz.ntmps128
  go_wp2_with fail
  rw [← hW]
  clear hW
  refine HN.out.mono ?_
  rintro e w1 ⟨rfl, hb⟩
  have HC := Lib.hid (badOf (kind_any (HS0.out.carry hb) 1 (by decide)) e1.out)
  replace HF0 := Lib.hid (HF0.out.trans (Fr.only (Onl.below hb) (by have := HS0.out.rd.lt; omega)))
  replace hb := Lib.hid hb
  go_wp2_with fail
  refine HC.out.mono ?_
  rintro e w2 ⟨rfl, rf, fr⟩
  replace rf := Lib.hid rf
  replace fr := Lib.hid fr
  go_wp2_with fail
  go_ret
  exact ⟨rfl, rf.out, HF0.out.trans fr.out⟩
 | ok F1 r1 =>
  have hF1 : F1 = .nil := by
   unfold kindP passP at e1
   split at e1
   ·cases e1; rfl
   ·cases e1
  subst hF1
  replace e1 := Lib.hid e1
  replace ht := Lib.hid ht
  replace ht2 := Lib.hid ht2
  replace hX2 := Lib.hid hX2
  clear h HT hlt htn hk
  go_enter Tryz.func128, Tryz.ntmps128
  go_wp2_with fail
  rw [← hW]
  clear hW
  refine HN.out.mono ?_
  rintro e w1 ⟨rfl, hb⟩
  have HC := Lib.hid (okOf (kind_any (HS0.out.carry hb) 1 (by decide)) e1.out)
  replace HF0 := Lib.hid (HF0.out.trans (Fr.only (Onl.below hb) (by have := HS0.out.rd.lt; omega)))
  replace HM0 := Lib.hid (HM0.out.below hb)
  replace hb := Lib.hid hb
  go_wp2_with fail
  refine HC.out.mono ?_
  rintro e w2 ⟨rfl, ⟨at1, v1, dr, rd⟩, fr⟩
  obtain ⟨m0, m1, m2, m3, m4, m5⟩ := (HM0.out.fr fr (by omega)).at
  have HA := Lib.hid (add_any rd kd ln cl dn nm X 29 0 0 0 0 X2 F.cnt (by simp [post_len, Fo.post, hdn]) (by simp [Fo.post] at *; omega))
  replace dr := Lib.hid dr
  replace fr := Lib.hid fr
  clear rd
  go_wp2_with fail
  refine HA.out.mono ?_
  rintro e w3 ⟨rfl, ⟨v3, rd3⟩, fr3⟩
  replace rd3 := Lib.hid rd3
  replace fr3 := Lib.hid fr3
  go_wp2_with fail
  go_ret
  exact ⟨rfl, ⟨at1, v3, dr.out, rd_node rd3.out (by simp [Fo.post]) (by simp [mkY, Inf.nd, ht.out, ht2.out, hX2.out])⟩, (HF0.out.trans fr.out).trans fr3.out⟩

def PLoop (w : World) (b tb to tc : Nat) (T : List Tok) (d : Nat) (D : List Nd) (n : Nat) (E : Pt) (R : Out) (v : Value) (wr : World) : Prop :=
 (v = .bool true ∧ ∃ (at_ : Nat) (v : Value) (F : Fo) (ts : List Tok) (m : Nat), Sit wr b tb to tc T at_ d v (D ++ F.post) n ts ∧ postL E m F d ts = R ∧ ts.length ≤ m ∧ Fr b w wr) ∨
 (v = .bool false ∧ ∃ c l k, R = .bad c l k ∧ Rf wr b c l k ∧ Fr b w wr)

theorem grown_sit {w w' : World} {b tb to tc : Nat} {T : List Tok} {at_ d : Nat} {v : Value} {D : List Nd} {n m : Nat} {F G : Fo} {ts r : List Tok} (h : Sit w b tb to tc T at_ d v (D ++ F.post) n ts) (hl : Lft m ts r) (hc : G.cnt = F.cnt + m) {at' : Nat} {v' : Value} (hdr : T.drop at' = r) (hr : Rd w' b tb to tc T at' d v' (D ++ G.post)) : Sit w' b tb to tc T at' d v' (D ++ G.post) n r := by
 have h1 := hl.1
 have h2 := h.ln
 have h3 := h.rm
 rw [List.length_append, post_len] at h3
 exact ⟨hr, hdr, hl.2.1 h.en, by omega, by rw [List.length_append, post_len]; omega, h.dp⟩

set_option maxHeartbeats 2000000 in
theorem post_r {w : World} {b tb to tc : Nat} {T : List Tok} {at_ d : Nat} {v : Value} {D : List Nd} {n : Nat} {ts : List Tok} (h : Sit w b tb to tc T at_ d v D n ts) {E : Pt} (hE : Does 13 (n - 1) E) (hg : Gd 0 E) (N : Nat) (hN : n ≤ N) :
  Calls Tryz.prog 126 #[pR b] w (Post b tb to tc T d D w (postP E N d ts)) := by
 have hbl := h.rd.lt
 have HA := Lib.hid (atom_r h (N := N) hE hg (by omega))
 obtain ⟨a, cap, hv⟩ := own_slice h.rd.own
 obtain ⟨dn, hdn⟩ : ∃ dn, D.length = dn := ⟨_, rfl⟩
 have c3 := h.rd.c3
 rw [hv, hdn] at c3
 unfold postP
 obtain ⟨o, ho⟩ : ∃ o, atomP E N d ts = o := ⟨_, rfl⟩
 rw [ho] at HA ⊢
 have HL := Lib.hid (fun F r e => gd_atom hg N d ts F r (ho.trans e))
 have hs := Lib.hid h
 replace hg := Lib.hid hg
 replace hE := Lib.hid hE
 replace hdn := Lib.hid hdn
 clear h ho hv
 cases o with
 | bad c l k =>
  go_enter Tryz.func126, Tryz.ntmps126
  go_wp2_with fail
  refine HA.out.mono ?_
  rintro e w1 ⟨rfl, hw⟩
  replace hw := Lib.hid hw
  go_wp2_with fail
  refine wp_loop_rounds 1 ?_
  rw [rounds_succ]
  go_wp2_with fail
  go_ret
  exact ⟨rfl, hw.out⟩
 | ok F r =>
  obtain ⟨R, hR⟩ : ∃ R, postL E N F d r = R := ⟨_, rfl⟩
  rw [show (Out.bind (Out.ok F r) fun F r => postL E N F d r) = R from hR]
  have HS2 : Hid (∀ w1, (PostW b tb to tc T d D w (.ok F r) w1) → PLoop w b tb to tc T d D n E R (.bool true) w1) := Lib.hid (by
   rintro w1 ⟨⟨at', v', hdr, hrd⟩, hfr⟩
   have h2 := hs.out.then (s := 0) (HL.out F r rfl) hdr hrd
   exact .inl ⟨rfl, at', v', F, r, N, h2.up (by omega), hR, by have := h2.ln; omega, hfr⟩)
  clear hR
  go_enter Tryz.func126, Tryz.ntmps126
  go_wp2_with fail
  refine HA.out.mono ?_
  rintro e w1 ⟨rfl, hw⟩
  replace hw := Lib.hid (HS2.out w1 hw)
  go_wp2_with fail
  go_loopw [4] (fun v wr => PLoop w b tb to tc T d D n E R v wr) (fun v wr => okM v (left T b wr))
  case atStart => exact hw.out
  case round =>
   clear hw HA HS2 HL
   rcases hrel with ⟨rfl, at1, v1, F1, ts1, m, hs1, hRR, hm, hfr⟩ | ⟨rfl, c', l', k', hRR, hrf, hfr⟩
   ·obtain ⟨t, l, hts⟩ := hs1.en.ne
    obtain ⟨m, rfl⟩ : ∃ m', m = m' + 1 := ⟨m - 1, by rw [hts] at hm; simp at hm; omega⟩
    obtain ⟨⟨kd, ln, cl, nm, tx⟩, ht⟩ : ∃ t, hd ts1 = t := ⟨_, rfl⟩
    have HN := Lib.hid (hs1.next_at ht wr (Below.refl _ _))
    obtain ⟨X, hX⟩ : ∃ X, bs tx = X := ⟨_, rfl⟩
    rw [hX] at HN
    clear hX hts
    cases q0 : sees [91] ts1 with
    | true =>
     obtain ⟨o, ho⟩ : ∃ o, withinP [91] [93] E d ts1 = o := ⟨_, rfl⟩
     have HRR : Hid ((o.bind fun G r => postL E m (.cons (mkK 28 ts1) (F1.app G) .nil) d r) = R) := Lib.hid (by rw [← hRR, ← ho]; conv => rhs; unfold postL; rw [if_pos q0])
     have HC := Lib.hid (fun (w' : World) (hb : Below wr.heap.size wr w') => within_r (hs1.carry hb) { data := #[91] } { data := #[93] } [91] [93] (by rw [ByteArray.toList_eq]) (by rw [ByteArray.toList_eq]) (fn_of hE.out (by intro args w; simp [go_sem])) hg.out)
     rw [ho] at HC
     have HL2 := Lib.hid (fun G r e => gd_within (o := [91]) (c := [93]) hg.out d ts1 G r (ho.trans e))
     have HQ := Lib.hid (fun (w' : World) (hb : Below wr.heap.size wr w') => sees_any (hs1.rd.carry hb) hs1.next { data := #[91] } [91] (by rw [ByteArray.toList_eq]) true q0)
     replace hs1 := Lib.hid hs1
     replace hfr := Lib.hid hfr
     replace ht := Lib.hid ht
     clear hRR ho q0
     go_wp2_with fail
     refine HN.out.mono ?_
     rintro e w2 ⟨rfl, hb2⟩
     have HM := Lib.hid (SAt.made w2 kd ln cl nm X dn)
     have hbw2 : b < w2.heap.size := (hs1.out.rd.carry hb2).lt
     replace hb2 := Lib.hid (below_step hb2 (below_alloc w2 (.cells #[.int .u8 kd, .int .i64 ln, .int .i64 cl, .int .i64 nm, .string X, .int .i64 dn] 70)))
     go_wp2_with fail
     refine (HQ.out _ hb2.out).mono ?_
     rintro e w3 ⟨rfl, hb3⟩
     replace HM := Lib.hid (HM.out.below hb3)
     replace hb3 := Lib.hid (below_step hb2.out hb3)
     go_wp2_with fail
     refine (HC.out _ hb3.out).mono ?_
     rintro e w4 ⟨rfl, hw4⟩
     have HF := Lib.hid (hfr.out.trans (Fr.only (Onl.below hb3.out) (by have := hs1.out.rd.lt; omega)))
     cases o with
     | bad c2 l2 k2 =>
      replace hw4 := Lib.hid hw4
      go_wp2_with fail
      go_roundw
      case rel => exact .inr ⟨rfl, c2, l2, k2, HRR.out.symm, hw4.out.1, HF.out.trans hw4.out.2⟩
      case measure => simp [okM, Out.good]
     | ok G r2 =>
      obtain ⟨⟨at', v', hdr, hrd⟩, hf4⟩ := hw4
      obtain ⟨m0, m1, m2, m3, m4, m5⟩ := (HM.out.fr hf4 (by omega)).at
      have hl2 := (HL2.out G r2 rfl).1
      have hrm := hs1.out.rm
      have HA := Lib.hid (add_any hrd kd ln cl dn nm X 28 0 0 0 0 { data := #[] } (F1.app G).cnt (by have := hdn.out; simp [post_len, cnt_app]; omega) (by simp [post_len] at *; omega))
      replace hf4 := Lib.hid (HF.out.trans hf4)
      replace hdr := Lib.hid hdr
      clear hrd
      go_wp2_with fail
      refine HA.out.mono ?_
      rintro e w5 ⟨rfl, ⟨v5, rd5⟩, fr5⟩
      have hr5 : Rd w5 b tb to tc T at' d v5 (D ++ (Fo.cons (mkK 28 ts1) (F1.app G) .nil).post) := rd_node rd5 (by simp [post_app]) (by simp [mkK, Inf.nd, ht.out]; rfl)
      have hs5 := Lib.hid (grown_sit (G := .cons (mkK 28 ts1) (F1.app G) .nil) (m := G.cnt + 1) hs1.out ((HL2.out G r2 rfl).mono (by omega)) (by simp [Fo.cnt, cnt_app]; omega) hdr.out hr5)
      replace fr5 := Lib.hid fr5
      clear rd5 hr5
      go_wp2_with fail
      go_roundw
      case rel => exact .inl ⟨rfl, at', v5, _, r2, m, hs5.out, HRR.out, by omega, hf4.out.trans fr5.out⟩
      case measure =>
       rw [left_at hs5.out, left_at hs1.out]
       simp [okM]
       omega
    | false =>
     have HQ := Lib.hid (fun (w' : World) (hb : Below wr.heap.size wr w') => sees_any (hs1.rd.carry hb) hs1.next { data := #[91] } [91] (by rw [ByteArray.toList_eq]) false q0)
     cases q1 : sees [46] ts1 with
     | true =>
      obtain ⟨o, ho⟩ : ∃ o, dotP F1 d ts1 = o := ⟨_, rfl⟩
      have hk1 : (hd ts1).kind ≠ 8 := by
       obtain ⟨t, l, rfl, hk, _⟩ := sees_cons q1
       simp [hd]; omega
      have HRR : Hid ((o.bind fun G r => postL E m G d r) = R) := Lib.hid (by
       rw [← hRR, ← ho]
       conv => rhs; unfold postL; rw [if_neg (show ¬ sees [91] ts1 = true by rw [q0]; simp), if_pos q1]
       unfold dotP
       cases kindP 1 d ts1.tail <;> rfl)
      have HQ2 := Lib.hid (fun (w' : World) (hb : Below wr.heap.size wr w') => sees_any (hs1.rd.carry hb) hs1.next { data := #[46] } [46] (by rw [ByteArray.toList_eq]) true q1)
      have HC := Lib.hid (fun (w' : World) (hb : Below wr.heap.size wr w') => dot_r (hs1.carry hb) hk1 ht X dn hdn.out)
      rw [ho] at HC
      have HL2 : Hid (∀ G r, o = .ok G r → ∃ k, Lft (k + 1) ts1 r ∧ G.cnt = F1.cnt + (k + 1)) := Lib.hid fun G r e => by
       rw [e] at ho
       obtain ⟨F2, r2, e1, e2⟩ := bind_ok ho
       cases e2
       exact ⟨0, ((lft_sees q1).trans (gd_kind 1 (by decide) (by decide) _ _ _ _ e1)).mono (by omega), by simp [Fo.cnt]⟩
      replace hs1 := Lib.hid hs1
      replace hfr := Lib.hid hfr
      replace ht := Lib.hid ht
      clear hRR ho q0 q1 hk1
      go_wp2_with fail
      refine HN.out.mono ?_
      rintro e w2 ⟨rfl, hb2⟩
      have HM := Lib.hid (SAt.made w2 kd ln cl nm X dn)
      have hbw2 : b < w2.heap.size := (hs1.out.rd.carry hb2).lt
      replace hb2 := Lib.hid (below_step hb2 (below_alloc w2 (.cells #[.int .u8 kd, .int .i64 ln, .int .i64 cl, .int .i64 nm, .string X, .int .i64 dn] 70)))
      go_wp2_with fail
      refine (HQ.out _ hb2.out).mono ?_
      rintro e w3 ⟨rfl, hb3⟩
      replace HM := Lib.hid (HM.out.below hb3)
      replace hb3 := Lib.hid (below_step hb2.out hb3)
      go_wp2_with fail
      refine (HQ2.out _ hb3.out).mono ?_
      rintro e w4 ⟨rfl, hb4⟩
      obtain ⟨m0, m1, m2, m3, m4, m5⟩ := (HM.out.below hb4).at
      replace hb4 := Lib.hid (below_step hb3.out hb4)
      go_wp2_with fail
      refine (HC.out _ hb4.out).mono ?_
      rintro e w5 ⟨rfl, hw5⟩
      have HF := Lib.hid (hfr.out.trans (Fr.only (Onl.below hb4.out) (by have := hs1.out.rd.lt; omega)))
      cases o with
      | bad c2 l2 k2 =>
       replace hw5 := Lib.hid hw5
       go_wp2_with fail
       go_roundw
       case rel => exact .inr ⟨rfl, c2, l2, k2, HRR.out.symm, hw5.out.1, HF.out.trans hw5.out.2⟩
       case measure => simp [okM, Out.good]
      | ok G r2 =>
       obtain ⟨⟨at', v', hdr, hrd⟩, hf5⟩ := hw5
       obtain ⟨k2, hl2, hc2⟩ := HL2.out G r2 rfl
       have hs5 := Lib.hid (grown_sit hs1.out hl2 hc2 hdr hrd)
       have hl3 := hl2.1
       replace hf5 := Lib.hid hf5
       clear hdr hrd hl2
       go_wp2_with fail
       go_roundw
       case rel => exact .inl ⟨rfl, at', v', G, r2, m, hs5.out, HRR.out, by omega, HF.out.trans hf5.out⟩
       case measure =>
        rw [left_at hs5.out, left_at hs1.out]
        simp [okM, Out.good]
        omega
     | false =>
      have HR : Hid (R = .ok F1 ts1) := Lib.hid (by rw [← hRR]; unfold postL; rw [if_neg (show ¬ sees [91] ts1 = true by rw [q0]; simp), if_neg (show ¬ sees [46] ts1 = true by rw [q1]; simp)])
      have HQ2 := Lib.hid (fun (w' : World) (hb : Below wr.heap.size wr w') => sees_any (hs1.rd.carry hb) hs1.next { data := #[46] } [46] (by rw [ByteArray.toList_eq]) false q1)
      replace hs1 := Lib.hid hs1
      replace hfr := Lib.hid hfr
      clear hRR q0 q1 ht
      go_wp2_with fail
      refine HN.out.mono ?_
      rintro e w2 ⟨rfl, hb2⟩
      replace hb2 := Lib.hid (below_step hb2 (below_alloc w2 (.cells #[.int .u8 kd, .int .i64 ln, .int .i64 cl, .int .i64 nm, .string X, .int .i64 dn] 70)))
      go_wp2_with fail
      refine (HQ.out _ hb2.out).mono ?_
      rintro e w3 ⟨rfl, hb3⟩
      replace hb3 := Lib.hid (below_step hb2.out hb3)
      go_wp2_with fail
      refine (HQ2.out _ hb3.out).mono ?_
      rintro e w4 ⟨rfl, hb4⟩
      replace hb4 := Lib.hid (below_step hb3.out hb4)
      go_wp2_with fail
      go_ret
      rw [HR.out]
      exact ⟨rfl, ⟨at1, v1, hs1.out.dr, hs1.out.rd.carry hb4.out⟩, hfr.out.trans (Fr.only (Onl.below hb4.out) (by have := hs1.out.rd.lt; omega))⟩
   ·replace hRR := Lib.hid hRR
    replace hrf := Lib.hid hrf
    replace hfr := Lib.hid hfr
    go_wp2_with fail
    go_ret
    rw [hRR.out]
    exact ⟨rfl, hrf.out, hfr.out⟩

theorem eu_does (n : Nat) : Does 13 n (exprP n) ∧ Does 117 n (unP n) := by
 induction n with
 | zero => exact ⟨fun w b tb to tc T at_ d v D ts h => (sit_pos h).elim, fun w b tb to tc T at_ d v D ts h => (sit_pos h).elim⟩
 | succ n ih =>
  have hp : Does 126 (n + 1) (postP (exprP n) (n + 1)) := fun w b tb to tc T at_ d v D ts h => post_r h ih.1 (gd_expr n) (n + 1) (Nat.le_refl _)
  have hu : Does 117 (n + 1) (unP (n + 1)) := fun w b tb to tc T at_ d v D ts h => unary_r h ih.2 (gd_un n) hp
  have gu := gd_un (n + 1)
  have gt : Gd 0 (termP (unP (n + 1)) (n + 1)) := gd_chain gu _ _
  have gs : Gd 0 (sumP (unP (n + 1)) (n + 1)) := gd_chain gt _ _
  have gl : Gd 0 (lessP (unP (n + 1)) (n + 1)) := gd_pair gs _
  have ge : Gd 0 (equalP (unP (n + 1)) (n + 1)) := gd_pair gl _
  have ga : Gd 0 (andP (unP (n + 1)) (n + 1)) := gd_chain ge _ _
  exact ⟨or_does (and_does (equal_does (less_does (sum_does (term_does hu gu (n + 1) (Nat.le_refl _)) gt (n + 1) (Nat.le_refl _)) gs) gl) ge (n + 1) (Nat.le_refl _)) ga (n + 1) (Nat.le_refl _), hu⟩
theorem expr_does (n : Nat) : Does 13 n (exprP n) := (eu_does n).1
end
end Go.Proofs.YtbknflaooemigaaGreat
