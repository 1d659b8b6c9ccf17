/-
 Contracts and plain facts on the way to PrettyTerms. Conditions: as each says.
-/
import Derived.Test.YtoaplbljflhheaaGreatTbe
set_option maxHeartbeats 40000000
set_option maxRecDepth 100000
set_option linter.unusedVariables false
set_option linter.unusedSimpArgs false
namespace Go.Proofs.YtoaplbljflhheaaGreat
section
open Go.RowKit Go.Sort
theorem a1l {w : World} {b tb to tc : Nat} {T : List Tok} {at_ d : Nat} {v : Value} {D : List Nd} {n : Nat} {ts : List Tok} (h : Sit w b tb to tc T at_ d v D n ts) {p : Pt} (hp : Gz 179 (n - 1) p) (hg : Gd 0 p) : Calls Tryz.prog 179 #[pR b] w (Ho b tb to tc T d D w ((L5 [91] (Az p) Am) d ts)) := by
 have hbl := h.rd.lt
 cases q0 : sees [91] ts with
 | true =>
  have HS := zz h
  have Q0 := zz (fun w' hb => A0 (h.rd.carry (w' := w') hb) h.next { data := #[91] } [91] (by rw [ByteArray.toList_eq]) true q0)
  simp only [L5]
  rw [if_pos q0]
  have HCALL := zz (fun (w' : World) (hb : Below w.heap.size w w') => Nk (h.carry hb) hp hg)
  clear h
  go_enter Tryz.func179, Tryz.ntmps179
  go_wp2_with fail
  refine (Q0.out _ (Below.refl _ _)).mono ?_
  rintro e w1 ⟨rfl, hb1⟩
  replace hb1 := zz hb1
  go_wp2_with fail
  refine (HCALL.out _ (hb1.out)).mono ?_
  rintro e wz ⟨rfl, hw⟩
  replace hw := zz hw
  go_wp2_with fail
  go_ret
  exact ⟨rfl, hw.out.back (Fr.only (Onl.below (hb1.out)) (by omega))⟩
 | false =>
  have HS := zz h
  have Q0 := zz (fun w' hb => A0 (h.rd.carry (w' := w') hb) h.next { data := #[91] } [91] (by rw [ByteArray.toList_eq]) false q0)
  simp only [L5]
  rw [if_neg (show ¬ sees [91] ts = true by rw [q0]; simp)]
  have HCALL := zz (fun (w' : World) (hb : Below w.heap.size w w') => Gi (h.carry hb))
  clear h
  go_enter Tryz.func179, Tryz.ntmps179
  go_wp2_with fail
  refine (Q0.out _ (Below.refl _ _)).mono ?_
  rintro e w1 ⟨rfl, hb1⟩
  replace hb1 := zz hb1
  go_wp2_with fail
  refine (HCALL.out _ (hb1.out)).mono ?_
  rintro e wz ⟨rfl, hw⟩
  replace hw := zz hw
  go_wp2_with fail
  go_ret
  exact ⟨rfl, hw.out.back (Fr.only (Onl.below (hb1.out)) (by omega))⟩
theorem Re {w : World} {b tb to tc : Nat} {T : List Tok} {at_ d : Nat} {v : Value} {D : List Nd} {ts : List Tok} (h : Sit w b tb to tc T at_ d v D 0 ts) : False := by
 obtain ⟨t, l, rfl⟩ := h.en.ne
 have := h.ln
 simp at this
theorem W2 (n : Nat) : Gz 179 n (Fd n) := by
 induction n with
 | zero => intro w b tb to tc T at_ d v D ts h; exact (Re h).elim
 | succ n ih => intro w b tb to tc T at_ d v D ts h; exact a1l h ih (Ma n)
theorem Im {w : World} {b tb to tc : Nat} {T : List Tok} {at_ d : Nat} {v : Value} {D : List Nd} {n : Nat} {ts : List Tok} (h : Sit w b tb to tc T at_ d v D n ts) (N : Nat) (hN : n ≤ N + 1) : Calls Tryz.prog 195 #[pR b] w (Ho b tb to tc T d D w (Az (Fd N) d ts)) :=
 Nk h ((W2 N).mono (by omega)) (Ma N)
theorem Su {w : World} {b tb to tc : Nat} {T : List Tok} {at_ d : Nat} {v : Value} {D : List Nd} {n : Nat} {ts : List Tok} (h : Sit w b tb to tc T at_ d v D n ts) {U : Pt} {x : List UInt8} (hq : sees x ts = true) (hU : Gz 211 (n - 1) U) (hg : Gd 0 U) (op : Int) : Calls Tryz.prog 213 #[pR b, .int .i64 op] w (Ho b tb to tc T d D w (Dm (mkN 30 op) (By U) d ts)) := by
 have hbl := h.rd.lt
 have hk0 : (hd ts).kind ≠ 8 := by obtain ⟨t, l, rfl, hk, _⟩ := C7 hq; simp [hd]; omega
 obtain ⟨⟨kd, ln, cl, nm, tx⟩, ht⟩ : ∃ t, hd ts = t := ⟨_, rfl⟩
 obtain ⟨a, cap, hv⟩ := Cj h.rd.own
 obtain ⟨X, hX⟩ : ∃ X, bs tx = X := ⟨_, rfl⟩
 obtain ⟨dn, hdn⟩ : ∃ dn, D.length = dn := ⟨_, rfl⟩
 have HH : Hid (Calls Tryz.prog 136 #[pR b] w fun e w' => e = .returned (sV kd ln cl nm X dn) ∧ Below w.heap.size w w') := zz (by have := E9 h ht dn hdn a cap (by rw [hv, hdn]); rw [hX] at this; exact this)
 cases e1 : (By U) d ts with
 | bad c l k =>
  rw [show (Dm (mkN 30 op) (By U)) d ts = .bad c l k by simp only [Dm, Out.bind, e1]]
  replace e1 := zz e1
  have hs := zz h
  replace ht := zz ht
  replace hX := zz hX
  replace hdn := zz hdn
  replace hv := zz hv
  clear h
  go_enter Tryz.func213, Tryz.ntmps213
  go_wp2_with fail
  refine HH.out.mono ?_
  rintro e w1 ⟨rfl, hb⟩
  have hbl1 := (hs.out.rd.carry hb).lt
  replace hb := zz hb
  go_wp2_with fail
  obtain ⟨W, hW⟩ : ∃ W, W = w1.alloc (.cells #[.int .u8 kd, .int .i64 ln, .int .i64 cl, .int .i64 nm, .string X, .int .i64 dn] 93) := ⟨_, rfl⟩
  rw [← hW]
  have HS0 : Hid (Sit W b tb to tc T at_ d v D n ts) := zz (by rw [hW]; exact (hs.out.carry hb.out).carry (Aa _ _))
  have HF0 : Hid (Fr b w W) := zz (by rw [hW]; exact (Fr.only (Onl.below hb.out) (by omega)).trans (Fr.only (Onl.below (Aa _ _)) (by omega)))
  have HM0 : Hid (SAt W w1.heap.size kd ln cl nm X dn) := zz (by rw [hW]; exact SAt.made w1 kd ln cl nm X dn)
  clear hW
  have HC1 := zz (O3 (J5 (HS0.out) hk0 (Gp hU (by intro args w; simp [go_sem]))) e1.out)
  refine HC1.out.mono ?_
  rintro e w2 ⟨rfl, rf, fr⟩
  replace rf := zz rf
  replace fr := zz fr
  go_wp2_with fail
  go_ret
  exact ⟨rfl, rf.out, HF0.out.trans fr.out⟩
 | ok F1 r1 =>
  rw [show (Dm (mkN 30 op) (By U)) d ts = .ok (.cons (mkN 30 op ts) (F1) .nil) r1 by simp only [Dm, Out.bind, e1]]
  replace e1 := zz e1
  have hs := zz h
  replace ht := zz ht
  replace hX := zz hX
  replace hdn := zz hdn
  replace hv := zz hv
  clear h
  go_enter Tryz.func213, Tryz.ntmps213
  go_wp2_with fail
  refine HH.out.mono ?_
  rintro e w1 ⟨rfl, hb⟩
  have hbl1 := (hs.out.rd.carry hb).lt
  replace hb := zz hb
  go_wp2_with fail
  obtain ⟨W, hW⟩ : ∃ W, W = w1.alloc (.cells #[.int .u8 kd, .int .i64 ln, .int .i64 cl, .int .i64 nm, .string X, .int .i64 dn] 93) := ⟨_, rfl⟩
  rw [← hW]
  have HS0 : Hid (Sit W b tb to tc T at_ d v D n ts) := zz (by rw [hW]; exact (hs.out.carry hb.out).carry (Aa _ _))
  have HF0 : Hid (Fr b w W) := zz (by rw [hW]; exact (Fr.only (Onl.below hb.out) (by omega)).trans (Fr.only (Onl.below (Aa _ _)) (by omega)))
  have HM0 : Hid (SAt W w1.heap.size kd ln cl nm X dn) := zz (by rw [hW]; exact SAt.made w1 kd ln cl nm X dn)
  clear hW
  have HC1 := zz (Wi (J5 (HS0.out) hk0 (Gp hU (by intro args w; simp [go_sem]))) e1.out)
  refine HC1.out.mono ?_
  rintro e w2 ⟨rfl, ⟨at1, v1, dr, rd⟩, fr⟩
  have HS1 := zz (HS0.out.then (s := 1) (Hj (d := d) hq hg F1 r1 e1.out) dr rd)
  have HF1 := zz (HF0.out.trans fr)
  have HM1 := zz (HM0.out.fr fr (by omega))
  clear dr rd fr
  obtain ⟨m0, m1, m2, m3, m4, m5⟩ := HM1.out.at
  go_wp2_with fail
  have HA := zz (Ex HS1.out.rd kd ln cl dn nm X 30 0 0 0 op { data := #[] } (F1).cnt (by have := hdn.out; simp [Au, Ds, Fo.cnt]; omega) (by have := HS1.out.rm; omega))
  refine HA.out.mono ?_
  rintro e wa ⟨rfl, ⟨va, rda⟩, fra⟩
  replace rda := zz rda
  replace fra := zz fra
  go_wp2_with fail
  go_ret
  exact ⟨rfl, ⟨at1, va, HS1.out.dr, Hb rda.out (by simp [Di, Fo.post, List.append_assoc]) (by simp [mkK, mkX, mkY, mkN, Inf.nd, ht.out]; try rfl)⟩, HF1.out.trans fra.out⟩
theorem a68 {w : World} {b tb to tc : Nat} {T : List Tok} {at_ d : Nat} {v : Value} {D : List Nd} {n : Nat} {ts : List Tok} (h : Sit w b tb to tc T at_ d v D n ts) {U p : Pt} (hU : Gz 211 (n - 1) U) (hg : Gd 0 U) (hp : Gz 214 n p) : Calls Tryz.prog 211 #[pR b] w (Ho b tb to tc T d D w ((Cq U p) d ts)) := by
 have hbl := h.rd.lt
 cases q0 : sees [45] ts with
 | true =>
  have HS := zz h
  have Q0 := zz (fun w' hb => A0 (h.rd.carry (w' := w') hb) h.next { data := #[45] } [45] (by rw [ByteArray.toList_eq]) true q0)
  unfold Cq
  rw [if_pos q0]
  have HCALL := zz (fun (w' : World) (hb : Below w.heap.size w w') => Su (h.carry hb) q0 hU hg 12)
  clear h
  go_enter Tryz.func211, Tryz.ntmps211
  go_wp2_with fail
  refine (Q0.out _ (Below.refl _ _)).mono ?_
  rintro e w1 ⟨rfl, hb1⟩
  replace hb1 := zz hb1
  go_wp2_with fail
  refine (HCALL.out _ (hb1.out)).mono ?_
  rintro e wz ⟨rfl, hw⟩
  replace hw := zz hw
  go_wp2_with fail
  go_ret
  exact ⟨rfl, hw.out.back (Fr.only (Onl.below (hb1.out)) (by omega))⟩
 | false =>
  cases q1 : sees [33] ts with
  | true =>
   have HS := zz h
   have Q0 := zz (fun w' hb => A0 (h.rd.carry (w' := w') hb) h.next { data := #[45] } [45] (by rw [ByteArray.toList_eq]) false q0)
   have Q1 := zz (fun w' hb => A0 (h.rd.carry (w' := w') hb) h.next { data := #[33] } [33] (by rw [ByteArray.toList_eq]) true q1)
   unfold Cq
   rw [if_neg (show ¬ sees [45] ts = true by rw [q0]; simp), if_pos q1]
   have HCALL := zz (fun (w' : World) (hb : Below w.heap.size w w') => Su (h.carry hb) q1 hU hg 13)
   clear h
   go_enter Tryz.func211, Tryz.ntmps211
   go_wp2_with fail
   refine (Q0.out _ (Below.refl _ _)).mono ?_
   rintro e w1 ⟨rfl, hb1⟩
   replace hb1 := zz hb1
   go_wp2_with fail
   refine (Q1.out _ (hb1.out)).mono ?_
   rintro e w2 ⟨rfl, hb2⟩
   replace hb2 := zz (Ab hb1.out hb2)
   go_wp2_with fail
   refine (HCALL.out _ (hb2.out)).mono ?_
   rintro e wz ⟨rfl, hw⟩
   replace hw := zz hw
   go_wp2_with fail
   go_ret
   exact ⟨rfl, hw.out.back (Fr.only (Onl.below (hb2.out)) (by omega))⟩
  | false =>
   have HS := zz h
   have Q0 := zz (fun w' hb => A0 (h.rd.carry (w' := w') hb) h.next { data := #[45] } [45] (by rw [ByteArray.toList_eq]) false q0)
   have Q1 := zz (fun w' hb => A0 (h.rd.carry (w' := w') hb) h.next { data := #[33] } [33] (by rw [ByteArray.toList_eq]) false q1)
   unfold Cq
   rw [if_neg (show ¬ sees [45] ts = true by rw [q0]; simp), if_neg (show ¬ sees [33] ts = true by rw [q1]; simp)]
   have HCALL := zz (fun (w' : World) (hb : Below w.heap.size w w') => hp (h.carry hb))
   clear h
   go_enter Tryz.func211, Tryz.ntmps211
   go_wp2_with fail
   refine (Q0.out _ (Below.refl _ _)).mono ?_
   rintro e w1 ⟨rfl, hb1⟩
   replace hb1 := zz hb1
   go_wp2_with fail
   refine (Q1.out _ (hb1.out)).mono ?_
   rintro e w2 ⟨rfl, hb2⟩
   replace hb2 := zz (Ab hb1.out hb2)
   go_wp2_with fail
   refine (HCALL.out _ (hb2.out)).mono ?_
   rintro e wz ⟨rfl, hw⟩
   replace hw := zz hw
   go_wp2_with fail
   go_ret
   exact ⟨rfl, hw.out.back (Fr.only (Onl.below (hb2.out)) (by omega))⟩
theorem Vv {w : World} {b tb to tc : Nat} {T : List Tok} {at_ d : Nat} {v : Value} {D : List Nd} {n : Nat} {ts : List Tok} (h : Sit w b tb to tc T at_ d v D n ts) {E : Pt} {N : Nat} (hk1 : (hd ts).kind = 1) (hq : sees [40] ts.tail = false) : Calls Tryz.prog 218 #[pR b] w (Ho b tb to tc T d D w (Es E N d ts)) := by
 have hbl := h.rd.lt
 obtain ⟨⟨kd, ln, cl, nm, tx⟩, ht⟩ : ∃ t, hd ts = t := ⟨_, rfl⟩
 obtain ⟨a, cap, hv⟩ := Cj h.rd.own
 obtain ⟨X, hX⟩ : ∃ X, bs tx = X := ⟨_, rfl⟩
 obtain ⟨dn, hdn⟩ : ∃ dn, D.length = dn := ⟨_, rfl⟩
 have HH : Hid (Calls Tryz.prog 136 #[pR b] w fun e w' => e = .returned (sV kd ln cl nm X dn) ∧ Below w.heap.size w w') := zz (by have := E9 h ht dn hdn a cap (by rw [hv, hdn]); rw [hX] at this; exact this)
 have hk : (hd ts).kind ≠ 8 := by rw [hk1]; decide
 have hlt : at_ < T.length := (List.getElem?_eq_some_iff.1 h.next).1
 have htn := h.rd.tn
 have hn : at_ < 1000000 := by omega
 replace hk := zz hk
 rw [show (Es E N) d ts = .ok (.cons (mkX 26 ts) (Fo.nil) .nil) ts.tail by simp only [Es, hq, Bool.false_eq_true, if_false]]
 have hs := zz h
 replace hq := zz hq
 replace ht := zz ht
 replace hX := zz hX
 replace hdn := zz hdn
 replace hv := zz hv
 clear h hlt htn
 go_enter Tryz.func218, Tryz.ntmps218
 go_wp2_with fail
 refine HH.out.mono ?_
 rintro e w1 ⟨rfl, hb⟩
 have c1 := (hs.out.rd.carry hb).c1
 have fz := (hs.out.rd.carry hb).fz
 have hbl1 := (hs.out.rd.carry hb).lt
 have HT := (hs.out.carry hb).tail ((hs.out.carry hb).rd.bump (at_ + 1)) hk.out
 rw [show ((at_ + 1 : Nat) : Int) = (at_ : Int) + 1 by omega] at HT
 replace HT := zz HT
 replace hb := zz hb
 go_wp2_with fail
 obtain ⟨W, hW⟩ : ∃ W, W = (w1.setCell ⟨b, 1, none⟩ (.int .i64 ((at_ : Int) + 1))).alloc (.cells #[.int .u8 kd, .int .i64 ln, .int .i64 cl, .int .i64 nm, .string X, .int .i64 dn] 93) := ⟨_, rfl⟩
 rw [← hW]
 have HS0 : Hid (Sit W b tb to tc T (at_ + 1) d v D (n - 1) ts.tail) := zz (by rw [hW]; exact HT.out.carry (Aa _ _))
 have HF0 : Hid (Fr b w W) := zz (by rw [hW]; exact ((Fr.only (Onl.below hb.out) (by omega)).trans (Fr.only (Onl.set _ _ _ _) (by omega))).trans (Fr.only (Onl.below (Aa _ _)) (by simp; omega)))
 have HM0 : Hid (SAt W w1.heap.size kd ln cl nm X dn) := zz (by rw [hW]; have := SAt.made (w1.setCell ⟨b, 1, none⟩ (.int .i64 ((at_ : Int) + 1))) kd ln cl nm X dn; simpa using this)
 clear hW HT c1 fz
 have HQ0 := zz (A0 HS0.out.rd HS0.out.next { data := #[40] } [40] (by rw [ByteArray.toList_eq]) false hq.out)
 refine HQ0.out.mono ?_
 rintro e wq ⟨rfl, hbq⟩
 replace HF0 := zz (HF0.out.trans (Fr.only (Onl.below hbq) (by have := HS0.out.rd.lt; omega)))
 replace HS0 := zz (HS0.out.carry hbq)
 replace HM0 := zz (HM0.out.below hbq)
 replace hbq := zz hbq
 obtain ⟨m0, m1, m2, m3, m4, m5⟩ := HM0.out.at
 go_wp2_with fail
 have HA := zz (Ex HS0.out.rd kd ln cl dn nm X 26 0 0 0 0 X (Fo.nil).cnt (by have := hdn.out; simp [Au, Ds, Fo.cnt]; omega) (by have := HS0.out.rm; omega))
 refine HA.out.mono ?_
 rintro e wa ⟨rfl, ⟨va, rda⟩, fra⟩
 replace rda := zz rda
 replace fra := zz fra
 go_wp2_with fail
 go_ret
 exact ⟨rfl, ⟨(at_ + 1), va, HS0.out.dr, Hb rda.out (by simp [Di, Fo.post, List.append_assoc]) (by simp [mkK, mkX, mkY, mkN, Inf.nd, ht.out, hX.out]; try rfl)⟩, HF0.out.trans fra.out⟩
theorem Zl {w : World} {b tb to tc : Nat} {T : List Tok} {at_ d : Nat} {v : Value} {D : List Nd} {n : Nat} {ts : List Tok} (h : Sit w b tb to tc T at_ d v D n ts) {E : Pt} {N : Nat} (hk1 : (hd ts).kind = 1) (hq : sees [40] ts.tail = true) (hE : Gz 39 (n - 2) E) (hg : Gd 0 E) (hN : n ≤ N + 2) : Calls Tryz.prog 218 #[pR b] w (Ho b tb to tc T d D w (Es E N d ts)) := by
 have hbl := h.rd.lt
 obtain ⟨⟨kd, ln, cl, nm, tx⟩, ht⟩ : ∃ t, hd ts = t := ⟨_, rfl⟩
 obtain ⟨a, cap, hv⟩ := Cj h.rd.own
 obtain ⟨X, hX⟩ : ∃ X, bs tx = X := ⟨_, rfl⟩
 obtain ⟨dn, hdn⟩ : ∃ dn, D.length = dn := ⟨_, rfl⟩
 have HH : Hid (Calls Tryz.prog 136 #[pR b] w fun e w' => e = .returned (sV kd ln cl nm X dn) ∧ Below w.heap.size w w') := zz (by have := E9 h ht dn hdn a cap (by rw [hv, hdn]); rw [hX] at this; exact this)
 have hk : (hd ts).kind ≠ 8 := by rw [hk1]; decide
 have hlt : at_ < T.length := (List.getElem?_eq_some_iff.1 h.next).1
 have htn := h.rd.tn
 have hn : at_ < 1000000 := by omega
 replace hk := zz hk
 cases e1 : (Ax [40] [41] (Dn E N)) d ts.tail with
 | bad c l k =>
  rw [show (Es E N) d ts = .bad c l k by simp only [Es, Dm, Fc, hq, if_true, Out.bind, e1]]
  replace e1 := zz e1
  have hs := zz h
  replace hq := zz hq
  replace ht := zz ht
  replace hX := zz hX
  replace hdn := zz hdn
  replace hv := zz hv
  clear h hlt htn
  go_enter Tryz.func218, Tryz.ntmps218
  go_wp2_with fail
  refine HH.out.mono ?_
  rintro e w1 ⟨rfl, hb⟩
  have c1 := (hs.out.rd.carry hb).c1
  have fz := (hs.out.rd.carry hb).fz
  have hbl1 := (hs.out.rd.carry hb).lt
  have HT := (hs.out.carry hb).tail ((hs.out.carry hb).rd.bump (at_ + 1)) hk.out
  rw [show ((at_ + 1 : Nat) : Int) = (at_ : Int) + 1 by omega] at HT
  replace HT := zz HT
  replace hb := zz hb
  go_wp2_with fail
  obtain ⟨W, hW⟩ : ∃ W, W = (w1.setCell ⟨b, 1, none⟩ (.int .i64 ((at_ : Int) + 1))).alloc (.cells #[.int .u8 kd, .int .i64 ln, .int .i64 cl, .int .i64 nm, .string X, .int .i64 dn] 93) := ⟨_, rfl⟩
  rw [← hW]
  have HS0 : Hid (Sit W b tb to tc T (at_ + 1) d v D (n - 1) ts.tail) := zz (by rw [hW]; exact HT.out.carry (Aa _ _))
  have HF0 : Hid (Fr b w W) := zz (by rw [hW]; exact ((Fr.only (Onl.below hb.out) (by omega)).trans (Fr.only (Onl.set _ _ _ _) (by omega))).trans (Fr.only (Onl.below (Aa _ _)) (by simp; omega)))
  have HM0 : Hid (SAt W w1.heap.size kd ln cl nm X dn) := zz (by rw [hW]; have := SAt.made (w1.setCell ⟨b, 1, none⟩ (.int .i64 ((at_ : Int) + 1))) kd ln cl nm X dn; simpa using this)
  clear hW HT c1 fz
  have HQ0 := zz (A0 HS0.out.rd HS0.out.next { data := #[40] } [40] (by rw [ByteArray.toList_eq]) true hq.out)
  refine HQ0.out.mono ?_
  rintro e wq ⟨rfl, hbq⟩
  replace HF0 := zz (HF0.out.trans (Fr.only (Onl.below hbq) (by have := HS0.out.rd.lt; omega)))
  replace HS0 := zz (HS0.out.carry hbq)
  replace HM0 := zz (HM0.out.below hbq)
  replace hbq := zz hbq
  go_wp2_with fail
  have HC1 := zz (O3 (Dy (HS0.out) { data := #[40] } { data := #[41] } [40] [41] (by rw [ByteArray.toList_eq]) (by rw [ByteArray.toList_eq]) (Gp (Ie (n := n - 1 - 1) (hE.mono (by omega)) hg N (by omega)) (by intro args w; simp [go_sem])) (Jg hg N)) e1.out)
  refine HC1.out.mono ?_
  rintro e w2 ⟨rfl, rf, fr⟩
  replace rf := zz rf
  replace fr := zz fr
  go_wp2_with fail
  go_ret
  exact ⟨rfl, rf.out, HF0.out.trans fr.out⟩
 | ok F1 r1 =>
  rw [show (Es E N) d ts = .ok (.cons (mkX 27 ts) (F1) .nil) r1 by simp only [Es, Dm, Fc, hq, if_true, Out.bind, e1]]
  replace e1 := zz e1
  have hs := zz h
  replace hq := zz hq
  replace ht := zz ht
  replace hX := zz hX
  replace hdn := zz hdn
  replace hv := zz hv
  clear h hlt htn
  go_enter Tryz.func218, Tryz.ntmps218
  go_wp2_with fail
  refine HH.out.mono ?_
  rintro e w1 ⟨rfl, hb⟩
  have c1 := (hs.out.rd.carry hb).c1
  have fz := (hs.out.rd.carry hb).fz
  have hbl1 := (hs.out.rd.carry hb).lt
  have HT := (hs.out.carry hb).tail ((hs.out.carry hb).rd.bump (at_ + 1)) hk.out
  rw [show ((at_ + 1 : Nat) : Int) = (at_ : Int) + 1 by omega] at HT
  replace HT := zz HT
  replace hb := zz hb
  go_wp2_with fail
  obtain ⟨W, hW⟩ : ∃ W, W = (w1.setCell ⟨b, 1, none⟩ (.int .i64 ((at_ : Int) + 1))).alloc (.cells #[.int .u8 kd, .int .i64 ln, .int .i64 cl, .int .i64 nm, .string X, .int .i64 dn] 93) := ⟨_, rfl⟩
  rw [← hW]
  have HS0 : Hid (Sit W b tb to tc T (at_ + 1) d v D (n - 1) ts.tail) := zz (by rw [hW]; exact HT.out.carry (Aa _ _))
  have HF0 : Hid (Fr b w W) := zz (by rw [hW]; exact ((Fr.only (Onl.below hb.out) (by omega)).trans (Fr.only (Onl.set _ _ _ _) (by omega))).trans (Fr.only (Onl.below (Aa _ _)) (by simp; omega)))
  have HM0 : Hid (SAt W w1.heap.size kd ln cl nm X dn) := zz (by rw [hW]; have := SAt.made (w1.setCell ⟨b, 1, none⟩ (.int .i64 ((at_ : Int) + 1))) kd ln cl nm X dn; simpa using this)
  clear hW HT c1 fz
  have HQ0 := zz (A0 HS0.out.rd HS0.out.next { data := #[40] } [40] (by rw [ByteArray.toList_eq]) true hq.out)
  refine HQ0.out.mono ?_
  rintro e wq ⟨rfl, hbq⟩
  replace HF0 := zz (HF0.out.trans (Fr.only (Onl.below hbq) (by have := HS0.out.rd.lt; omega)))
  replace HS0 := zz (HS0.out.carry hbq)
  replace HM0 := zz (HM0.out.below hbq)
  replace hbq := zz hbq
  go_wp2_with fail
  have HC1 := zz (Wi (Dy (HS0.out) { data := #[40] } { data := #[41] } [40] [41] (by rw [ByteArray.toList_eq]) (by rw [ByteArray.toList_eq]) (Gp (Ie (n := n - 1 - 1) (hE.mono (by omega)) hg N (by omega)) (by intro args w; simp [go_sem])) (Jg hg N)) e1.out)
  refine HC1.out.mono ?_
  rintro e w2 ⟨rfl, ⟨at1, v1, dr, rd⟩, fr⟩
  have HS1 := zz (HS0.out.then (s := 2) (C0 (o := [40]) (c := [41]) (Jg hg N) d ts.tail F1 r1 e1.out) dr rd)
  have HF1 := zz (HF0.out.trans fr)
  have HM1 := zz (HM0.out.fr fr (by omega))
  clear dr rd fr
  obtain ⟨m0, m1, m2, m3, m4, m5⟩ := HM1.out.at
  go_wp2_with fail
  have HA := zz (Ex HS1.out.rd kd ln cl dn nm X 27 0 0 0 0 X (F1).cnt (by have := hdn.out; simp [Au, Ds, Fo.cnt]; omega) (by have := HS1.out.rm; omega))
  refine HA.out.mono ?_
  rintro e wa ⟨rfl, ⟨va, rda⟩, fra⟩
  replace rda := zz rda
  replace fra := zz fra
  go_wp2_with fail
  go_ret
  exact ⟨rfl, ⟨at1, va, HS1.out.dr, Hb rda.out (by simp [Di, Fo.post, List.append_assoc]) (by simp [mkK, mkX, mkY, mkN, Inf.nd, ht.out, hX.out]; try rfl)⟩, HF1.out.trans fra.out⟩
theorem b22 {w : World} {b tb to tc : Nat} {T : List Tok} {at_ d : Nat} {v : Value} {D : List Nd} {n : Nat} {ts : List Tok} (h : Sit w b tb to tc T at_ d v D n ts) {E : Pt} {N : Nat} (hk1 : (hd ts).kind = 1) (hE : Gz 39 (n - 2) E) (hg : Gd 0 E) (hN : n ≤ N + 2) : Calls Tryz.prog 218 #[pR b] w (Ho b tb to tc T d D w (Es E N d ts)) := by
 cases hq : sees [40] ts.tail with
 | true => exact Zl h hk1 hq hE hg hN
 | false => exact Vv h hk1 hq
theorem a3w {w : World} {b tb to tc : Nat} {T : List Tok} {at_ d : Nat} {v : Value} {D : List Nd} {n : Nat} {ts : List Tok} (h : Sit w b tb to tc T at_ d v D n ts) {E : Pt} {N : Nat} (hm : sees [109, 97, 107, 101] ts = true) (hq : (hd ts.tail).kind = 2) : Calls Tryz.prog 217 #[pR b] w (Ho b tb to tc T d D w (Fg E N d ts)) := by
 have hbl := h.rd.lt
 obtain ⟨⟨kd, ln, cl, nm, tx⟩, ht⟩ : ∃ t, hd ts = t := ⟨_, rfl⟩
 obtain ⟨a, cap, hv⟩ := Cj h.rd.own
 obtain ⟨X, hX⟩ : ∃ X, bs tx = X := ⟨_, rfl⟩
 obtain ⟨dn, hdn⟩ : ∃ dn, D.length = dn := ⟨_, rfl⟩
 have HH : Hid (Calls Tryz.prog 136 #[pR b] w fun e w' => e = .returned (sV kd ln cl nm X dn) ∧ Below w.heap.size w w') := zz (by have := E9 h ht dn hdn a cap (by rw [hv, hdn]); rw [hX] at this; exact this)
 have hk : (hd ts).kind ≠ 8 := by obtain ⟨t, l, rfl, hk, _⟩ := C7 hm; simp [hd]; omega
 have hlt : at_ < T.length := (List.getElem?_eq_some_iff.1 h.next).1
 have htn := h.rd.tn
 have hn : at_ < 1000000 := by omega
 replace hk := zz hk
 obtain ⟨⟨kd3, ln3, cl3, nm3, tx3⟩, hp2⟩ : ∃ t, hd ts.tail = t := ⟨_, rfl⟩
 have hF := Un kd3 ln3 cl3 nm3 (bs tx3)
 have k3 : ((kd3 : Int) == 2) = true := by rw [hp2] at hq; simp at hq; rw [hq]; rfl
 cases e1 : (Am) d ts.tail with
 | bad c l k =>
  rw [show (Fg E N) d ts = .bad c l k by simp only [Fg, Dm, Fc, Lr, hq, if_true, Out.bind, e1]]
  replace e1 := zz e1
  have hs := zz h
  replace hp2 := zz hp2
  replace hq := zz hq
  replace ht := zz ht
  replace hX := zz hX
  replace hdn := zz hdn
  replace hv := zz hv
  clear h hlt htn
  go_enter Tryz.func217, Tryz.ntmps217
  go_wp2_with fail
  refine HH.out.mono ?_
  rintro e w1 ⟨rfl, hb⟩
  have c1 := (hs.out.rd.carry hb).c1
  have fz := (hs.out.rd.carry hb).fz
  have hbl1 := (hs.out.rd.carry hb).lt
  have HT := (hs.out.carry hb).tail ((hs.out.carry hb).rd.bump (at_ + 1)) hk.out
  rw [show ((at_ + 1 : Nat) : Int) = (at_ : Int) + 1 by omega] at HT
  replace HT := zz HT
  replace hb := zz hb
  go_wp2_with fail
  obtain ⟨W, hW⟩ : ∃ W, W = (w1.setCell ⟨b, 1, none⟩ (.int .i64 ((at_ : Int) + 1))).alloc (.cells #[.int .u8 kd, .int .i64 ln, .int .i64 cl, .int .i64 nm, .string X, .int .i64 dn] 93) := ⟨_, rfl⟩
  rw [← hW]
  have HS0 : Hid (Sit W b tb to tc T (at_ + 1) d v D (n - 1) ts.tail) := zz (by rw [hW]; exact HT.out.carry (Aa _ _))
  have HF0 : Hid (Fr b w W) := zz (by rw [hW]; exact ((Fr.only (Onl.below hb.out) (by omega)).trans (Fr.only (Onl.set _ _ _ _) (by omega))).trans (Fr.only (Onl.below (Aa _ _)) (by simp; omega)))
  have HM0 : Hid (SAt W w1.heap.size kd ln cl nm X dn) := zz (by rw [hW]; have := SAt.made (w1.setCell ⟨b, 1, none⟩ (.int .i64 ((at_ : Int) + 1))) kd ln cl nm X dn; simpa using this)
  clear hW HT c1 fz
  have HQ0 := zz (HS0.out.next_at hp2.out W (Below.refl _ _))
  refine HQ0.out.mono ?_
  rintro e wq ⟨rfl, hbq⟩
  replace HF0 := zz (HF0.out.trans (Fr.only (Onl.below hbq) (by have := HS0.out.rd.lt; omega)))
  replace HS0 := zz (HS0.out.carry hbq)
  replace HM0 := zz (HM0.out.below hbq)
  replace hbq := zz hbq
  go_wp2_with fail
  have HC1 := zz (O3 (Gi (HS0.out)) e1.out)
  refine HC1.out.mono ?_
  rintro e w2 ⟨rfl, rf, fr⟩
  replace rf := zz rf
  replace fr := zz fr
  go_wp2_with fail
  go_ret
  exact ⟨rfl, rf.out, HF0.out.trans fr.out⟩
 | ok F1 r1 =>
  cases e2 : (Ax [40] [41] C2) d r1 with
  | bad c l k =>
   rw [show (Fg E N) d ts = .bad c l k by simp only [Fg, Dm, Fc, Lr, hq, if_true, Out.bind, e1, e2]]
   replace e1 := zz e1
   replace e2 := zz e2
   have hs := zz h
   replace hp2 := zz hp2
   replace hq := zz hq
   replace ht := zz ht
   replace hX := zz hX
   replace hdn := zz hdn
   replace hv := zz hv
   clear h hlt htn
   go_enter Tryz.func217, Tryz.ntmps217
   go_wp2_with fail
   refine HH.out.mono ?_
   rintro e w1 ⟨rfl, hb⟩
   have c1 := (hs.out.rd.carry hb).c1
   have fz := (hs.out.rd.carry hb).fz
   have hbl1 := (hs.out.rd.carry hb).lt
   have HT := (hs.out.carry hb).tail ((hs.out.carry hb).rd.bump (at_ + 1)) hk.out
   rw [show ((at_ + 1 : Nat) : Int) = (at_ : Int) + 1 by omega] at HT
   replace HT := zz HT
   replace hb := zz hb
   go_wp2_with fail
   obtain ⟨W, hW⟩ : ∃ W, W = (w1.setCell ⟨b, 1, none⟩ (.int .i64 ((at_ : Int) + 1))).alloc (.cells #[.int .u8 kd, .int .i64 ln, .int .i64 cl, .int .i64 nm, .string X, .int .i64 dn] 93) := ⟨_, rfl⟩
   rw [← hW]
   have HS0 : Hid (Sit W b tb to tc T (at_ + 1) d v D (n - 1) ts.tail) := zz (by rw [hW]; exact HT.out.carry (Aa _ _))
   have HF0 : Hid (Fr b w W) := zz (by rw [hW]; exact ((Fr.only (Onl.below hb.out) (by omega)).trans (Fr.only (Onl.set _ _ _ _) (by omega))).trans (Fr.only (Onl.below (Aa _ _)) (by simp; omega)))
   have HM0 : Hid (SAt W w1.heap.size kd ln cl nm X dn) := zz (by rw [hW]; have := SAt.made (w1.setCell ⟨b, 1, none⟩ (.int .i64 ((at_ : Int) + 1))) kd ln cl nm X dn; simpa using this)
   clear hW HT c1 fz
   have HQ0 := zz (HS0.out.next_at hp2.out W (Below.refl _ _))
   refine HQ0.out.mono ?_
   rintro e wq ⟨rfl, hbq⟩
   replace HF0 := zz (HF0.out.trans (Fr.only (Onl.below hbq) (by have := HS0.out.rd.lt; omega)))
   replace HS0 := zz (HS0.out.carry hbq)
   replace HM0 := zz (HM0.out.below hbq)
   replace hbq := zz hbq
   go_wp2_with fail
   have HC1 := zz (Wi (Gi (HS0.out)) e1.out)
   refine HC1.out.mono ?_
   rintro e w2 ⟨rfl, ⟨at1, v1, dr, rd⟩, fr⟩
   have HS1 := zz (HS0.out.then (s := 0) (Fa d ts.tail F1 r1 e1.out) dr rd)
   have HF1 := zz (HF0.out.trans fr)
   have HM1 := zz (HM0.out.fr fr (by omega))
   clear dr rd fr
   go_wp2_with fail
   have HC2 := zz (O3 (Dy (HS1.out) { data := #[40] } { data := #[41] } [40] [41] (by rw [ByteArray.toList_eq]) (by rw [ByteArray.toList_eq]) (Gp (Kg _) (by intro args w; simp [go_sem])) F9) e2.out)
   refine HC2.out.mono ?_
   rintro e w3 ⟨rfl, rf, fr⟩
   replace rf := zz rf
   replace fr := zz fr
   go_wp2_with fail
   go_ret
   exact ⟨rfl, rf.out, HF1.out.trans fr.out⟩
  | ok F2 r2 =>
   rw [show (Fg E N) d ts = .ok (.cons (mkK 32 ts) (F1.app F2) .nil) r2 by simp only [Fg, Dm, Fc, Lr, hq, if_true, Out.bind, e1, e2]]
   replace e1 := zz e1
   replace e2 := zz e2
   have hs := zz h
   replace hp2 := zz hp2
   replace hq := zz hq
   replace ht := zz ht
   replace hX := zz hX
   replace hdn := zz hdn
   replace hv := zz hv
   clear h hlt htn
   go_enter Tryz.func217, Tryz.ntmps217
   go_wp2_with fail
   refine HH.out.mono ?_
   rintro e w1 ⟨rfl, hb⟩
   have c1 := (hs.out.rd.carry hb).c1
   have fz := (hs.out.rd.carry hb).fz
   have hbl1 := (hs.out.rd.carry hb).lt
   have HT := (hs.out.carry hb).tail ((hs.out.carry hb).rd.bump (at_ + 1)) hk.out
   rw [show ((at_ + 1 : Nat) : Int) = (at_ : Int) + 1 by omega] at HT
   replace HT := zz HT
   replace hb := zz hb
   go_wp2_with fail
   obtain ⟨W, hW⟩ : ∃ W, W = (w1.setCell ⟨b, 1, none⟩ (.int .i64 ((at_ : Int) + 1))).alloc (.cells #[.int .u8 kd, .int .i64 ln, .int .i64 cl, .int .i64 nm, .string X, .int .i64 dn] 93) := ⟨_, rfl⟩
   rw [← hW]
   have HS0 : Hid (Sit W b tb to tc T (at_ + 1) d v D (n - 1) ts.tail) := zz (by rw [hW]; exact HT.out.carry (Aa _ _))
   have HF0 : Hid (Fr b w W) := zz (by rw [hW]; exact ((Fr.only (Onl.below hb.out) (by omega)).trans (Fr.only (Onl.set _ _ _ _) (by omega))).trans (Fr.only (Onl.below (Aa _ _)) (by simp; omega)))
   have HM0 : Hid (SAt W w1.heap.size kd ln cl nm X dn) := zz (by rw [hW]; have := SAt.made (w1.setCell ⟨b, 1, none⟩ (.int .i64 ((at_ : Int) + 1))) kd ln cl nm X dn; simpa using this)
   clear hW HT c1 fz
   have HQ0 := zz (HS0.out.next_at hp2.out W (Below.refl _ _))
   refine HQ0.out.mono ?_
   rintro e wq ⟨rfl, hbq⟩
   replace HF0 := zz (HF0.out.trans (Fr.only (Onl.below hbq) (by have := HS0.out.rd.lt; omega)))
   replace HS0 := zz (HS0.out.carry hbq)
   replace HM0 := zz (HM0.out.below hbq)
   replace hbq := zz hbq
   go_wp2_with fail
   have HC1 := zz (Wi (Gi (HS0.out)) e1.out)
   refine HC1.out.mono ?_
   rintro e w2 ⟨rfl, ⟨at1, v1, dr, rd⟩, fr⟩
   have HS1 := zz (HS0.out.then (s := 0) (Fa d ts.tail F1 r1 e1.out) dr rd)
   have HF1 := zz (HF0.out.trans fr)
   have HM1 := zz (HM0.out.fr fr (by omega))
   clear dr rd fr
   go_wp2_with fail
   have HC2 := zz (Wi (Dy (HS1.out) { data := #[40] } { data := #[41] } [40] [41] (by rw [ByteArray.toList_eq]) (by rw [ByteArray.toList_eq]) (Gp (Kg _) (by intro args w; simp [go_sem])) F9) e2.out)
   refine HC2.out.mono ?_
   rintro e w3 ⟨rfl, ⟨at2, v2, dr, rd⟩, fr⟩
   have HS2 := zz (HS1.out.then (s := 2) (C0 (o := [40]) (c := [41]) F9 d r1 F2 r2 e2.out) dr rd)
   have HF2 := zz (HF1.out.trans fr)
   have HM2 := zz (HM1.out.fr fr (by omega))
   clear dr rd fr
   obtain ⟨m0, m1, m2, m3, m4, m5⟩ := HM2.out.at
   go_wp2_with fail
   have HA := zz (Ex HS2.out.rd kd ln cl dn nm X 32 0 0 0 0 { data := #[] } (F1.app F2).cnt (by have := hdn.out; simp [Au, Ds, Fo.cnt]; omega) (by have := HS2.out.rm; omega))
   refine HA.out.mono ?_
   rintro e wa ⟨rfl, ⟨va, rda⟩, fra⟩
   replace rda := zz rda
   replace fra := zz fra
   go_wp2_with fail
   go_ret
   exact ⟨rfl, ⟨at2, va, HS2.out.dr, Hb rda.out (by simp [Di, Fo.post, List.append_assoc]) (by simp [mkK, mkX, mkY, mkN, Inf.nd, ht.out]; try rfl)⟩, HF2.out.trans fra.out⟩
theorem Zo {w : World} {b tb to tc : Nat} {T : List Tok} {at_ d : Nat} {v : Value} {D : List Nd} {n : Nat} {ts : List Tok} (h : Sit w b tb to tc T at_ d v D n ts) {E : Pt} {N : Nat} (hm : sees [109, 97, 107, 101] ts = true) (hq : ¬ (hd ts.tail).kind = 2) (hE : Gz 39 (n - 2) E) (hg : Gd 0 E) (hN : n ≤ N + 2) : Calls Tryz.prog 217 #[pR b] w (Ho b tb to tc T d D w (Fg E N d ts)) := by
 have hbl := h.rd.lt
 obtain ⟨⟨kd, ln, cl, nm, tx⟩, ht⟩ : ∃ t, hd ts = t := ⟨_, rfl⟩
 obtain ⟨a, cap, hv⟩ := Cj h.rd.own
 obtain ⟨X, hX⟩ : ∃ X, bs tx = X := ⟨_, rfl⟩
 obtain ⟨dn, hdn⟩ : ∃ dn, D.length = dn := ⟨_, rfl⟩
 have HH : Hid (Calls Tryz.prog 136 #[pR b] w fun e w' => e = .returned (sV kd ln cl nm X dn) ∧ Below w.heap.size w w') := zz (by have := E9 h ht dn hdn a cap (by rw [hv, hdn]); rw [hX] at this; exact this)
 have hk : (hd ts).kind ≠ 8 := by obtain ⟨t, l, rfl, hk, _⟩ := C7 hm; simp [hd]; omega
 have hlt : at_ < T.length := (List.getElem?_eq_some_iff.1 h.next).1
 have htn := h.rd.tn
 have hn : at_ < 1000000 := by omega
 replace hk := zz hk
 obtain ⟨⟨kd3, ln3, cl3, nm3, tx3⟩, hp2⟩ : ∃ t, hd ts.tail = t := ⟨_, rfl⟩
 have hF := Un kd3 ln3 cl3 nm3 (bs tx3)
 have k3 : ((kd3 : Int) == 2) = false := by rw [hp2] at hq; simp at hq; rw [beq_eq_false_iff_ne]; omega
 cases e1 : (Az (Fd N)) d ts.tail with
 | bad c l k =>
  rw [show (Fg E N) d ts = .bad c l k by simp only [Fg, Dm, Fc, Lr, hq, if_false, Out.bind, e1]]
  replace e1 := zz e1
  have hs := zz h
  replace hp2 := zz hp2
  replace hq := zz hq
  replace ht := zz ht
  replace hX := zz hX
  replace hdn := zz hdn
  replace hv := zz hv
  clear h hlt htn
  go_enter Tryz.func217, Tryz.ntmps217
  go_wp2_with fail
  refine HH.out.mono ?_
  rintro e w1 ⟨rfl, hb⟩
  have c1 := (hs.out.rd.carry hb).c1
  have fz := (hs.out.rd.carry hb).fz
  have hbl1 := (hs.out.rd.carry hb).lt
  have HT := (hs.out.carry hb).tail ((hs.out.carry hb).rd.bump (at_ + 1)) hk.out
  rw [show ((at_ + 1 : Nat) : Int) = (at_ : Int) + 1 by omega] at HT
  replace HT := zz HT
  replace hb := zz hb
  go_wp2_with fail
  obtain ⟨W, hW⟩ : ∃ W, W = (w1.setCell ⟨b, 1, none⟩ (.int .i64 ((at_ : Int) + 1))).alloc (.cells #[.int .u8 kd, .int .i64 ln, .int .i64 cl, .int .i64 nm, .string X, .int .i64 dn] 93) := ⟨_, rfl⟩
  rw [← hW]
  have HS0 : Hid (Sit W b tb to tc T (at_ + 1) d v D (n - 1) ts.tail) := zz (by rw [hW]; exact HT.out.carry (Aa _ _))
  have HF0 : Hid (Fr b w W) := zz (by rw [hW]; exact ((Fr.only (Onl.below hb.out) (by omega)).trans (Fr.only (Onl.set _ _ _ _) (by omega))).trans (Fr.only (Onl.below (Aa _ _)) (by simp; omega)))
  have HM0 : Hid (SAt W w1.heap.size kd ln cl nm X dn) := zz (by rw [hW]; have := SAt.made (w1.setCell ⟨b, 1, none⟩ (.int .i64 ((at_ : Int) + 1))) kd ln cl nm X dn; simpa using this)
  clear hW HT c1 fz
  have HQ0 := zz (HS0.out.next_at hp2.out W (Below.refl _ _))
  refine HQ0.out.mono ?_
  rintro e wq ⟨rfl, hbq⟩
  replace HF0 := zz (HF0.out.trans (Fr.only (Onl.below hbq) (by have := HS0.out.rd.lt; omega)))
  replace HS0 := zz (HS0.out.carry hbq)
  replace HM0 := zz (HM0.out.below hbq)
  replace hbq := zz hbq
  go_wp2_with fail
  have HC1 := zz (O3 (Im (HS0.out) N (by omega)) e1.out)
  refine HC1.out.mono ?_
  rintro e w2 ⟨rfl, rf, fr⟩
  replace rf := zz rf
  replace fr := zz fr
  go_wp2_with fail
  go_ret
  exact ⟨rfl, rf.out, HF0.out.trans fr.out⟩
 | ok F1 r1 =>
  cases e2 : (Ax [40] [41] E) d r1 with
  | bad c l k =>
   rw [show (Fg E N) d ts = .bad c l k by simp only [Fg, Dm, Fc, Lr, hq, if_false, Out.bind, e1, e2]]
   replace e1 := zz e1
   replace e2 := zz e2
   have hs := zz h
   replace hp2 := zz hp2
   replace hq := zz hq
   replace ht := zz ht
   replace hX := zz hX
   replace hdn := zz hdn
   replace hv := zz hv
   clear h hlt htn
   go_enter Tryz.func217, Tryz.ntmps217
   go_wp2_with fail
   refine HH.out.mono ?_
   rintro e w1 ⟨rfl, hb⟩
   have c1 := (hs.out.rd.carry hb).c1
   have fz := (hs.out.rd.carry hb).fz
   have hbl1 := (hs.out.rd.carry hb).lt
   have HT := (hs.out.carry hb).tail ((hs.out.carry hb).rd.bump (at_ + 1)) hk.out
   rw [show ((at_ + 1 : Nat) : Int) = (at_ : Int) + 1 by omega] at HT
   replace HT := zz HT
   replace hb := zz hb
   go_wp2_with fail
   obtain ⟨W, hW⟩ : ∃ W, W = (w1.setCell ⟨b, 1, none⟩ (.int .i64 ((at_ : Int) + 1))).alloc (.cells #[.int .u8 kd, .int .i64 ln, .int .i64 cl, .int .i64 nm, .string X, .int .i64 dn] 93) := ⟨_, rfl⟩
   rw [← hW]
   have HS0 : Hid (Sit W b tb to tc T (at_ + 1) d v D (n - 1) ts.tail) := zz (by rw [hW]; exact HT.out.carry (Aa _ _))
   have HF0 : Hid (Fr b w W) := zz (by rw [hW]; exact ((Fr.only (Onl.below hb.out) (by omega)).trans (Fr.only (Onl.set _ _ _ _) (by omega))).trans (Fr.only (Onl.below (Aa _ _)) (by simp; omega)))
   have HM0 : Hid (SAt W w1.heap.size kd ln cl nm X dn) := zz (by rw [hW]; have := SAt.made (w1.setCell ⟨b, 1, none⟩ (.int .i64 ((at_ : Int) + 1))) kd ln cl nm X dn; simpa using this)
   clear hW HT c1 fz
   have HQ0 := zz (HS0.out.next_at hp2.out W (Below.refl _ _))
   refine HQ0.out.mono ?_
   rintro e wq ⟨rfl, hbq⟩
   replace HF0 := zz (HF0.out.trans (Fr.only (Onl.below hbq) (by have := HS0.out.rd.lt; omega)))
   replace HS0 := zz (HS0.out.carry hbq)
   replace HM0 := zz (HM0.out.below hbq)
   replace hbq := zz hbq
   go_wp2_with fail
   have HC1 := zz (Wi (Im (HS0.out) N (by omega)) e1.out)
   refine HC1.out.mono ?_
   rintro e w2 ⟨rfl, ⟨at1, v1, dr, rd⟩, fr⟩
   have HS1 := zz (HS0.out.then (s := 1) (Gm (Ma N) d ts.tail F1 r1 e1.out) dr rd)
   have HF1 := zz (HF0.out.trans fr)
   have HM1 := zz (HM0.out.fr fr (by omega))
   clear dr rd fr
   go_wp2_with fail
   have HC2 := zz (O3 (Dy (HS1.out) { data := #[40] } { data := #[41] } [40] [41] (by rw [ByteArray.toList_eq]) (by rw [ByteArray.toList_eq]) (Gp (hE.mono (by omega)) (by intro args w; simp [go_sem])) hg) e2.out)
   refine HC2.out.mono ?_
   rintro e w3 ⟨rfl, rf, fr⟩
   replace rf := zz rf
   replace fr := zz fr
   go_wp2_with fail
   go_ret
   exact ⟨rfl, rf.out, HF1.out.trans fr.out⟩
  | ok F2 r2 =>
   rw [show (Fg E N) d ts = .ok (.cons (mkK 32 ts) (F1.app F2) .nil) r2 by simp only [Fg, Dm, Fc, Lr, hq, if_false, Out.bind, e1, e2]]
   replace e1 := zz e1
   replace e2 := zz e2
   have hs := zz h
   replace hp2 := zz hp2
   replace hq := zz hq
   replace ht := zz ht
   replace hX := zz hX
   replace hdn := zz hdn
   replace hv := zz hv
   clear h hlt htn
   go_enter Tryz.func217, Tryz.ntmps217
   go_wp2_with fail
   refine HH.out.mono ?_
   rintro e w1 ⟨rfl, hb⟩
   have c1 := (hs.out.rd.carry hb).c1
   have fz := (hs.out.rd.carry hb).fz
   have hbl1 := (hs.out.rd.carry hb).lt
   have HT := (hs.out.carry hb).tail ((hs.out.carry hb).rd.bump (at_ + 1)) hk.out
   rw [show ((at_ + 1 : Nat) : Int) = (at_ : Int) + 1 by omega] at HT
   replace HT := zz HT
   replace hb := zz hb
   go_wp2_with fail
   obtain ⟨W, hW⟩ : ∃ W, W = (w1.setCell ⟨b, 1, none⟩ (.int .i64 ((at_ : Int) + 1))).alloc (.cells #[.int .u8 kd, .int .i64 ln, .int .i64 cl, .int .i64 nm, .string X, .int .i64 dn] 93) := ⟨_, rfl⟩
   rw [← hW]
   have HS0 : Hid (Sit W b tb to tc T (at_ + 1) d v D (n - 1) ts.tail) := zz (by rw [hW]; exact HT.out.carry (Aa _ _))
   have HF0 : Hid (Fr b w W) := zz (by rw [hW]; exact ((Fr.only (Onl.below hb.out) (by omega)).trans (Fr.only (Onl.set _ _ _ _) (by omega))).trans (Fr.only (Onl.below (Aa _ _)) (by simp; omega)))
   have HM0 : Hid (SAt W w1.heap.size kd ln cl nm X dn) := zz (by rw [hW]; have := SAt.made (w1.setCell ⟨b, 1, none⟩ (.int .i64 ((at_ : Int) + 1))) kd ln cl nm X dn; simpa using this)
   clear hW HT c1 fz
   have HQ0 := zz (HS0.out.next_at hp2.out W (Below.refl _ _))
   refine HQ0.out.mono ?_
   rintro e wq ⟨rfl, hbq⟩
   replace HF0 := zz (HF0.out.trans (Fr.only (Onl.below hbq) (by have := HS0.out.rd.lt; omega)))
   replace HS0 := zz (HS0.out.carry hbq)
   replace HM0 := zz (HM0.out.below hbq)
   replace hbq := zz hbq
   go_wp2_with fail
   have HC1 := zz (Wi (Im (HS0.out) N (by omega)) e1.out)
   refine HC1.out.mono ?_
   rintro e w2 ⟨rfl, ⟨at1, v1, dr, rd⟩, fr⟩
   have HS1 := zz (HS0.out.then (s := 1) (Gm (Ma N) d ts.tail F1 r1 e1.out) dr rd)
   have HF1 := zz (HF0.out.trans fr)
   have HM1 := zz (HM0.out.fr fr (by omega))
   clear dr rd fr
   go_wp2_with fail
   have HC2 := zz (Wi (Dy (HS1.out) { data := #[40] } { data := #[41] } [40] [41] (by rw [ByteArray.toList_eq]) (by rw [ByteArray.toList_eq]) (Gp (hE.mono (by omega)) (by intro args w; simp [go_sem])) hg) e2.out)
   refine HC2.out.mono ?_
   rintro e w3 ⟨rfl, ⟨at2, v2, dr, rd⟩, fr⟩
   have HS2 := zz (HS1.out.then (s := 2) (C0 (o := [40]) (c := [41]) hg d r1 F2 r2 e2.out) dr rd)
   have HF2 := zz (HF1.out.trans fr)
   have HM2 := zz (HM1.out.fr fr (by omega))
   clear dr rd fr
   obtain ⟨m0, m1, m2, m3, m4, m5⟩ := HM2.out.at
   go_wp2_with fail
   have HA := zz (Ex HS2.out.rd kd ln cl dn nm X 32 0 0 0 0 { data := #[] } (F1.app F2).cnt (by have := hdn.out; simp [Au, Ds, Fo.cnt]; omega) (by have := HS2.out.rm; omega))
   refine HA.out.mono ?_
   rintro e wa ⟨rfl, ⟨va, rda⟩, fra⟩
   replace rda := zz rda
   replace fra := zz fra
   go_wp2_with fail
   go_ret
   exact ⟨rfl, ⟨at2, va, HS2.out.dr, Hb rda.out (by simp [Di, Fo.post, List.append_assoc]) (by simp [mkK, mkX, mkY, mkN, Inf.nd, ht.out]; try rfl)⟩, HF2.out.trans fra.out⟩
theorem b25 {w : World} {b tb to tc : Nat} {T : List Tok} {at_ d : Nat} {v : Value} {D : List Nd} {n : Nat} {ts : List Tok} (h : Sit w b tb to tc T at_ d v D n ts) {E : Pt} {N : Nat} (hm : sees [109, 97, 107, 101] ts = true) (hE : Gz 39 (n - 2) E) (hg : Gd 0 E) (hN : n ≤ N + 2) : Calls Tryz.prog 217 #[pR b] w (Ho b tb to tc T d D w (Fg E N d ts)) := by
 by_cases hq : (hd ts.tail).kind = 2
 ·exact a3w h hm hq
 ·exact Zo h hm hq hE hg hN
theorem b4b {w : World} {b tb to tc : Nat} {T : List Tok} {at_ d : Nat} {v : Value} {D : List Nd} {n : Nat} {ts : List Tok} (h : Sit w b tb to tc T at_ d v D n ts) {E : Pt} {N : Nat} (hE : Gz 39 (n - 1) E) (hg : Gd 0 E) (hN : n ≤ N + 2) : Calls Tryz.prog 215 #[pR b] w (Ho b tb to tc T d D w ((Du E N) d ts)) := by
 have hbl := h.rd.lt
 obtain ⟨⟨kd, ln, cl, nm, tx⟩, ht⟩ : ∃ t, hd ts = t := ⟨_, rfl⟩
 obtain ⟨X, hX⟩ : ∃ X, bs tx = X := ⟨_, rfl⟩
 have hF := Un kd ln cl nm X
 cases q0 : sees [40] ts with
 | true =>
  have HS := zz h
  have Q0 := zz (fun w' hb => A0 (h.rd.carry (w' := w') hb) h.next { data := #[40] } [40] (by rw [ByteArray.toList_eq]) true q0)
  unfold Du
  rw [if_pos q0]
  have HCALL := zz (fun (w' : World) (hb : Below w.heap.size w w') => Dy (h.carry hb) { data := #[40] } { data := #[41] } [40] [41] (by rw [ByteArray.toList_eq]) (by rw [ByteArray.toList_eq]) (Gp hE (by intro args w; simp [go_sem])) hg)
  clear h ht hX
  go_enter Tryz.func215, Tryz.ntmps215
  go_wp2_with fail
  refine (Q0.out _ (Below.refl _ _)).mono ?_
  rintro e w1 ⟨rfl, hb1⟩
  replace hb1 := zz hb1
  go_wp2_with fail
  refine (HCALL.out _ (hb1.out)).mono ?_
  rintro e wz ⟨rfl, hw⟩
  replace hw := zz hw
  go_wp2_with fail
  go_ret
  exact ⟨rfl, hw.out.back (Fr.only (Onl.below (hb1.out)) (by omega))⟩
 | false =>
  cases q1 : sees [109, 97, 107, 101] ts with
  | true =>
   have HS := zz h
   have Q0 := zz (fun w' hb => A0 (h.rd.carry (w' := w') hb) h.next { data := #[40] } [40] (by rw [ByteArray.toList_eq]) false q0)
   have Q1 := zz (fun w' hb => A0 (h.rd.carry (w' := w') hb) h.next { data := #[109, 97, 107, 101] } [109, 97, 107, 101] (by rw [ByteArray.toList_eq]) true q1)
   unfold Du
   rw [if_neg (show ¬ sees [40] ts = true by rw [q0]; simp), if_pos q1]
   have HCALL := zz (fun (w' : World) (hb : Below w.heap.size w w') => b25 (h.carry hb) q1 (hE.mono (by omega)) hg hN)
   clear h ht hX
   go_enter Tryz.func215, Tryz.ntmps215
   go_wp2_with fail
   refine (Q0.out _ (Below.refl _ _)).mono ?_
   rintro e w1 ⟨rfl, hb1⟩
   replace hb1 := zz hb1
   go_wp2_with fail
   refine (Q1.out _ (hb1.out)).mono ?_
   rintro e w2 ⟨rfl, hb2⟩
   replace hb2 := zz (Ab hb1.out hb2)
   go_wp2_with fail
   refine (HCALL.out _ (hb2.out)).mono ?_
   rintro e wz ⟨rfl, hw⟩
   replace hw := zz hw
   go_wp2_with fail
   go_ret
   exact ⟨rfl, hw.out.back (Fr.only (Onl.below (hb2.out)) (by omega))⟩
  | false =>
   by_cases q2 : (hd ts).kind = 1
   ·have hdum := True.intro
    have HS := zz h
    have Q0 := zz (fun w' hb => A0 (h.rd.carry (w' := w') hb) h.next { data := #[40] } [40] (by rw [ByteArray.toList_eq]) false q0)
    have Q1 := zz (fun w' hb => A0 (h.rd.carry (w' := w') hb) h.next { data := #[109, 97, 107, 101] } [109, 97, 107, 101] (by rw [ByteArray.toList_eq]) false q1)
    have Q2 := zz (fun w' hb => h.next_at ht w' hb)
    rw [hX] at Q2
    have k2 : ((kd : Int) == 1) = true := by rw [ht] at q2; simp at q2; rw [q2]; rfl
    unfold Du
    rw [if_neg (show ¬ sees [40] ts = true by rw [q0]; simp), if_neg (show ¬ sees [109, 97, 107, 101] ts = true by rw [q1]; simp), if_pos q2]
    have HCALL := zz (fun (w' : World) (hb : Below w.heap.size w w') => b22 (h.carry hb) q2 (hE.mono (by omega)) hg hN)
    clear h ht hX
    go_enter Tryz.func215, Tryz.ntmps215
    go_wp2_with fail
    refine (Q0.out _ (Below.refl _ _)).mono ?_
    rintro e w1 ⟨rfl, hb1⟩
    replace hb1 := zz hb1
    go_wp2_with fail
    refine (Q1.out _ (hb1.out)).mono ?_
    rintro e w2 ⟨rfl, hb2⟩
    replace hb2 := zz (Ab hb1.out hb2)
    go_wp2_with fail
    refine (Q2.out _ (hb2.out)).mono ?_
    rintro e w3 ⟨rfl, hb3⟩
    replace hb3 := zz (Ab hb2.out hb3)
    go_wp2_with fail
    refine (HCALL.out _ (hb3.out)).mono ?_
    rintro e wz ⟨rfl, hw⟩
    replace hw := zz hw
    go_wp2_with fail
    go_ret
    exact ⟨rfl, hw.out.back (Fr.only (Onl.below (hb3.out)) (by omega))⟩
   have HS := zz h
   have Q0 := zz (fun w' hb => A0 (h.rd.carry (w' := w') hb) h.next { data := #[40] } [40] (by rw [ByteArray.toList_eq]) false q0)
   have Q1 := zz (fun w' hb => A0 (h.rd.carry (w' := w') hb) h.next { data := #[109, 97, 107, 101] } [109, 97, 107, 101] (by rw [ByteArray.toList_eq]) false q1)
   have Q2 := zz (fun w' hb => h.next_at ht w' hb)
   rw [hX] at Q2
   have k2 : ((kd : Int) == 1) = false := by rw [ht] at q2; simp at q2; rw [beq_eq_false_iff_ne]; omega
   unfold Du
   rw [if_neg (show ¬ sees [40] ts = true by rw [q0]; simp), if_neg (show ¬ sees [109, 97, 107, 101] ts = true by rw [q1]; simp), if_neg q2]
   have HCALL := zz (fun (w' : World) (hb : Below w.heap.size w w') => Wb (h.carry hb))
   clear h ht hX
   go_enter Tryz.func215, Tryz.ntmps215
   go_wp2_with fail
   refine (Q0.out _ (Below.refl _ _)).mono ?_
   rintro e w1 ⟨rfl, hb1⟩
   replace hb1 := zz hb1
   go_wp2_with fail
   refine (Q1.out _ (hb1.out)).mono ?_
   rintro e w2 ⟨rfl, hb2⟩
   replace hb2 := zz (Ab hb1.out hb2)
   go_wp2_with fail
   refine (Q2.out _ (hb2.out)).mono ?_
   rintro e w3 ⟨rfl, hb3⟩
   replace hb3 := zz (Ab hb2.out hb3)
   go_wp2_with fail
   refine (HCALL.out _ (hb3.out)).mono ?_
   rintro e wz ⟨rfl, hw⟩
   replace hw := zz hw
   go_wp2_with fail
   go_ret
   exact ⟨rfl, hw.out.back (Fr.only (Onl.below (hb3.out)) (by omega))⟩
end
end Go.Proofs.YtoaplbljflhheaaGreat
namespace Go.Proofs.YtoaplbljflhheaaGreat
section
open Go.RowKit Go.Sort
def b4u (F : Fo) : Pt := fun d ts => (J1 1 d ts.tail).bind fun _ r => .ok (.cons (mkY 29 ts) F .nil) r
theorem b5f {w : World} {b tb to tc : Nat} {T : List Tok} {at_ d : Nat} {v : Value} {D : List Nd} {F : Fo} {n : Nat} {ts : List Tok} (h : Sit w b tb to tc T at_ d v (D ++ F.post) n ts) (hk : (hd ts).kind ≠ 8) {kd ln cl : Nat} {nm : Int} {tx : List UInt8} (ht : hd ts = ⟨kd, ln, cl, nm, tx⟩) (X : ByteArray) (dn : Nat) (hdn : D.length = dn) :
  Calls Tryz.prog 216 #[pR b, sV kd ln cl nm X dn] w (Ho b tb to tc T d D w (b4u F d ts)) := by
 have hbl := h.rd.lt
 have hlt : at_ < T.length := (List.getElem?_eq_some_iff.1 h.next).1
 have htn := h.rd.tn
 have hn : at_ < 1000000 := by omega
 obtain ⟨⟨kd2, ln2, cl2, nm2, tx2⟩, ht2⟩ : ∃ t, hd ts.tail = t := ⟨_, rfl⟩
 obtain ⟨X2, hX2⟩ : ∃ X2, bs tx2 = X2 := ⟨_, rfl⟩
 have hF := b42 kd2 ln2 cl2 nm2 X2
 have c1 := h.rd.c1
 have fz := h.rd.fz
 have hsz := h.rm
 have HT := h.tail (h.rd.bump (at_ + 1)) hk
 rw [show ((at_ + 1 : Nat) : Int) = (at_ : Int) + 1 by omega] at HT
 obtain ⟨W, hW⟩ : ∃ W, W = (w.setCell ⟨b, 1, none⟩ (.int .i64 ((at_ : Int) + 1))).alloc (.cells #[.int .u8 kd, .int .i64 ln, .int .i64 cl, .int .i64 nm, .string X, .int .i64 dn] 93) := ⟨_, rfl⟩
 have HS0 : Hid (Sit W b tb to tc T (at_ + 1) d v (D ++ F.post) (n - 1) ts.tail) := zz (by rw [hW]; exact HT.carry (Aa _ _))
 have HF0 : Hid (Fr b w W) := zz (by rw [hW]; exact (Fr.only (Onl.set _ _ _ _) (by omega)).trans (Fr.only (Onl.below (Aa _ _)) (by simp; omega)))
 have HM0 : Hid (SAt W w.heap.size kd ln cl nm X dn) := zz (by rw [hW]; have := SAt.made (w.setCell ⟨b, 1, none⟩ (.int .i64 ((at_ : Int) + 1))) kd ln cl nm X dn; simpa using this)
 have HN := zz (HS0.out.next_at ht2 W (Below.refl _ _))
 rw [hX2] at HN
 unfold b4u
 cases e1 : J1 1 d ts.tail with
 | bad c l k =>
  replace e1 := zz e1
  clear h HT hlt htn hk ht hX2 ht2
  go_enter Tryz.func216, Tryz.ntmps216
  go_wp2_with fail
  rw [← hW]
  clear hW
  refine HN.out.mono ?_
  rintro e w1 ⟨rfl, hb⟩
  have HC := zz (O3 (Ti (HS0.out.carry hb) 1 (by decide)) e1.out)
  replace HF0 := zz (HF0.out.trans (Fr.only (Onl.below hb) (by have := HS0.out.rd.lt; omega)))
  replace hb := zz hb
  go_wp2_with fail
  refine HC.out.mono ?_
  rintro e w2 ⟨rfl, rf, fr⟩
  replace rf := zz rf
  replace fr := zz fr
  go_wp2_with fail
  go_ret
  exact ⟨rfl, rf.out, HF0.out.trans fr.out⟩
 | ok F1 r1 =>
  have hF1 : F1 = .nil := by
   unfold J1 Gx at e1
   split at e1
   ·cases e1; rfl
   ·cases e1
  subst hF1
  replace e1 := zz e1
  replace ht := zz ht
  replace ht2 := zz ht2
  replace hX2 := zz hX2
  clear h HT hlt htn hk
  go_enter Tryz.func216, Tryz.ntmps216
  go_wp2_with fail
  rw [← hW]
  clear hW
  refine HN.out.mono ?_
  rintro e w1 ⟨rfl, hb⟩
  have HC := zz (Wi (Ti (HS0.out.carry hb) 1 (by decide)) e1.out)
  replace HF0 := zz (HF0.out.trans (Fr.only (Onl.below hb) (by have := HS0.out.rd.lt; omega)))
  replace HM0 := zz (HM0.out.below hb)
  replace hb := zz hb
  go_wp2_with fail
  refine HC.out.mono ?_
  rintro e w2 ⟨rfl, ⟨at1, v1, dr, rd⟩, fr⟩
  obtain ⟨m0, m1, m2, m3, m4, m5⟩ := (HM0.out.fr fr (by omega)).at
  have HA := zz (Ex rd kd ln cl dn nm X 29 0 0 0 0 X2 F.cnt (by simp [Au, Fo.post, hdn]) (by simp [Fo.post] at *; omega))
  replace dr := zz dr
  replace fr := zz fr
  clear rd
  go_wp2_with fail
  refine HA.out.mono ?_
  rintro e w3 ⟨rfl, ⟨v3, rd3⟩, fr3⟩
  replace rd3 := zz rd3
  replace fr3 := zz fr3
  go_wp2_with fail
  go_ret
  exact ⟨rfl, ⟨at1, v3, dr.out, Hb rd3.out (by simp [Fo.post]) (by simp [mkY, Inf.nd, ht.out, ht2.out, hX2.out])⟩, (HF0.out.trans fr.out).trans fr3.out⟩
def b4i (w : World) (b tb to tc : Nat) (T : List Tok) (d : Nat) (D : List Nd) (n : Nat) (E : Pt) (R : Out) (v : Value) (wr : World) : Prop :=
 (v = .bool true ∧ ∃ (at_ : Nat) (v : Value) (F : Fo) (ts : List Tok) (m : Nat), Sit wr b tb to tc T at_ d v (D ++ F.post) n ts ∧ Cr E m F d ts = R ∧ ts.length ≤ m ∧ Fr b w wr) ∨
 (v = .bool false ∧ ∃ c l k, R = .bad c l k ∧ Rf wr b c l k ∧ Fr b w wr)
theorem Qh {w w' : World} {b tb to tc : Nat} {T : List Tok} {at_ d : Nat} {v : Value} {D : List Nd} {n m : Nat} {F G : Fo} {ts r : List Tok} (h : Sit w b tb to tc T at_ d v (D ++ F.post) n ts) (hl : Lft m ts r) (hc : G.cnt = F.cnt + m) {at' : Nat} {v' : Value} (hdr : T.drop at' = r) (hr : Rd w' b tb to tc T at' d v' (D ++ G.post)) : Sit w' b tb to tc T at' d v' (D ++ G.post) n r := by
 have h1 := hl.1
 have h2 := h.ln
 have h3 := h.rm
 rw [List.length_append, Au] at h3
 exact ⟨hr, hdr, hl.2.1 h.en, by omega, by rw [List.length_append, Au]; omega, h.dp⟩
theorem b14 {w : World} {b tb to tc : Nat} {T : List Tok} {at_ d : Nat} {v : Value} {D : List Nd} {n : Nat} {ts : List Tok} (h : Sit w b tb to tc T at_ d v D n ts) {E : Pt} (hE : Gz 39 (n - 1) E) (hg : Gd 0 E) (N : Nat) (hN : n ≤ N) :
  Calls Tryz.prog 214 #[pR b] w (Ho b tb to tc T d D w (Fv E N d ts)) := by
 have hbl := h.rd.lt
 have HA := zz (b4b h (N := N) hE hg (by omega))
 obtain ⟨a, cap, hv⟩ := Cj h.rd.own
 obtain ⟨dn, hdn⟩ : ∃ dn, D.length = dn := ⟨_, rfl⟩
 have c3 := h.rd.c3
 rw [hv, hdn] at c3
 unfold Fv
 obtain ⟨o, ho⟩ : ∃ o, Du E N d ts = o := ⟨_, rfl⟩
 rw [ho] at HA ⊢
 have HL := zz (fun F r e => a0d hg N d ts F r (ho.trans e))
 have hs := zz h
 replace hg := zz hg
 replace hE := zz hE
 replace hdn := zz hdn
 clear h ho hv
 cases o with
 | bad c l k =>
  go_enter Tryz.func214, Tryz.ntmps214
  go_wp2_with fail
  refine HA.out.mono ?_
  rintro e w1 ⟨rfl, hw⟩
  replace hw := zz hw
  go_wp2_with fail
  refine wp_loop_rounds 1 ?_
  rw [rounds_succ]
  go_wp2_with fail
  go_ret
  exact ⟨rfl, hw.out⟩
 | ok F r =>
  obtain ⟨R, hR⟩ : ∃ R, Cr E N F d r = R := ⟨_, rfl⟩
  rw [show (Out.bind (Out.ok F r) fun F r => Cr E N F d r) = R from hR]
  have HS2 : Hid (∀ w1, (M1 b tb to tc T d D w (.ok F r) w1) → b4i w b tb to tc T d D n E R (.bool true) w1) := zz (by
   rintro w1 ⟨⟨at', v', hdr, hrd⟩, hfr⟩
   have h2 := hs.out.then (s := 0) (HL.out F r rfl) hdr hrd
   exact .inl ⟨rfl, at', v', F, r, N, h2.up (by omega), hR, by have := h2.ln; omega, hfr⟩)
  clear hR
  go_enter Tryz.func214, Tryz.ntmps214
  go_wp2_with fail
  refine HA.out.mono ?_
  rintro e w1 ⟨rfl, hw⟩
  replace hw := zz (HS2.out w1 hw)
  go_wp2_with fail
  go_loopw [4] (fun v wr => b4i w b tb to tc T d D n E R v wr) (fun v wr => okM v (left T b wr))
  case atStart => exact hw.out
  case round =>
   clear hw HA HS2 HL
   rcases hrel with ⟨rfl, at1, v1, F1, ts1, m, hs1, hRR, hm, hfr⟩ | ⟨rfl, c', l', k', hRR, hrf, hfr⟩
   ·obtain ⟨t, l, hts⟩ := hs1.en.ne
    obtain ⟨m, rfl⟩ : ∃ m', m = m' + 1 := ⟨m - 1, by rw [hts] at hm; simp at hm; omega⟩
    obtain ⟨⟨kd, ln, cl, nm, tx⟩, ht⟩ : ∃ t, hd ts1 = t := ⟨_, rfl⟩
    have HN := zz (hs1.next_at ht wr (Below.refl _ _))
    obtain ⟨X, hX⟩ : ∃ X, bs tx = X := ⟨_, rfl⟩
    rw [hX] at HN
    clear hX hts
    cases q0 : sees [91] ts1 with
    | true =>
     obtain ⟨o, ho⟩ : ∃ o, Ax [91] [93] E d ts1 = o := ⟨_, rfl⟩
     have HRR : Hid ((o.bind fun G r => Cr E m (.cons (mkK 28 ts1) (F1.app G) .nil) d r) = R) := zz (by rw [← hRR, ← ho]; conv => rhs; unfold Cr; rw [if_pos q0])
     have HC := zz (fun (w' : World) (hb : Below wr.heap.size wr w') => Dy (hs1.carry hb) { data := #[91] } { data := #[93] } [91] [93] (by rw [ByteArray.toList_eq]) (by rw [ByteArray.toList_eq]) (Gp hE.out (by intro args w; simp [go_sem])) hg.out)
     rw [ho] at HC
     have HL2 := zz (fun G r e => C0 (o := [91]) (c := [93]) hg.out d ts1 G r (ho.trans e))
     have HQ := zz (fun (w' : World) (hb : Below wr.heap.size wr w') => A0 (hs1.rd.carry hb) hs1.next { data := #[91] } [91] (by rw [ByteArray.toList_eq]) true q0)
     replace hs1 := zz hs1
     replace hfr := zz hfr
     replace ht := zz ht
     clear hRR ho q0
     go_wp2_with fail
     refine HN.out.mono ?_
     rintro e w2 ⟨rfl, hb2⟩
     have HM := zz (SAt.made w2 kd ln cl nm X dn)
     have hbw2 : b < w2.heap.size := (hs1.out.rd.carry hb2).lt
     replace hb2 := zz (Ab hb2 (Aa w2 (.cells #[.int .u8 kd, .int .i64 ln, .int .i64 cl, .int .i64 nm, .string X, .int .i64 dn] 93)))
     go_wp2_with fail
     refine (HQ.out _ hb2.out).mono ?_
     rintro e w3 ⟨rfl, hb3⟩
     replace HM := zz (HM.out.below hb3)
     replace hb3 := zz (Ab hb2.out hb3)
     go_wp2_with fail
     refine (HC.out _ hb3.out).mono ?_
     rintro e w4 ⟨rfl, hw4⟩
     have HF := zz (hfr.out.trans (Fr.only (Onl.below hb3.out) (by have := hs1.out.rd.lt; omega)))
     cases o with
     | bad c2 l2 k2 =>
      replace hw4 := zz hw4
      go_wp2_with fail
      go_roundw
      case rel => exact .inr ⟨rfl, c2, l2, k2, HRR.out.symm, hw4.out.1, HF.out.trans hw4.out.2⟩
      case measure => simp [okM, Out.good]
     | ok G r2 =>
      obtain ⟨⟨at', v', hdr, hrd⟩, hf4⟩ := hw4
      obtain ⟨m0, m1, m2, m3, m4, m5⟩ := (HM.out.fr hf4 (by omega)).at
      have hl2 := (HL2.out G r2 rfl).1
      have hrm := hs1.out.rm
      have HA := zz (Ex hrd kd ln cl dn nm X 28 0 0 0 0 { data := #[] } (F1.app G).cnt (by have := hdn.out; simp [Au, Ds]; omega) (by simp [Au] at *; omega))
      replace hf4 := zz (HF.out.trans hf4)
      replace hdr := zz hdr
      clear hrd
      go_wp2_with fail
      refine HA.out.mono ?_
      rintro e w5 ⟨rfl, ⟨v5, rd5⟩, fr5⟩
      have hr5 : Rd w5 b tb to tc T at' d v5 (D ++ (Fo.cons (mkK 28 ts1) (F1.app G) .nil).post) := Hb rd5 (by simp [Di]) (by simp [mkK, Inf.nd, ht.out]; rfl)
      have hs5 := zz (Qh (G := .cons (mkK 28 ts1) (F1.app G) .nil) (m := G.cnt + 1) hs1.out ((HL2.out G r2 rfl).mono (by omega)) (by simp [Fo.cnt, Ds]; omega) hdr.out hr5)
      replace fr5 := zz fr5
      clear rd5 hr5
      go_wp2_with fail
      go_roundw
      case rel => exact .inl ⟨rfl, at', v5, _, r2, m, hs5.out, HRR.out, by omega, hf4.out.trans fr5.out⟩
      case measure =>
       rw [Hi hs5.out, Hi hs1.out]
       simp [okM]
       omega
    | false =>
     have HQ := zz (fun (w' : World) (hb : Below wr.heap.size wr w') => A0 (hs1.rd.carry hb) hs1.next { data := #[91] } [91] (by rw [ByteArray.toList_eq]) false q0)
     cases q1 : sees [46] ts1 with
     | true =>
      obtain ⟨o, ho⟩ : ∃ o, b4u F1 d ts1 = o := ⟨_, rfl⟩
      have hk1 : (hd ts1).kind ≠ 8 := by
       obtain ⟨t, l, rfl, hk, _⟩ := C7 q1
       simp [hd]; omega
      have HRR : Hid ((o.bind fun G r => Cr E m G d r) = R) := zz (by
       rw [← hRR, ← ho]
       conv => rhs; unfold Cr; rw [if_neg (show ¬ sees [91] ts1 = true by rw [q0]; simp), if_pos q1]
       unfold b4u
       cases J1 1 d ts1.tail <;> rfl)
      have HQ2 := zz (fun (w' : World) (hb : Below wr.heap.size wr w') => A0 (hs1.rd.carry hb) hs1.next { data := #[46] } [46] (by rw [ByteArray.toList_eq]) true q1)
      have HC := zz (fun (w' : World) (hb : Below wr.heap.size wr w') => b5f (hs1.carry hb) hk1 ht X dn hdn.out)
      rw [ho] at HC
      have HL2 : Hid (∀ G r, o = .ok G r → ∃ k, Lft (k + 1) ts1 r ∧ G.cnt = F1.cnt + (k + 1)) := zz fun G r e => by
       rw [e] at ho
       obtain ⟨F2, r2, e1, e2⟩ := Aj ho
       cases e2
       exact ⟨0, ((Gk q1).trans (a0b 1 (by decide) (by decide) _ _ _ _ e1)).mono (by omega), by simp [Fo.cnt]⟩
      replace hs1 := zz hs1
      replace hfr := zz hfr
      replace ht := zz ht
      clear hRR ho q0 q1 hk1
      go_wp2_with fail
      refine HN.out.mono ?_
      rintro e w2 ⟨rfl, hb2⟩
      have HM := zz (SAt.made w2 kd ln cl nm X dn)
      have hbw2 : b < w2.heap.size := (hs1.out.rd.carry hb2).lt
      replace hb2 := zz (Ab hb2 (Aa w2 (.cells #[.int .u8 kd, .int .i64 ln, .int .i64 cl, .int .i64 nm, .string X, .int .i64 dn] 93)))
      go_wp2_with fail
      refine (HQ.out _ hb2.out).mono ?_
      rintro e w3 ⟨rfl, hb3⟩
      replace HM := zz (HM.out.below hb3)
      replace hb3 := zz (Ab hb2.out hb3)
      go_wp2_with fail
      refine (HQ2.out _ hb3.out).mono ?_
      rintro e w4 ⟨rfl, hb4⟩
      obtain ⟨m0, m1, m2, m3, m4, m5⟩ := (HM.out.below hb4).at
      replace hb4 := zz (Ab hb3.out hb4)
      go_wp2_with fail
      refine (HC.out _ hb4.out).mono ?_
      rintro e w5 ⟨rfl, hw5⟩
      have HF := zz (hfr.out.trans (Fr.only (Onl.below hb4.out) (by have := hs1.out.rd.lt; omega)))
      cases o with
      | bad c2 l2 k2 =>
       replace hw5 := zz hw5
       go_wp2_with fail
       go_roundw
       case rel => exact .inr ⟨rfl, c2, l2, k2, HRR.out.symm, hw5.out.1, HF.out.trans hw5.out.2⟩
       case measure => simp [okM, Out.good]
      | ok G r2 =>
       obtain ⟨⟨at', v', hdr, hrd⟩, hf5⟩ := hw5
       obtain ⟨k2, hl2, hc2⟩ := HL2.out G r2 rfl
       have hs5 := zz (Qh hs1.out hl2 hc2 hdr hrd)
       have hl3 := hl2.1
       replace hf5 := zz hf5
       clear hdr hrd hl2
       go_wp2_with fail
       go_roundw
       case rel => exact .inl ⟨rfl, at', v', G, r2, m, hs5.out, HRR.out, by omega, HF.out.trans hf5.out⟩
       case measure =>
        rw [Hi hs5.out, Hi hs1.out]
        simp [okM, Out.good]
        omega
     | false =>
      have HR : Hid (R = .ok F1 ts1) := zz (by rw [← hRR]; unfold Cr; rw [if_neg (show ¬ sees [91] ts1 = true by rw [q0]; simp), if_neg (show ¬ sees [46] ts1 = true by rw [q1]; simp)])
      have HQ2 := zz (fun (w' : World) (hb : Below wr.heap.size wr w') => A0 (hs1.rd.carry hb) hs1.next { data := #[46] } [46] (by rw [ByteArray.toList_eq]) false q1)
      replace hs1 := zz hs1
      replace hfr := zz hfr
      clear hRR q0 q1 ht
      go_wp2_with fail
      refine HN.out.mono ?_
      rintro e w2 ⟨rfl, hb2⟩
      replace hb2 := zz (Ab hb2 (Aa w2 (.cells #[.int .u8 kd, .int .i64 ln, .int .i64 cl, .int .i64 nm, .string X, .int .i64 dn] 93)))
      go_wp2_with fail
      refine (HQ.out _ hb2.out).mono ?_
      rintro e w3 ⟨rfl, hb3⟩
      replace hb3 := zz (Ab hb2.out hb3)
      go_wp2_with fail
      refine (HQ2.out _ hb3.out).mono ?_
      rintro e w4 ⟨rfl, hb4⟩
      replace hb4 := zz (Ab hb3.out hb4)
      go_wp2_with fail
      go_ret
      rw [HR.out]
      exact ⟨rfl, ⟨at1, v1, hs1.out.dr, hs1.out.rd.carry hb4.out⟩, hfr.out.trans (Fr.only (Onl.below hb4.out) (by have := hs1.out.rd.lt; omega))⟩
   ·replace hRR := zz hRR
    replace hrf := zz hrf
    replace hfr := zz hfr
    go_wp2_with fail
    go_ret
    rw [hRR.out]
    exact ⟨rfl, hrf.out, hfr.out⟩
theorem a9r (n : Nat) : Gz 39 n (Aw n) ∧ Gz 211 n (unP n) := by
 induction n with
 | zero => exact ⟨fun w b tb to tc T at_ d v D ts h => (Re h).elim, fun w b tb to tc T at_ d v D ts h => (Re h).elim⟩
 | succ n ih =>
  have hp : Gz 214 (n + 1) (Fv (Aw n) (n + 1)) := fun w b tb to tc T at_ d v D ts h => b14 h ih.1 (a0c n) (n + 1) (Nat.le_refl _)
  have hu : Gz 211 (n + 1) (unP (n + 1)) := fun w b tb to tc T at_ d v D ts h => a68 h ih.2 (b3f n) hp
  have gu := b3f (n + 1)
  have gt : Gd 0 (a2b (unP (n + 1)) (n + 1)) := Gn gu _ _
  have gs : Gd 0 (b4n (unP (n + 1)) (n + 1)) := Gn gt _ _
  have gl : Gd 0 (a31 (unP (n + 1)) (n + 1)) := Om gs _
  have ge : Gd 0 (Tr (unP (n + 1)) (n + 1)) := Om gl _
  have ga : Gd 0 (b4v (unP (n + 1)) (n + 1)) := Gn ge _ _
  exact ⟨a8o (a5s (V6 (Zw (a2e (Xa hu gu (n + 1) (Nat.le_refl _)) gt (n + 1) (Nat.le_refl _)) gs) gl) ge (n + 1) (Nat.le_refl _)) ga (n + 1) (Nat.le_refl _), hu⟩
theorem a0r (n : Nat) : Gz 39 n (Aw n) := (a9r n).1
end
end Go.Proofs.YtoaplbljflhheaaGreat
