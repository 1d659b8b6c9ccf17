/-
 Contracts and plain facts on the way to PrettyTerms. Conditions: as each says.
-/
import Derived.Test.YtoaplbljflhheaaGreatTbb
set_option maxHeartbeats 40000000
set_option maxRecDepth 100000
set_option linter.unusedVariables false
set_option linter.unusedSimpArgs false
namespace Go.Proofs.YtoaplbljflhheaaGreat
section
open Go.RowKit Go.Sort
theorem Wi {f : FuncId} {args : Array Value} {w : World} {b tb to tc : Nat} {T : List Tok} {d : Nat} {D : List Nd} {o : Out} (H : Calls Tryz.prog f args w (Ho b tb to tc T d D w o)) {F : Fo} {r : List Tok} (ho : o = .ok F r) :
  Calls Tryz.prog f args w fun e w' => e = .returned (.bool true) ∧ (∃ at' v', T.drop at' = r ∧ Rd w' b tb to tc T at' d v' (D ++ F.post)) ∧ Fr b w w' := by
 subst ho; exact H
theorem O3 {f : FuncId} {args : Array Value} {w : World} {b tb to tc : Nat} {T : List Tok} {d : Nat} {D : List Nd} {o : Out} (H : Calls Tryz.prog f args w (Ho b tb to tc T d D w o)) {c : Int} {l k : Nat} (ho : o = .bad c l k) :
  Calls Tryz.prog f args w fun e w' => e = .returned (.bool false) ∧ Rf w' b c l k ∧ Fr b w w' := by
 subst ho; exact H
theorem Hb {w : World} {b tb to tc : Nat} {T : List Tok} {at_ : Nat} {d : Int} {v : Value} {D D' : List Nd} {t : Nd} {i : Inf} {F : Fo} (h : Rd w b tb to tc T at_ d v (D' ++ [t])) (h1 : D' = D ++ F.post) (h2 : t = i.nd F.cnt) : Rd w b tb to tc T at_ d v (D ++ (Fo.cons i F .nil).post) := by
 subst h1 h2
 simpa [Fo.post] using h
theorem Gp {f : FuncId} {n : Nat} {p : Pt} (h : Gz f n p) (eg : ∀ args w, (callFunc f args).run Tryz.prog w = .ok (.enter f args) w) : Fn (.func (.func f) #[] #[]) n p := ⟨f, rfl, eg, h⟩
theorem a8o {n : Nat} {p : Pt} (hp : Gz 69 n p) (hg : Gd 0 p) (N : Nat) (hN : n ≤ N) : Gz 39 n (Ce p [[124, 124]] N) := by
 intro w b tb to tc T at_ d v D ts h
 have hbl := h.rd.lt
 have H : Hid (Calls Tryz.prog 68 #[pR b, .func (.func 69) #[] #[], .slice (some ⟨w.heap.size, 0, none⟩) 1 1] (w.alloc (.cells #[Value.string { data := #[124, 124] }] 9)) (Ho b tb to tc T d D (w.alloc (.cells #[Value.string { data := #[124, 124] }] 9)) ((Ce p [[124, 124]] N) d ts))) :=
  zz (O0 (h.carry (Aa w _)) (Gp hp (by intro args w; simp [go_sem])) hg (S := [[124, 124]]) (show Ns _ _ _ from heap_alloc_new w _) (by omega) 1 1 rfl (by decide) N hN)
 have HF : Hid (Fr b w (w.alloc (.cells #[Value.string { data := #[124, 124] }] 9))) := zz (Fr.only (Onl.below (Aa _ _)) (by omega))
 clear h
 go_enter Tryz.func39, Tryz.ntmps39
 go_wp2_with fail
 refine H.out.mono ?_
 rintro e w1 ⟨rfl, hw⟩
 replace hw := zz hw
 go_wp2_with fail
 go_ret
 exact ⟨rfl, hw.out.back HF.out⟩
theorem a5s {n : Nat} {p : Pt} (hp : Gz 103 n p) (hg : Gd 0 p) (N : Nat) (hN : n ≤ N) : Gz 69 n (Ce p [[38, 38]] N) := by
 intro w b tb to tc T at_ d v D ts h
 have hbl := h.rd.lt
 have H : Hid (Calls Tryz.prog 68 #[pR b, .func (.func 103) #[] #[], .slice (some ⟨w.heap.size, 0, none⟩) 1 1] (w.alloc (.cells #[Value.string { data := #[38, 38] }] 9)) (Ho b tb to tc T d D (w.alloc (.cells #[Value.string { data := #[38, 38] }] 9)) ((Ce p [[38, 38]] N) d ts))) :=
  zz (O0 (h.carry (Aa w _)) (Gp hp (by intro args w; simp [go_sem])) hg (S := [[38, 38]]) (show Ns _ _ _ from heap_alloc_new w _) (by omega) 1 1 rfl (by decide) N hN)
 have HF : Hid (Fr b w (w.alloc (.cells #[Value.string { data := #[38, 38] }] 9))) := zz (Fr.only (Onl.below (Aa _ _)) (by omega))
 clear h
 go_enter Tryz.func69, Tryz.ntmps69
 go_wp2_with fail
 refine H.out.mono ?_
 rintro e w1 ⟨rfl, hw⟩
 replace hw := zz hw
 go_wp2_with fail
 go_ret
 exact ⟨rfl, hw.out.back HF.out⟩
theorem V6 {n : Nat} {p : Pt} (hp : Gz 148 n p) (hg : Gd 0 p) : Gz 103 n (Hf p [[61, 61], [33, 61]]) := by
 intro w b tb to tc T at_ d v D ts h
 have hbl := h.rd.lt
 have H : Hid (Calls Tryz.prog 147 #[pR b, .func (.func 148) #[] #[], .slice (some ⟨w.heap.size, 0, none⟩) 2 2] (w.alloc (.cells #[Value.string { data := #[61, 61] }, Value.string { data := #[33, 61] }] 9)) (Ho b tb to tc T d D (w.alloc (.cells #[Value.string { data := #[61, 61] }, Value.string { data := #[33, 61] }] 9)) ((Hf p [[61, 61], [33, 61]]) d ts))) :=
  zz (a6a (h.carry (Aa w _)) (Gp hp (by intro args w; simp [go_sem])) hg (S := [[61, 61], [33, 61]]) (show Ns _ _ _ from heap_alloc_new w _) (by omega) 2 2 rfl (by decide))
 have HF : Hid (Fr b w (w.alloc (.cells #[Value.string { data := #[61, 61] }, Value.string { data := #[33, 61] }] 9))) := zz (Fr.only (Onl.below (Aa _ _)) (by omega))
 clear h
 go_enter Tryz.func103, Tryz.ntmps103
 go_wp2_with fail
 refine H.out.mono ?_
 rintro e w1 ⟨rfl, hw⟩
 replace hw := zz hw
 go_wp2_with fail
 go_ret
 exact ⟨rfl, hw.out.back HF.out⟩
theorem Zw {n : Nat} {p : Pt} (hp : Gz 181 n p) (hg : Gd 0 p) : Gz 148 n (Hf p [[60], [60, 61], [62], [62, 61]]) := by
 intro w b tb to tc T at_ d v D ts h
 have hbl := h.rd.lt
 have H : Hid (Calls Tryz.prog 147 #[pR b, .func (.func 181) #[] #[], .slice (some ⟨w.heap.size, 0, none⟩) 4 4] (w.alloc (.cells #[Value.string { data := #[60] }, Value.string { data := #[60, 61] }, Value.string { data := #[62] }, Value.string { data := #[62, 61] }] 9)) (Ho b tb to tc T d D (w.alloc (.cells #[Value.string { data := #[60] }, Value.string { data := #[60, 61] }, Value.string { data := #[62] }, Value.string { data := #[62, 61] }] 9)) ((Hf p [[60], [60, 61], [62], [62, 61]]) d ts))) :=
  zz (a6a (h.carry (Aa w _)) (Gp hp (by intro args w; simp [go_sem])) hg (S := [[60], [60, 61], [62], [62, 61]]) (show Ns _ _ _ from heap_alloc_new w _) (by omega) 4 4 rfl (by decide))
 have HF : Hid (Fr b w (w.alloc (.cells #[Value.string { data := #[60] }, Value.string { data := #[60, 61] }, Value.string { data := #[62] }, Value.string { data := #[62, 61] }] 9))) := zz (Fr.only (Onl.below (Aa _ _)) (by omega))
 clear h
 go_enter Tryz.func148, Tryz.ntmps148
 go_wp2_with fail
 refine H.out.mono ?_
 rintro e w1 ⟨rfl, hw⟩
 replace hw := zz hw
 go_wp2_with fail
 go_ret
 exact ⟨rfl, hw.out.back HF.out⟩
theorem a2e {n : Nat} {p : Pt} (hp : Gz 198 n p) (hg : Gd 0 p) (N : Nat) (hN : n ≤ N) : Gz 181 n (Ce p [[43], [45]] N) := by
 intro w b tb to tc T at_ d v D ts h
 have hbl := h.rd.lt
 have H : Hid (Calls Tryz.prog 68 #[pR b, .func (.func 198) #[] #[], .slice (some ⟨w.heap.size, 0, none⟩) 2 2] (w.alloc (.cells #[Value.string { data := #[43] }, Value.string { data := #[45] }] 9)) (Ho b tb to tc T d D (w.alloc (.cells #[Value.string { data := #[43] }, Value.string { data := #[45] }] 9)) ((Ce p [[43], [45]] N) d ts))) :=
  zz (O0 (h.carry (Aa w _)) (Gp hp (by intro args w; simp [go_sem])) hg (S := [[43], [45]]) (show Ns _ _ _ from heap_alloc_new w _) (by omega) 2 2 rfl (by decide) N hN)
 have HF : Hid (Fr b w (w.alloc (.cells #[Value.string { data := #[43] }, Value.string { data := #[45] }] 9))) := zz (Fr.only (Onl.below (Aa _ _)) (by omega))
 clear h
 go_enter Tryz.func181, Tryz.ntmps181
 go_wp2_with fail
 refine H.out.mono ?_
 rintro e w1 ⟨rfl, hw⟩
 replace hw := zz hw
 go_wp2_with fail
 go_ret
 exact ⟨rfl, hw.out.back HF.out⟩
theorem Xa {n : Nat} {p : Pt} (hp : Gz 211 n p) (hg : Gd 0 p) (N : Nat) (hN : n ≤ N) : Gz 198 n (Ce p [[42], [47], [37]] N) := by
 intro w b tb to tc T at_ d v D ts h
 have hbl := h.rd.lt
 have H : Hid (Calls Tryz.prog 68 #[pR b, .func (.func 211) #[] #[], .slice (some ⟨w.heap.size, 0, none⟩) 3 3] (w.alloc (.cells #[Value.string { data := #[42] }, Value.string { data := #[47] }, Value.string { data := #[37] }] 9)) (Ho b tb to tc T d D (w.alloc (.cells #[Value.string { data := #[42] }, Value.string { data := #[47] }, Value.string { data := #[37] }] 9)) ((Ce p [[42], [47], [37]] N) d ts))) :=
  zz (O0 (h.carry (Aa w _)) (Gp hp (by intro args w; simp [go_sem])) hg (S := [[42], [47], [37]]) (show Ns _ _ _ from heap_alloc_new w _) (by omega) 3 3 rfl (by decide) N hN)
 have HF : Hid (Fr b w (w.alloc (.cells #[Value.string { data := #[42] }, Value.string { data := #[47] }, Value.string { data := #[37] }] 9))) := zz (Fr.only (Onl.below (Aa _ _)) (by omega))
 clear h
 go_enter Tryz.func198, Tryz.ntmps198
 go_wp2_with fail
 refine H.out.mono ?_
 rintro e w1 ⟨rfl, hw⟩
 replace hw := zz hw
 go_wp2_with fail
 go_ret
 exact ⟨rfl, hw.out.back HF.out⟩
theorem Ie {n : Nat} {p : Pt} (hp : Gz 39 n p) (hg : Gd 0 p) (N : Nat) (hN : n ≤ N) : Gz 221 n (Dn p N) := by
 intro w b tb to tc T at_ d v D ts h
 have H := zz (a30 h (Gp hp (by intro args w; simp [go_sem])) hg N hN)
 clear h
 go_enter Tryz.func221, Tryz.ntmps221
 go_wp2_with fail
 refine H.out.mono ?_
 rintro e w1 ⟨rfl, hw⟩
 replace hw := zz hw
 go_wp2_with fail
 go_ret
 exact ⟨rfl, hw.out⟩
theorem Nk {w : World} {b tb to tc : Nat} {T : List Tok} {at_ d : Nat} {v : Value} {D : List Nd} {n : Nat} {ts : List Tok} (h : Sit w b tb to tc T at_ d v D n ts) {p : Pt} (hp : Gz 179 (n - 1) p) (hg : Gd 0 p) : Calls Tryz.prog 195 #[pR b] w (Ho b tb to tc T d D w (Az p d ts)) := by
 have hbl := h.rd.lt
 obtain ⟨⟨kd, ln, cl, nm, tx⟩, ht⟩ : ∃ t, hd ts = t := ⟨_, rfl⟩
 obtain ⟨a, cap, hv⟩ := Cj h.rd.own
 obtain ⟨X, hX⟩ : ∃ X, bs tx = X := ⟨_, rfl⟩
 obtain ⟨dn, hdn⟩ : ∃ dn, D.length = dn := ⟨_, rfl⟩
 have HH : Hid (Calls Tryz.prog 136 #[pR b] w fun e w' => e = .returned (sV kd ln cl nm X dn) ∧ Below w.heap.size w w') := zz (by have := E9 h ht dn hdn a cap (by rw [hv, hdn]); rw [hX] at this; exact this)
 cases e1 : (Ax [91] [93] p) d ts with
 | bad c l k =>
  rw [show (Az p) d ts = .bad c l k by simp only [Az, Dm, Out.bind, e1]]
  replace e1 := zz e1
  have hs := zz h
  replace ht := zz ht
  replace hX := zz hX
  replace hdn := zz hdn
  replace hv := zz hv
  clear h
  go_enter Tryz.func195, Tryz.ntmps195
  go_wp2_with fail
  refine HH.out.mono ?_
  rintro e w1 ⟨rfl, hb⟩
  have hbl1 := (hs.out.rd.carry hb).lt
  replace hb := zz hb
  go_wp2_with fail
  obtain ⟨W, hW⟩ : ∃ W, W = w1.alloc (.cells #[.int .u8 kd, .int .i64 ln, .int .i64 cl, .int .i64 nm, .string X, .int .i64 dn] 93) := ⟨_, rfl⟩
  rw [← hW]
  have HS0 : Hid (Sit W b tb to tc T at_ d v D n ts) := zz (by rw [hW]; exact (hs.out.carry hb.out).carry (Aa _ _))
  have HF0 : Hid (Fr b w W) := zz (by rw [hW]; exact (Fr.only (Onl.below hb.out) (by omega)).trans (Fr.only (Onl.below (Aa _ _)) (by omega)))
  have HM0 : Hid (SAt W w1.heap.size kd ln cl nm X dn) := zz (by rw [hW]; exact SAt.made w1 kd ln cl nm X dn)
  clear hW
  have HC1 := zz (O3 (Dy (HS0.out) { data := #[91] } { data := #[93] } [91] [93] (by rw [ByteArray.toList_eq]) (by rw [ByteArray.toList_eq]) (Gp hp (by intro args w; simp [go_sem])) hg) e1.out)
  refine HC1.out.mono ?_
  rintro e w2 ⟨rfl, rf, fr⟩
  replace rf := zz rf
  replace fr := zz fr
  go_wp2_with fail
  go_ret
  exact ⟨rfl, rf.out, HF0.out.trans fr.out⟩
 | ok F1 r1 =>
  rw [show (Az p) d ts = .ok (.cons (mkK 20 ts) (F1) .nil) r1 by simp only [Az, Dm, Out.bind, e1]]
  replace e1 := zz e1
  have hs := zz h
  replace ht := zz ht
  replace hX := zz hX
  replace hdn := zz hdn
  replace hv := zz hv
  clear h
  go_enter Tryz.func195, Tryz.ntmps195
  go_wp2_with fail
  refine HH.out.mono ?_
  rintro e w1 ⟨rfl, hb⟩
  have hbl1 := (hs.out.rd.carry hb).lt
  replace hb := zz hb
  go_wp2_with fail
  obtain ⟨W, hW⟩ : ∃ W, W = w1.alloc (.cells #[.int .u8 kd, .int .i64 ln, .int .i64 cl, .int .i64 nm, .string X, .int .i64 dn] 93) := ⟨_, rfl⟩
  rw [← hW]
  have HS0 : Hid (Sit W b tb to tc T at_ d v D n ts) := zz (by rw [hW]; exact (hs.out.carry hb.out).carry (Aa _ _))
  have HF0 : Hid (Fr b w W) := zz (by rw [hW]; exact (Fr.only (Onl.below hb.out) (by omega)).trans (Fr.only (Onl.below (Aa _ _)) (by omega)))
  have HM0 : Hid (SAt W w1.heap.size kd ln cl nm X dn) := zz (by rw [hW]; exact SAt.made w1 kd ln cl nm X dn)
  clear hW
  have HC1 := zz (Wi (Dy (HS0.out) { data := #[91] } { data := #[93] } [91] [93] (by rw [ByteArray.toList_eq]) (by rw [ByteArray.toList_eq]) (Gp hp (by intro args w; simp [go_sem])) hg) e1.out)
  refine HC1.out.mono ?_
  rintro e w2 ⟨rfl, ⟨at1, v1, dr, rd⟩, fr⟩
  have HS1 := zz (HS0.out.then (s := 2) (C0 (o := [91]) (c := [93]) hg d ts F1 r1 e1.out) dr rd)
  have HF1 := zz (HF0.out.trans fr)
  have HM1 := zz (HM0.out.fr fr (by omega))
  clear dr rd fr
  obtain ⟨m0, m1, m2, m3, m4, m5⟩ := HM1.out.at
  go_wp2_with fail
  have HA := zz (Ex HS1.out.rd kd ln cl dn nm X 20 0 0 0 0 { data := #[] } (F1).cnt (by have := hdn.out; simp [Au, Ds, Fo.cnt]; omega) (by have := HS1.out.rm; omega))
  refine HA.out.mono ?_
  rintro e wa ⟨rfl, ⟨va, rda⟩, fra⟩
  replace rda := zz rda
  replace fra := zz fra
  go_wp2_with fail
  go_ret
  exact ⟨rfl, ⟨at1, va, HS1.out.dr, Hb rda.out (by simp [Di, Fo.post, List.append_assoc]) (by simp [mkK, mkX, mkY, mkN, Inf.nd, ht.out]; try rfl)⟩, HF1.out.trans fra.out⟩
end
end Go.Proofs.YtoaplbljflhheaaGreat
namespace Go.Proofs.YtoaplbljflhheaaGreat
section
open Go.RowKit Go.Sort
theorem b1l (kd ln cl : Nat) (nm : Int) (X : ByteArray) (w : World) (e2 : ((kd : Int) == 2) = true) : Calls Tryz.prog 205 #[.agg #[.int .u8 kd, .int .i64 ln, .int .i64 cl, .int .i64 nm, .string X]] w fun e w' => e = .returned (.tuple #[nV 19 0 0 0 0 X, .bool true]) ∧ Below w.heap.size w w' := by
 go_enter Tryz.func205, Tryz.ntmps205
 go_wp2_with fail
 refine bodyPost_ret (v := .tuple #[nV 19 0 0 0 0 X, .bool true]) (by simp [results, Tryz.results205, go_sem]) rfl ⟨rfl, by go_grown⟩
theorem b1k (kd ln cl : Nat) (nm : Int) (X : ByteArray) (w : World) (e2 : ((kd : Int) == 2) = false) (e6 : ((kd : Int) != 6) = true) : Calls Tryz.prog 205 #[.agg #[.int .u8 kd, .int .i64 ln, .int .i64 cl, .int .i64 nm, .string X]] w fun e w' => e = .returned (.tuple #[nV 0 0 0 0 0 { data := #[] }, .bool false]) ∧ Below w.heap.size w w' := by
 go_enter Tryz.func205, Tryz.ntmps205
 go_wp2_with fail
 refine bodyPost_ret (v := .tuple #[nV 0 0 0 0 0 { data := #[] }, .bool false]) (by simp [results, Tryz.results205, go_sem]) rfl ⟨rfl, by go_grown⟩
theorem b6c (kd ln cl : Nat) (nm : Int) (X : ByteArray) (w : World) (e2 : ((kd : Int) == 2) = false) (e6 : ((kd : Int) != 6) = false)  (x0 : (X.toList == [105, 110, 116]) = true) : Calls Tryz.prog 205 #[.agg #[.int .u8 kd, .int .i64 ln, .int .i64 cl, .int .i64 nm, .string X]] w fun e w' => e = .returned (.tuple #[nV 15 0 0 0 0 { data := #[] }, .bool true]) ∧ Below w.heap.size w w' := by
 go_enter Tryz.func205, Tryz.ntmps205
 go_wp2_with fail
 refine bodyPost_ret (v := .tuple #[nV 15 0 0 0 0 { data := #[] }, .bool true]) (by simp [results, Tryz.results205, go_sem]) rfl ⟨rfl, by go_grown⟩
theorem b6b (kd ln cl : Nat) (nm : Int) (X : ByteArray) (w : World) (e2 : ((kd : Int) == 2) = false) (e6 : ((kd : Int) != 6) = false) (x0 : (X.toList == [105, 110, 116]) = false) (x1 : (X.toList == [98, 111, 111, 108]) = true) : Calls Tryz.prog 205 #[.agg #[.int .u8 kd, .int .i64 ln, .int .i64 cl, .int .i64 nm, .string X]] w fun e w' => e = .returned (.tuple #[nV 16 0 0 0 0 { data := #[] }, .bool true]) ∧ Below w.heap.size w w' := by
 go_enter Tryz.func205, Tryz.ntmps205
 go_wp2_with fail
 refine bodyPost_ret (v := .tuple #[nV 16 0 0 0 0 { data := #[] }, .bool true]) (by simp [results, Tryz.results205, go_sem]) rfl ⟨rfl, by go_grown⟩
theorem b6a (kd ln cl : Nat) (nm : Int) (X : ByteArray) (w : World) (e2 : ((kd : Int) == 2) = false) (e6 : ((kd : Int) != 6) = false) (x0 : (X.toList == [105, 110, 116]) = false) (x1 : (X.toList == [98, 111, 111, 108]) = false) (x2 : (X.toList == [115, 116, 114]) = true) : Calls Tryz.prog 205 #[.agg #[.int .u8 kd, .int .i64 ln, .int .i64 cl, .int .i64 nm, .string X]] w fun e w' => e = .returned (.tuple #[nV 17 0 0 0 0 { data := #[] }, .bool true]) ∧ Below w.heap.size w w' := by
 go_enter Tryz.func205, Tryz.ntmps205
 go_wp2_with fail
 refine bodyPost_ret (v := .tuple #[nV 17 0 0 0 0 { data := #[] }, .bool true]) (by simp [results, Tryz.results205, go_sem]) rfl ⟨rfl, by go_grown⟩
theorem b59 (kd ln cl : Nat) (nm : Int) (X : ByteArray) (w : World) (e2 : ((kd : Int) == 2) = false) (e6 : ((kd : Int) != 6) = false) (x0 : (X.toList == [105, 110, 116]) = false) (x1 : (X.toList == [98, 111, 111, 108]) = false) (x2 : (X.toList == [115, 116, 114]) = false) (x3 : (X.toList == [99, 111, 109, 112]) = true) : Calls Tryz.prog 205 #[.agg #[.int .u8 kd, .int .i64 ln, .int .i64 cl, .int .i64 nm, .string X]] w fun e w' => e = .returned (.tuple #[nV 18 0 0 0 0 { data := #[] }, .bool true]) ∧ Below w.heap.size w w' := by
 go_enter Tryz.func205, Tryz.ntmps205
 go_wp2_with fail
 refine bodyPost_ret (v := .tuple #[nV 18 0 0 0 0 { data := #[] }, .bool true]) (by simp [results, Tryz.results205, go_sem]) rfl ⟨rfl, by go_grown⟩
theorem a7h (kd ln cl : Nat) (nm : Int) (X : ByteArray) (w : World) (e2 : ((kd : Int) == 2) = false) (e6 : ((kd : Int) != 6) = false) (x0 : (X.toList == [105, 110, 116]) = false) (x1 : (X.toList == [98, 111, 111, 108]) = false) (x2 : (X.toList == [115, 116, 114]) = false) (x3 : (X.toList == [99, 111, 109, 112]) = false) : Calls Tryz.prog 205 #[.agg #[.int .u8 kd, .int .i64 ln, .int .i64 cl, .int .i64 nm, .string X]] w fun e w' => e = .returned (.tuple #[nV 0 0 0 0 0 { data := #[] }, .bool false]) ∧ Below w.heap.size w w' := by
 go_enter Tryz.func205, Tryz.ntmps205
 go_wp2_with fail
 refine bodyPost_ret (v := .tuple #[nV 0 0 0 0 0 { data := #[] }, .bool false]) (by simp [results, Tryz.results205, go_sem]) rfl ⟨rfl, by go_grown⟩
theorem b57 (X : ByteArray) (w : World)  (x0 : (X.toList == [116, 114, 117, 101]) = true) : Calls Tryz.prog 223 #[.string X] w fun e w' => e = .returned (.tuple #[nV 24 0 0 0 1 { data := #[] }, .bool true]) ∧ Below w.heap.size w w' := by
 go_enter Tryz.func223, Tryz.ntmps223
 go_wp2_with fail
 refine bodyPost_ret (v := .tuple #[nV 24 0 0 0 1 { data := #[] }, .bool true]) (by simp [results, Tryz.results223, go_sem]) rfl ⟨rfl, by go_grown⟩
theorem b56 (X : ByteArray) (w : World) (x0 : (X.toList == [116, 114, 117, 101]) = false) (x1 : (X.toList == [102, 97, 108, 115, 101]) = true) : Calls Tryz.prog 223 #[.string X] w fun e w' => e = .returned (.tuple #[nV 24 0 0 0 0 { data := #[] }, .bool true]) ∧ Below w.heap.size w w' := by
 go_enter Tryz.func223, Tryz.ntmps223
 go_wp2_with fail
 refine bodyPost_ret (v := .tuple #[nV 24 0 0 0 0 { data := #[] }, .bool true]) (by simp [results, Tryz.results223, go_sem]) rfl ⟨rfl, by go_grown⟩
theorem b55 (X : ByteArray) (w : World) (x0 : (X.toList == [116, 114, 117, 101]) = false) (x1 : (X.toList == [102, 97, 108, 115, 101]) = false) (x2 : (X.toList == [110, 105, 108]) = true) : Calls Tryz.prog 223 #[.string X] w fun e w' => e = .returned (.tuple #[nV 25 0 0 0 0 { data := #[] }, .bool true]) ∧ Below w.heap.size w w' := by
 go_enter Tryz.func223, Tryz.ntmps223
 go_wp2_with fail
 refine bodyPost_ret (v := .tuple #[nV 25 0 0 0 0 { data := #[] }, .bool true]) (by simp [results, Tryz.results223, go_sem]) rfl ⟨rfl, by go_grown⟩
theorem a66 (X : ByteArray) (w : World) (x0 : (X.toList == [116, 114, 117, 101]) = false) (x1 : (X.toList == [102, 97, 108, 115, 101]) = false) (x2 : (X.toList == [110, 105, 108]) = false) : Calls Tryz.prog 223 #[.string X] w fun e w' => e = .returned (.tuple #[nV 0 0 0 0 0 { data := #[] }, .bool false]) ∧ Below w.heap.size w w' := by
 go_enter Tryz.func223, Tryz.ntmps223
 go_wp2_with fail
 refine bodyPost_ret (v := .tuple #[nV 0 0 0 0 0 { data := #[] }, .bool false]) (by simp [results, Tryz.results223, go_sem]) rfl ⟨rfl, by go_grown⟩
theorem b37 (kd ln cl : Nat) (nm : Int) (X : ByteArray) (w : World)  (k3 : ((kd : Int) == 3) = true) : Calls Tryz.prog 222 #[.agg #[.int .u8 kd, .int .i64 ln, .int .i64 cl, .int .i64 nm, .string X]] w fun e w' => e = .returned (.tuple #[nV 21 0 0 0 nm { data := #[] }, .bool true]) ∧ Below w.heap.size w w' := by
 go_enter Tryz.func222, Tryz.ntmps222
 go_wp2_with fail
 refine bodyPost_ret (v := .tuple #[nV 21 0 0 0 nm { data := #[] }, .bool true]) (by simp [results, Tryz.results222, go_sem]) rfl ⟨rfl, by go_grown⟩
theorem a91 (kd ln cl : Nat) (nm : Int) (X : ByteArray) (w : World) (k3 : ((kd : Int) == 3) = false) (k4 : ((kd : Int) == 4) = true) : Calls Tryz.prog 222 #[.agg #[.int .u8 kd, .int .i64 ln, .int .i64 cl, .int .i64 nm, .string X]] w fun e w' => e = .returned (.tuple #[nV 22 0 0 0 nm { data := #[] }, .bool true]) ∧ Below w.heap.size w w' := by
 go_enter Tryz.func222, Tryz.ntmps222
 go_wp2_with fail
 refine bodyPost_ret (v := .tuple #[nV 22 0 0 0 nm { data := #[] }, .bool true]) (by simp [results, Tryz.results222, go_sem]) rfl ⟨rfl, by go_grown⟩
theorem b36 (kd ln cl : Nat) (nm : Int) (X : ByteArray) (w : World) (k3 : ((kd : Int) == 3) = false) (k4 : ((kd : Int) == 4) = false) (k5 : ((kd : Int) == 5) = true) : Calls Tryz.prog 222 #[.agg #[.int .u8 kd, .int .i64 ln, .int .i64 cl, .int .i64 nm, .string X]] w fun e w' => e = .returned (.tuple #[nV 23 0 0 0 0 X, .bool true]) ∧ Below w.heap.size w w' := by
 go_enter Tryz.func222, Tryz.ntmps222
 go_wp2_with fail
 refine bodyPost_ret (v := .tuple #[nV 23 0 0 0 0 X, .bool true]) (by simp [results, Tryz.results222, go_sem]) rfl ⟨rfl, by go_grown⟩
theorem a90 (kd ln cl : Nat) (nm : Int) (X : ByteArray) (w : World) (k3 : ((kd : Int) == 3) = false) (k4 : ((kd : Int) == 4) = false) (k5 : ((kd : Int) == 5) = false) (k6 : ((kd : Int) == 6) = false) : Calls Tryz.prog 222 #[.agg #[.int .u8 kd, .int .i64 ln, .int .i64 cl, .int .i64 nm, .string X]] w fun e w' => e = .returned (.tuple #[nV 0 0 0 0 0 { data := #[] }, .bool false]) ∧ Below w.heap.size w w' := by
 go_enter Tryz.func222, Tryz.ntmps222
 go_wp2_with fail
 refine bodyPost_ret (v := .tuple #[nV 0 0 0 0 0 { data := #[] }, .bool false]) (by simp [results, Tryz.results222, go_sem]) rfl ⟨rfl, by go_grown⟩
theorem Oy (kd ln cl : Nat) (nm : Int) (X : ByteArray) (w : World) (k3 : ((kd : Int) == 3) = false) (k4 : ((kd : Int) == 4) = false) (k5 : ((kd : Int) == 5) = false) (k6 : ((kd : Int) == 6) = true) (k : Nat) (m : Int) (Y : ByteArray) (q : Bool) (H : Hid (∀ w, Calls Tryz.prog 223 #[.string X] w fun e w' => e = .returned (.tuple #[nV k 0 0 0 m Y, .bool q]) ∧ Below w.heap.size w w')) : Calls Tryz.prog 222 #[.agg #[.int .u8 kd, .int .i64 ln, .int .i64 cl, .int .i64 nm, .string X]] w fun e w' => e = .returned (.tuple #[nV k 0 0 0 m Y, .bool q]) ∧ Below w.heap.size w w' := by
 go_enter Tryz.func222, Tryz.ntmps222
 go_wp2_with fail
 refine (H.out _).mono ?_
 rintro e w1 ⟨rfl, hb⟩
 obtain ⟨hc, hf⟩ := Df hb
 have hz := hb.size
 simp only [World.size_alloc] at hc hf hz
 go_wp2_with fail
 refine bodyPost_ret (v := .tuple #[nV k 0 0 0 m Y, .bool q]) (by simp [results, Tryz.results222, go_sem, hc]) rfl ⟨rfl, ?_⟩
 have hb' := (by go_grown : Below w.heap.size w _).trans (hb.mono (by simp; omega))
 go_grown
def P9 (q : Option (Nat × Int × List UInt8)) : Nat × Int × List UInt8 := q.getD (0, 0, [])
def Ey (t : Tok) : Option (Nat × Int × List UInt8) := (Ez t).map fun q => (q.1, 0, q.2)
theorem Pb (t : Tok) (w : World) : Calls Tryz.prog 205 #[tV t] w fun e w' => e = .returned (.tuple #[nV (P9 (Ey t)).1 0 0 0 (P9 (Ey t)).2.1 (bs (P9 (Ey t)).2.2), .bool (Ey t).isSome]) ∧ Below w.heap.size w w' := by
 obtain ⟨kd, ln, cl, nm, tx⟩ := t
 by_cases h2 : kd = 2
 ·rw [show Ey ⟨kd, ln, cl, nm, tx⟩ = some (19, 0, tx) by simp [Ey, Ez, h2]]
  exact b1l kd ln cl nm (bs tx) w (by rw [h2]; rfl)
 ·have e2 : ((kd : Int) == 2) = false := by rw [beq_eq_false_iff_ne]; omega
  by_cases h6 : kd = 6
  ·have e6 : ((kd : Int) != 6) = false := by rw [h6]; rfl
   by_cases x0 : tx = [105, 110, 116]
   ·have := b6c kd ln cl nm (bs tx) w e2 e6  (by rw [Aq, x0]; rfl)
    rw [show Ey ⟨kd, ln, cl, nm, tx⟩ = some (15, 0, []) by simp [Ey, Ez, h6, x0]]
    exact this
   by_cases x1 : tx = [98, 111, 111, 108]
   ·have := b6b kd ln cl nm (bs tx) w e2 e6 (by rw [Aq]; simpa using x0) (by rw [Aq, x1]; rfl)
    rw [show Ey ⟨kd, ln, cl, nm, tx⟩ = some (16, 0, []) by simp [Ey, Ez, h6, x1]]
    exact this
   by_cases x2 : tx = [115, 116, 114]
   ·have := b6a kd ln cl nm (bs tx) w e2 e6 (by rw [Aq]; simpa using x0) (by rw [Aq]; simpa using x1) (by rw [Aq, x2]; rfl)
    rw [show Ey ⟨kd, ln, cl, nm, tx⟩ = some (17, 0, []) by simp [Ey, Ez, h6, x2]]
    exact this
   by_cases x3 : tx = [99, 111, 109, 112]
   ·have := b59 kd ln cl nm (bs tx) w e2 e6 (by rw [Aq]; simpa using x0) (by rw [Aq]; simpa using x1) (by rw [Aq]; simpa using x2) (by rw [Aq, x3]; rfl)
    rw [show Ey ⟨kd, ln, cl, nm, tx⟩ = some (18, 0, []) by simp [Ey, Ez, h6, x3]]
    exact this
   have := a7h kd ln cl nm (bs tx) w e2 e6 (by rw [Aq]; simpa using x0) (by rw [Aq]; simpa using x1) (by rw [Aq]; simpa using x2) (by rw [Aq]; simpa using x3)
   rw [show Ey ⟨kd, ln, cl, nm, tx⟩ = none by simp [Ey, Ez, h6, x0, x1, x2, x3]]
   exact this
  ·have e6 : ((kd : Int) != 6) = true := b4a (by omega)
   have := b1k kd ln cl nm (bs tx) w e2 e6
   rw [show Ey ⟨kd, ln, cl, nm, tx⟩ = none by simp [Ey, Ez, h2, h6]]
   exact this
theorem Ox (t : Tok) (w : World) : Calls Tryz.prog 222 #[tV t] w fun e w' => e = .returned (.tuple #[nV (P9 (Bg t)).1 0 0 0 (P9 (Bg t)).2.1 (bs (P9 (Bg t)).2.2), .bool (Bg t).isSome]) ∧ Below w.heap.size w w' := by
 obtain ⟨kd, ln, cl, nm, tx⟩ := t
 by_cases h3 : kd = 3
 ·have := b37 kd ln cl nm (bs tx) w (by rw [h3]; rfl)
  rw [show Bg ⟨kd, ln, cl, nm, tx⟩ = some (21, nm, []) by simp [Bg, h3]]
  exact this
 have e3 : ((kd : Int) == 3) = false := by rw [beq_eq_false_iff_ne]; omega
 by_cases h4 : kd = 4
 ·have := a91 kd ln cl nm (bs tx) w e3 (by rw [h4]; rfl)
  rw [show Bg ⟨kd, ln, cl, nm, tx⟩ = some (22, nm, []) by simp [Bg, h4]]
  exact this
 have e4 : ((kd : Int) == 4) = false := by rw [beq_eq_false_iff_ne]; omega
 by_cases h5 : kd = 5
 ·have := b36 kd ln cl nm (bs tx) w e3 e4 (by rw [h5]; rfl)
  rw [show Bg ⟨kd, ln, cl, nm, tx⟩ = some (23, 0, tx) by simp [Bg, h5]]
  exact this
 have e5 : ((kd : Int) == 5) = false := by rw [beq_eq_false_iff_ne]; omega
 by_cases h6 : kd = 6
 ·have e6 : ((kd : Int) == 6) = true := by rw [h6]; rfl
  by_cases x0 : tx = [116, 114, 117, 101]
  ·have := Oy kd ln cl nm (bs tx) w e3 e4 e5 e6 24 1 { data := #[] } true (zz fun w => b57 (bs tx) w  (by rw [Aq, x0]; rfl))
   rw [show Bg ⟨kd, ln, cl, nm, tx⟩ = some (24, 1, []) by simp [Bg, h6, x0]]
   exact this
  by_cases x1 : tx = [102, 97, 108, 115, 101]
  ·have := Oy kd ln cl nm (bs tx) w e3 e4 e5 e6 24 0 { data := #[] } true (zz fun w => b56 (bs tx) w (by rw [Aq]; simpa using x0) (by rw [Aq, x1]; rfl))
   rw [show Bg ⟨kd, ln, cl, nm, tx⟩ = some (24, 0, []) by simp [Bg, h6, x1]]
   exact this
  by_cases x2 : tx = [110, 105, 108]
  ·have := Oy kd ln cl nm (bs tx) w e3 e4 e5 e6 25 0 { data := #[] } true (zz fun w => b55 (bs tx) w (by rw [Aq]; simpa using x0) (by rw [Aq]; simpa using x1) (by rw [Aq, x2]; rfl))
   rw [show Bg ⟨kd, ln, cl, nm, tx⟩ = some (25, 0, []) by simp [Bg, h6, x2]]
   exact this
  have := Oy kd ln cl nm (bs tx) w e3 e4 e5 e6 0 0 { data := #[] } false (zz fun w => a66 (bs tx) w (by rw [Aq]; simpa using x0) (by rw [Aq]; simpa using x1) (by rw [Aq]; simpa using x2))
  rw [show Bg ⟨kd, ln, cl, nm, tx⟩ = none by simp [Bg, h6, x0, x1, x2]]
  exact this
 have e6 : ((kd : Int) == 6) = false := by rw [beq_eq_false_iff_ne]; omega
 have := a90 kd ln cl nm (bs tx) w e3 e4 e5 e6
 rw [show Bg ⟨kd, ln, cl, nm, tx⟩ = none by simp [Bg, h3, h4, h5, h6]]
 exact this
theorem Gi {w : World} {b tb to tc : Nat} {T : List Tok} {at_ d : Nat} {v : Value} {D : List Nd} {n : Nat} {ts : List Tok} (h : Sit w b tb to tc T at_ d v D n ts) : Calls Tryz.prog 196 #[pR b] w (Ho b tb to tc T d D w (Am d ts)) := by
 have hbl := h.rd.lt
 obtain ⟨⟨kd, ln, cl, nm, tx⟩, ht⟩ : ∃ t, hd ts = t := ⟨_, rfl⟩
 obtain ⟨a, cap, hv⟩ := Cj h.rd.own
 obtain ⟨dn, hdn⟩ : ∃ dn, D.length = dn := ⟨_, rfl⟩
 have HH := E9 h ht dn hdn a cap (by rw [hv, hdn])
 obtain ⟨⟨k, m, x⟩, hq⟩ : ∃ q, P9 (Ey (hd ts)) = q := ⟨_, rfl⟩
 obtain ⟨q, hq2⟩ : ∃ q, (Ey (hd ts)).isSome = q := ⟨_, rfl⟩
 have HN := fun w => Pb (hd ts) w
 rw [hq, hq2, ht] at HN
 obtain ⟨X, hX⟩ : ∃ X, bs tx = X := ⟨_, rfl⟩
 obtain ⟨Y, hY⟩ : ∃ Y, bs x = Y := ⟨_, rfl⟩
 replace HN : ∀ w, Calls Tryz.prog 205 #[.agg #[.int .u8 kd, .int .i64 ln, .int .i64 cl, .int .i64 nm, .string (bs tx)]] w fun e w' => e = .returned (.tuple #[.agg #[.int .u8 k, .int .i64 0, .int .i64 0, .int .i64 0, .int .i64 m, .string (bs x)], .bool q]) ∧ Below w.heap.size w w' := HN
 rw [hX] at HN HH
 rw [hY] at HN
 replace HN := zz HN
 replace HH := zz HH
 have HR : (q = true → Am d ts = .ok (.cons ⟨k, ln, cl, m, x⟩ .nil .nil) ts.tail ∧ (hd ts).kind ≠ 8) ∧ (q = false → Am d ts = .bad 5 ln cl) := by
  unfold Am
  cases hK : Ey (hd ts) with
  | none =>
   rw [hK] at hq2
   refine ⟨(fun e => by rw [← hq2] at e; cases e), fun _ => ?_⟩
   simp [Ey] at hK; simp only [hK]; unfold Kq; rw [ht]
  | some z =>
   rw [hK] at hq hq2
   refine ⟨fun _ => ⟨?_, ?_⟩, (fun e => by rw [← hq2] at e; cases e)⟩
   ·obtain ⟨z', hz1, hz2⟩ := Option.map_eq_some_iff.1 hK; rw [← hz2] at hq; cases hq; simp only [hz1]; rw [ht]
   ·obtain ⟨z', hz1, hz2⟩ := Option.map_eq_some_iff.1 hK; have := M6 hz1; omega
 clear hq2 hq
 cases q with
 | false =>
  rw [HR.2 rfl]
  have HP := zz (fun (w' : World) (hb : Below w.heap.size w w') => N7 (h.rd.carry hb) h.next)
  rw [ht] at HP
  replace h := zz h
  clear HR ht
  go_enter Tryz.func196, Tryz.ntmps196
  go_wp2_with fail
  refine HH.out.mono ?_
  rintro e w1 ⟨rfl, hb1⟩
  replace hb1 := zz hb1
  go_wp2_with fail
  refine (HN.out _).mono ?_
  rintro e w2 ⟨rfl, hb2⟩
  replace hb2 := zz (Ab (Ab hb1.out (Aa _ _)) hb2)
  go_wp2_with fail
  refine (HP.out _ (Ab hb2.out (Aa _ _))).mono ?_
  rintro e w3 ⟨rfl, h1, h2⟩
  replace h1 := zz h1
  replace h2 := zz h2
  go_wp2_with fail
  go_ret
  exact ⟨rfl, h1.out, Fr.only ((Onl.below (Ab hb2.out (Aa _ _))).trans h2.out) (by omega)⟩
 | true =>
  obtain ⟨HR1, hk⟩ := HR.1 rfl
  rw [HR1]
  have HP := zz (fun (w' : World) (hb : Below w.heap.size w w') => Kx (h.rd.carry hb) h.next)
  have HT := zz (h.tail (w' := w) · hk)
  have hsz := h.rm
  have HE : Hid (T.drop (at_ + 1) = ts.tail) := zz (by rw [← List.drop_drop, h.dr]; simp)
  replace h := zz h
  replace hY := zz hY
  replace hdn := zz hdn
  clear HR HR1 ht hk hv
  go_enter Tryz.func196, Tryz.ntmps196
  go_wp2_with fail
  refine HH.out.mono ?_
  rintro e w1 ⟨rfl, hb1⟩
  replace hb1 := zz hb1
  have hbl1 : b < w1.heap.size := by have := hb1.out.size; omega
  go_wp2_with fail
  refine (HN.out _).mono ?_
  rintro e w2 ⟨rfl, hb2⟩
  have HM0 := zz ((SAt.made w1 kd ln cl nm X dn).below hb2)
  have hsz2 := hb2.size
  simp only [World.size_alloc] at hsz2
  replace hb2 := zz (Ab (Ab hb1.out (Aa _ _)) hb2)
  go_wp2_with fail
  refine (HP.out _ (Ab hb2.out (Aa _ _))).mono ?_
  rintro e w3 ⟨rfl, h1, h2⟩
  have hSA : SAt w3 w1.heap.size kd ln cl nm X dn := (h2.block _ (by simp; omega) (by omega)).trans (HM0.out.below (Aa _ _))
  obtain ⟨m0, m1, m2, m3, m4, m5⟩ := hSA.at
  clear hSA
  have hn := (h2.block w2.heap.size (by simp) (by omega)).trans (heap_alloc_new w2 _)
  have n0 := cell_of_row w3 w2.heap.size 0 _ 37 (0, 0) hn
  have n1 := cell_of_row w3 w2.heap.size 1 _ 37 (0, 0) hn
  have n2 := cell_of_row w3 w2.heap.size 2 _ 37 (0, 0) hn
  have n3 := cell_of_row w3 w2.heap.size 3 _ 37 (0, 0) hn
  have n4 := cell_of_row w3 w2.heap.size 4 _ 37 (0, 0) hn
  have n5 := cell_of_row w3 w2.heap.size 5 _ 37 (0, 0) hn
  simp only [List.getElem?_toArray, List.getElem?_cons_zero, List.getElem?_cons_succ] at n0 n1 n2 n3 n4 n5
  have HA := zz (Ex h1 kd ln cl dn nm X k 0 0 0 m Y 0 (by rw [hdn.out]; rfl) (by omega))
  replace h1 := zz h1
  replace h2 := zz h2
  clear hn
  go_wp2_with fail
  refine HA.out.mono ?_
  rintro e w4 ⟨rfl, ⟨v4, h4⟩, h5⟩
  replace h4 := zz h4
  replace h5 := zz h5
  go_wp2_with fail
  go_ret
  refine ⟨rfl, ⟨at_ + 1, v4, HE.out, by have := h4.out; rw [← hY.out] at this; simpa [Fo.post, Fo.cnt, Inf.nd] using this⟩, (Fr.only ((Onl.below (Ab hb2.out (Aa _ _))).trans h2.out) (by omega)).trans h5.out⟩
theorem Wb {w : World} {b tb to tc : Nat} {T : List Tok} {at_ d : Nat} {v : Value} {D : List Nd} {n : Nat} {ts : List Tok} (h : Sit w b tb to tc T at_ d v D n ts) : Calls Tryz.prog 219 #[pR b] w (Ho b tb to tc T d D w (Eb d ts)) := by
 have hbl := h.rd.lt
 obtain ⟨⟨kd, ln, cl, nm, tx⟩, ht⟩ : ∃ t, hd ts = t := ⟨_, rfl⟩
 obtain ⟨a, cap, hv⟩ := Cj h.rd.own
 obtain ⟨dn, hdn⟩ : ∃ dn, D.length = dn := ⟨_, rfl⟩
 have HH := E9 h ht dn hdn a cap (by rw [hv, hdn])
 obtain ⟨⟨k, m, x⟩, hq⟩ : ∃ q, P9 (Bg (hd ts)) = q := ⟨_, rfl⟩
 obtain ⟨q, hq2⟩ : ∃ q, (Bg (hd ts)).isSome = q := ⟨_, rfl⟩
 have HN := fun w => Ox (hd ts) w
 rw [hq, hq2, ht] at HN
 obtain ⟨X, hX⟩ : ∃ X, bs tx = X := ⟨_, rfl⟩
 obtain ⟨Y, hY⟩ : ∃ Y, bs x = Y := ⟨_, rfl⟩
 replace HN : ∀ w, Calls Tryz.prog 222 #[.agg #[.int .u8 kd, .int .i64 ln, .int .i64 cl, .int .i64 nm, .string (bs tx)]] w fun e w' => e = .returned (.tuple #[.agg #[.int .u8 k, .int .i64 0, .int .i64 0, .int .i64 0, .int .i64 m, .string (bs x)], .bool q]) ∧ Below w.heap.size w w' := HN
 rw [hX] at HN HH
 rw [hY] at HN
 replace HN := zz HN
 replace HH := zz HH
 have HR : (q = true → Eb d ts = .ok (.cons ⟨k, ln, cl, m, x⟩ .nil .nil) ts.tail ∧ (hd ts).kind ≠ 8) ∧ (q = false → Eb d ts = .bad 5 ln cl) := by
  unfold Eb
  cases hK : Bg (hd ts) with
  | none =>
   rw [hK] at hq2
   refine ⟨(fun e => by rw [← hq2] at e; cases e), fun _ => ?_⟩
   simp [Kq, ht]
  | some z =>
   rw [hK] at hq hq2
   refine ⟨fun _ => ⟨?_, ?_⟩, (fun e => by rw [← hq2] at e; cases e)⟩
   ·cases hq; simp [ht]
   ·have := Mg hK; omega
 clear hq2 hq
 cases q with
 | false =>
  rw [HR.2 rfl]
  have HP := zz (fun (w' : World) (hb : Below w.heap.size w w') => N7 (h.rd.carry hb) h.next)
  rw [ht] at HP
  replace h := zz h
  clear HR ht
  go_enter Tryz.func219, Tryz.ntmps219
  go_wp2_with fail
  refine HH.out.mono ?_
  rintro e w1 ⟨rfl, hb1⟩
  replace hb1 := zz hb1
  go_wp2_with fail
  refine (HN.out _).mono ?_
  rintro e w2 ⟨rfl, hb2⟩
  replace hb2 := zz (Ab (Ab hb1.out (Aa _ _)) hb2)
  go_wp2_with fail
  refine (HP.out _ (Ab hb2.out (Aa _ _))).mono ?_
  rintro e w3 ⟨rfl, h1, h2⟩
  replace h1 := zz h1
  replace h2 := zz h2
  go_wp2_with fail
  go_ret
  exact ⟨rfl, h1.out, Fr.only ((Onl.below (Ab hb2.out (Aa _ _))).trans h2.out) (by omega)⟩
 | true =>
  obtain ⟨HR1, hk⟩ := HR.1 rfl
  rw [HR1]
  have HP := zz (fun (w' : World) (hb : Below w.heap.size w w') => Kx (h.rd.carry hb) h.next)
  have HT := zz (h.tail (w' := w) · hk)
  have hsz := h.rm
  have HE : Hid (T.drop (at_ + 1) = ts.tail) := zz (by rw [← List.drop_drop, h.dr]; simp)
  replace h := zz h
  replace hY := zz hY
  replace hdn := zz hdn
  clear HR HR1 ht hk hv
  go_enter Tryz.func219, Tryz.ntmps219
  go_wp2_with fail
  refine HH.out.mono ?_
  rintro e w1 ⟨rfl, hb1⟩
  replace hb1 := zz hb1
  have hbl1 : b < w1.heap.size := by have := hb1.out.size; omega
  go_wp2_with fail
  refine (HN.out _).mono ?_
  rintro e w2 ⟨rfl, hb2⟩
  have HM0 := zz ((SAt.made w1 kd ln cl nm X dn).below hb2)
  have hsz2 := hb2.size
  simp only [World.size_alloc] at hsz2
  replace hb2 := zz (Ab (Ab hb1.out (Aa _ _)) hb2)
  go_wp2_with fail
  refine (HP.out _ (Ab hb2.out (Aa _ _))).mono ?_
  rintro e w3 ⟨rfl, h1, h2⟩
  have hSA : SAt w3 w1.heap.size kd ln cl nm X dn := (h2.block _ (by simp; omega) (by omega)).trans (HM0.out.below (Aa _ _))
  obtain ⟨m0, m1, m2, m3, m4, m5⟩ := hSA.at
  clear hSA
  have hn := (h2.block w2.heap.size (by simp) (by omega)).trans (heap_alloc_new w2 _)
  have n0 := cell_of_row w3 w2.heap.size 0 _ 37 (0, 0) hn
  have n1 := cell_of_row w3 w2.heap.size 1 _ 37 (0, 0) hn
  have n2 := cell_of_row w3 w2.heap.size 2 _ 37 (0, 0) hn
  have n3 := cell_of_row w3 w2.heap.size 3 _ 37 (0, 0) hn
  have n4 := cell_of_row w3 w2.heap.size 4 _ 37 (0, 0) hn
  have n5 := cell_of_row w3 w2.heap.size 5 _ 37 (0, 0) hn
  simp only [List.getElem?_toArray, List.getElem?_cons_zero, List.getElem?_cons_succ] at n0 n1 n2 n3 n4 n5
  have HA := zz (Ex h1 kd ln cl dn nm X k 0 0 0 m Y 0 (by rw [hdn.out]; rfl) (by omega))
  replace h1 := zz h1
  replace h2 := zz h2
  clear hn
  go_wp2_with fail
  refine HA.out.mono ?_
  rintro e w4 ⟨rfl, ⟨v4, h4⟩, h5⟩
  replace h4 := zz h4
  replace h5 := zz h5
  go_wp2_with fail
  go_ret
  refine ⟨rfl, ⟨at_ + 1, v4, HE.out, by have := h4.out; rw [← hY.out] at this; simpa [Fo.post, Fo.cnt, Inf.nd] using this⟩, (Fr.only ((Onl.below (Ab hb2.out (Aa _ _))).trans h2.out) (by omega)).trans h5.out⟩
end
end Go.Proofs.YtoaplbljflhheaaGreat
