/-
 Contracts of parse.reader's levels of operators, of lists of things, and of types. Conditions: as said. Contracts of parse.typeNode, wordNode and constantNode, of parse.reader's plainType and constant. Conditions: as said.
-/
import Derived.Test.YtbknflaooemigaaGreatRd2
namespace Go.Proofs.YtbknflaooemigaaGreat
section
open Go.RowKit Go.Sort
set_option linter.unusedVariables false
set_option linter.unusedSimpArgs false

theorem okOf {f : FuncId} {args : Array Value} {w : World} {b tb to tc : Nat} {T : List Tok} {d : Nat} {D : List Nd} {o : Out} (H : Calls Tryz.prog f args w (Post b tb to tc T d D w o)) {F : Fo} {r : List Tok} (ho : o = .ok F r) :
  Calls Tryz.prog f args w fun e w' => e = .returned (.bool true) ∧ (∃ at' v', T.drop at' = r ∧ Rd w' b tb to tc T at' d v' (D ++ F.post)) ∧ Fr b w w' := by
 subst ho; exact H
theorem badOf {f : FuncId} {args : Array Value} {w : World} {b tb to tc : Nat} {T : List Tok} {d : Nat} {D : List Nd} {o : Out} (H : Calls Tryz.prog f args w (Post b tb to tc T d D w o)) {c : Int} {l k : Nat} (ho : o = .bad c l k) :
  Calls Tryz.prog f args w fun e w' => e = .returned (.bool false) ∧ Rf w' b c l k ∧ Fr b w w' := by
 subst ho; exact H
theorem rd_node {w : World} {b tb to tc : Nat} {T : List Tok} {at_ : Nat} {d : Int} {v : Value} {D D' : List Nd} {t : Nd} {i : Inf} {F : Fo} (h : Rd w b tb to tc T at_ d v (D' ++ [t])) (h1 : D' = D ++ F.post) (h2 : t = i.nd F.cnt) : Rd w b tb to tc T at_ d v (D ++ (Fo.cons i F .nil).post) := by
 subst h1 h2
 simpa [Fo.post] using h
theorem fn_of {f : FuncId} {n : Nat} {p : Pt} (h : Does f n p) (eg : ∀ args w, (callFunc f args).run Tryz.prog w = .ok (.enter f args) w) : Fn (.func (.func f) #[] #[]) n p := ⟨f, rfl, eg, h⟩

theorem or_does {n : Nat} {p : Pt} (hp : Does 25 n p) (hg : Gd 0 p) (N : Nat) (hN : n ≤ N) : Does 13 n (chainP p [[124, 124]] N) := by
 intro w b tb to tc T at_ d v D ts h
 have hbl := h.rd.lt
 have H : Hid (Calls Tryz.prog 24 #[pR b, .func (.func 25) #[] #[], .slice (some ⟨w.heap.size, 0, none⟩) 1 1] (w.alloc (.cells #[Value.string { data := #[124, 124] }] 9)) (Post b tb to tc T d D (w.alloc (.cells #[Value.string { data := #[124, 124] }] 9)) ((chainP p [[124, 124]] N) d ts))) :=
  Lib.hid (chain_r (h.carry (below_alloc w _)) (fn_of hp (by intro args w; simp [go_sem])) hg (S := [[124, 124]]) (show SRow _ _ _ from heap_alloc_new w _) (by omega) 1 1 rfl (by decide) N hN)
 have HF : Hid (Fr b w (w.alloc (.cells #[Value.string { data := #[124, 124] }] 9))) := Lib.hid (Fr.only (Onl.below (below_alloc _ _)) (by omega))
 clear h
 go_enter Tryz.func13, Tryz.ntmps13
 go_wp2_with fail
 refine H.out.mono ?_
 rintro e w1 ⟨rfl, hw⟩
 replace hw := Lib.hid hw
 go_wp2_with fail
 go_ret
 exact ⟨rfl, hw.out.back HF.out⟩

theorem and_does {n : Nat} {p : Pt} (hp : Does 50 n p) (hg : Gd 0 p) (N : Nat) (hN : n ≤ N) : Does 25 n (chainP p [[38, 38]] N) := by
 intro w b tb to tc T at_ d v D ts h
 have hbl := h.rd.lt
 have H : Hid (Calls Tryz.prog 24 #[pR b, .func (.func 50) #[] #[], .slice (some ⟨w.heap.size, 0, none⟩) 1 1] (w.alloc (.cells #[Value.string { data := #[38, 38] }] 9)) (Post b tb to tc T d D (w.alloc (.cells #[Value.string { data := #[38, 38] }] 9)) ((chainP p [[38, 38]] N) d ts))) :=
  Lib.hid (chain_r (h.carry (below_alloc w _)) (fn_of hp (by intro args w; simp [go_sem])) hg (S := [[38, 38]]) (show SRow _ _ _ from heap_alloc_new w _) (by omega) 1 1 rfl (by decide) N hN)
 have HF : Hid (Fr b w (w.alloc (.cells #[Value.string { data := #[38, 38] }] 9))) := Lib.hid (Fr.only (Onl.below (below_alloc _ _)) (by omega))
 clear h
 go_enter Tryz.func25, Tryz.ntmps25
 go_wp2_with fail
 refine H.out.mono ?_
 rintro e w1 ⟨rfl, hw⟩
 replace hw := Lib.hid hw
 go_wp2_with fail
 go_ret
 exact ⟨rfl, hw.out.back HF.out⟩

theorem equal_does {n : Nat} {p : Pt} (hp : Does 69 n p) (hg : Gd 0 p) : Does 50 n (pairP p [[61, 61], [33, 61]]) := by
 intro w b tb to tc T at_ d v D ts h
 have hbl := h.rd.lt
 have H : Hid (Calls Tryz.prog 68 #[pR b, .func (.func 69) #[] #[], .slice (some ⟨w.heap.size, 0, none⟩) 2 2] (w.alloc (.cells #[Value.string { data := #[61, 61] }, Value.string { data := #[33, 61] }] 9)) (Post b tb to tc T d D (w.alloc (.cells #[Value.string { data := #[61, 61] }, Value.string { data := #[33, 61] }] 9)) ((pairP p [[61, 61], [33, 61]]) d ts))) :=
  Lib.hid (pair_r (h.carry (below_alloc w _)) (fn_of hp (by intro args w; simp [go_sem])) hg (S := [[61, 61], [33, 61]]) (show SRow _ _ _ from heap_alloc_new w _) (by omega) 2 2 rfl (by decide))
 have HF : Hid (Fr b w (w.alloc (.cells #[Value.string { data := #[61, 61] }, Value.string { data := #[33, 61] }] 9))) := Lib.hid (Fr.only (Onl.below (below_alloc _ _)) (by omega))
 clear h
 go_enter Tryz.func50, Tryz.ntmps50
 go_wp2_with fail
 refine H.out.mono ?_
 rintro e w1 ⟨rfl, hw⟩
 replace hw := Lib.hid hw
 go_wp2_with fail
 go_ret
 exact ⟨rfl, hw.out.back HF.out⟩

theorem less_does {n : Nat} {p : Pt} (hp : Does 91 n p) (hg : Gd 0 p) : Does 69 n (pairP p [[60], [60, 61], [62], [62, 61]]) := by
 intro w b tb to tc T at_ d v D ts h
 have hbl := h.rd.lt
 have H : Hid (Calls Tryz.prog 68 #[pR b, .func (.func 91) #[] #[], .slice (some ⟨w.heap.size, 0, none⟩) 4 4] (w.alloc (.cells #[Value.string { data := #[60] }, Value.string { data := #[60, 61] }, Value.string { data := #[62] }, Value.string { data := #[62, 61] }] 9)) (Post b tb to tc T d D (w.alloc (.cells #[Value.string { data := #[60] }, Value.string { data := #[60, 61] }, Value.string { data := #[62] }, Value.string { data := #[62, 61] }] 9)) ((pairP p [[60], [60, 61], [62], [62, 61]]) d ts))) :=
  Lib.hid (pair_r (h.carry (below_alloc w _)) (fn_of hp (by intro args w; simp [go_sem])) hg (S := [[60], [60, 61], [62], [62, 61]]) (show SRow _ _ _ from heap_alloc_new w _) (by omega) 4 4 rfl (by decide))
 have HF : Hid (Fr b w (w.alloc (.cells #[Value.string { data := #[60] }, Value.string { data := #[60, 61] }, Value.string { data := #[62] }, Value.string { data := #[62, 61] }] 9))) := Lib.hid (Fr.only (Onl.below (below_alloc _ _)) (by omega))
 clear h
 go_enter Tryz.func69, Tryz.ntmps69
 go_wp2_with fail
 refine H.out.mono ?_
 rintro e w1 ⟨rfl, hw⟩
 replace hw := Lib.hid hw
 go_wp2_with fail
 go_ret
 exact ⟨rfl, hw.out.back HF.out⟩

theorem sum_does {n : Nat} {p : Pt} (hp : Does 108 n p) (hg : Gd 0 p) (N : Nat) (hN : n ≤ N) : Does 91 n (chainP p [[43], [45]] N) := by
 intro w b tb to tc T at_ d v D ts h
 have hbl := h.rd.lt
 have H : Hid (Calls Tryz.prog 24 #[pR b, .func (.func 108) #[] #[], .slice (some ⟨w.heap.size, 0, none⟩) 2 2] (w.alloc (.cells #[Value.string { data := #[43] }, Value.string { data := #[45] }] 9)) (Post b tb to tc T d D (w.alloc (.cells #[Value.string { data := #[43] }, Value.string { data := #[45] }] 9)) ((chainP p [[43], [45]] N) d ts))) :=
  Lib.hid (chain_r (h.carry (below_alloc w _)) (fn_of hp (by intro args w; simp [go_sem])) hg (S := [[43], [45]]) (show SRow _ _ _ from heap_alloc_new w _) (by omega) 2 2 rfl (by decide) N hN)
 have HF : Hid (Fr b w (w.alloc (.cells #[Value.string { data := #[43] }, Value.string { data := #[45] }] 9))) := Lib.hid (Fr.only (Onl.below (below_alloc _ _)) (by omega))
 clear h
 go_enter Tryz.func91, Tryz.ntmps91
 go_wp2_with fail
 refine H.out.mono ?_
 rintro e w1 ⟨rfl, hw⟩
 replace hw := Lib.hid hw
 go_wp2_with fail
 go_ret
 exact ⟨rfl, hw.out.back HF.out⟩

theorem term_does {n : Nat} {p : Pt} (hp : Does 117 n p) (hg : Gd 0 p) (N : Nat) (hN : n ≤ N) : Does 108 n (chainP p [[42], [47], [37]] N) := by
 intro w b tb to tc T at_ d v D ts h
 have hbl := h.rd.lt
 have H : Hid (Calls Tryz.prog 24 #[pR b, .func (.func 117) #[] #[], .slice (some ⟨w.heap.size, 0, none⟩) 3 3] (w.alloc (.cells #[Value.string { data := #[42] }, Value.string { data := #[47] }, Value.string { data := #[37] }] 9)) (Post b tb to tc T d D (w.alloc (.cells #[Value.string { data := #[42] }, Value.string { data := #[47] }, Value.string { data := #[37] }] 9)) ((chainP p [[42], [47], [37]] N) d ts))) :=
  Lib.hid (chain_r (h.carry (below_alloc w _)) (fn_of hp (by intro args w; simp [go_sem])) hg (S := [[42], [47], [37]]) (show SRow _ _ _ from heap_alloc_new w _) (by omega) 3 3 rfl (by decide) N hN)
 have HF : Hid (Fr b w (w.alloc (.cells #[Value.string { data := #[42] }, Value.string { data := #[47] }, Value.string { data := #[37] }] 9))) := Lib.hid (Fr.only (Onl.below (below_alloc _ _)) (by omega))
 clear h
 go_enter Tryz.func108, Tryz.ntmps108
 go_wp2_with fail
 refine H.out.mono ?_
 rintro e w1 ⟨rfl, hw⟩
 replace hw := Lib.hid hw
 go_wp2_with fail
 go_ret
 exact ⟨rfl, hw.out.back HF.out⟩

theorem fields_does {n : Nat} {p : Pt} (hp : Does 97 n p) (hg : Gd 0 p) (h1 : ∀ d ts F r, p d ts = .ok F r → 1 ≤ F.cnt) (N : Nat) (hN : n ≤ N) : Does 76 n (untilP [125] p N) := by
 intro w b tb to tc T at_ d v D ts h
 have H := Lib.hid (until_r h { data := #[125] } [125] (by rw [ByteArray.toList_eq]) (fn_of hp (by intro args w; simp [go_sem])) hg h1 N hN)
 clear h
 go_enter Tryz.func76, Tryz.ntmps76
 go_wp2_with fail
 refine H.out.mono ?_
 rintro e w1 ⟨rfl, hw⟩
 replace hw := Lib.hid hw
 go_wp2_with fail
 go_ret
 exact ⟨rfl, hw.out⟩

theorem statements_does {n : Nat} {p : Pt} (hp : Does 113 n p) (hg : Gd 0 p) (h1 : ∀ d ts F r, p d ts = .ok F r → 1 ≤ F.cnt) (N : Nat) (hN : n ≤ N) : Does 101 n (untilP [125] p N) := by
 intro w b tb to tc T at_ d v D ts h
 have H := Lib.hid (until_r h { data := #[125] } [125] (by rw [ByteArray.toList_eq]) (fn_of hp (by intro args w; simp [go_sem])) hg h1 N hN)
 clear h
 go_enter Tryz.func101, Tryz.ntmps101
 go_wp2_with fail
 refine H.out.mono ?_
 rintro e w1 ⟨rfl, hw⟩
 replace hw := Lib.hid hw
 go_wp2_with fail
 go_ret
 exact ⟨rfl, hw.out⟩

theorem parameters_does {n : Nat} {p : Pt} (hp : Does 99 n p) (hg : Gd 0 p) (N : Nat) (hN : n ≤ N) : Does 78 n (listedP p N) := by
 intro w b tb to tc T at_ d v D ts h
 have H := Lib.hid (listed_r h (fn_of hp (by intro args w; simp [go_sem])) hg N hN)
 clear h
 go_enter Tryz.func78, Tryz.ntmps78
 go_wp2_with fail
 refine H.out.mono ?_
 rintro e w1 ⟨rfl, hw⟩
 replace hw := Lib.hid hw
 go_wp2_with fail
 go_ret
 exact ⟨rfl, hw.out⟩

theorem arguments_does {n : Nat} {p : Pt} (hp : Does 13 n p) (hg : Gd 0 p) (N : Nat) (hN : n ≤ N) : Does 133 n (listedP p N) := by
 intro w b tb to tc T at_ d v D ts h
 have H := Lib.hid (listed_r h (fn_of hp (by intro args w; simp [go_sem])) hg N hN)
 clear h
 go_enter Tryz.func133, Tryz.ntmps133
 go_wp2_with fail
 refine H.out.mono ?_
 rintro e w1 ⟨rfl, hw⟩
 replace hw := Lib.hid hw
 go_wp2_with fail
 go_ret
 exact ⟨rfl, hw.out⟩

set_option maxHeartbeats 1000000 in
theorem listType_r {w : World} {b tb to tc : Nat} {T : List Tok} {at_ d : Nat} {v : Value} {D : List Nd} {n : Nat} {ts : List Tok} (h : Sit w b tb to tc T at_ d v D n ts) {p : Pt} (hp : Does 100 (n - 1) p) (hg : Gd 0 p) : Calls Tryz.prog 111 #[pR b] w (Post b tb to tc T d D w (listTypeP p d ts)) := by
 have hbl := h.rd.lt
 obtain ⟨⟨kd, ln, cl, nm, tx⟩, ht⟩ : ∃ t, hd ts = t := ⟨_, rfl⟩
 obtain ⟨a, cap, hv⟩ := own_slice h.rd.own
 obtain ⟨X, hX⟩ : ∃ X, bs tx = X := ⟨_, rfl⟩
 obtain ⟨dn, hdn⟩ : ∃ dn, D.length = dn := ⟨_, rfl⟩
 have HH : Hid (Calls Tryz.prog 73 #[pR b] w fun e w' => e = .returned (sV kd ln cl nm X dn) ∧ Below w.heap.size w w') := Lib.hid (by have := here_any h ht dn hdn a cap (by rw [hv, hdn]); rw [hX] at this; exact this)
 cases e1 : (withinP [91] [93] p) d ts with
 | bad c l k =>
  rw [show (listTypeP p) d ts = .bad c l k by simp only [listTypeP, nodeP, Out.bind, e1]]
  replace e1 := Lib.hid e1
  have hs := Lib.hid h
  replace ht := Lib.hid ht
  replace hX := Lib.hid hX
  replace hdn := Lib.hid hdn
  replace hv := Lib.hid hv
  clear h
  go_enter Tryz.func111, Tryz.ntmps111
  go_wp2_with fail
  refine HH.out.mono ?_
  rintro e w1 ⟨rfl, hb⟩
  have hbl1 := (hs.out.rd.carry hb).lt
  replace hb := Lib.hid hb
  go_wp2_with fail
  obtain ⟨W, hW⟩ : ∃ W, W = w1.alloc (.cells #[.int .u8 kd, .int .i64 ln, .int .i64 cl, .int .i64 nm, .string X, .int .i64 dn] 70) := ⟨_, rfl⟩
  rw [← hW]
  have HS0 : Hid (Sit W b tb to tc T at_ d v D n ts) := Lib.hid (by rw [hW]; exact (hs.out.carry hb.out).carry (below_alloc _ _))
  have HF0 : Hid (Fr b w W) := Lib.hid (by rw [hW]; exact (Fr.only (Onl.below hb.out) (by omega)).trans (Fr.only (Onl.below (below_alloc _ _)) (by omega)))
  have HM0 : Hid (SAt W w1.heap.size kd ln cl nm X dn) := Lib.hid (by rw [hW]; exact SAt.made w1 kd ln cl nm X dn)
  clear hW
  have HC1 := Lib.hid (badOf (within_r (HS0.out) { data := #[91] } { data := #[93] } [91] [93] (by rw [ByteArray.toList_eq]) (by rw [ByteArray.toList_eq]) (fn_of hp (by intro args w; simp [go_sem])) hg) e1.out)
  refine HC1.out.mono ?_
  rintro e w2 ⟨rfl, rf, fr⟩
  replace rf := Lib.hid rf
  replace fr := Lib.hid fr
  go_wp2_with fail
  go_ret
  exact ⟨rfl, rf.out, HF0.out.trans fr.out⟩
 | ok F1 r1 =>
  rw [show (listTypeP p) d ts = .ok (.cons (mkK 20 ts) (F1) .nil) r1 by simp only [listTypeP, nodeP, Out.bind, e1]]
  replace e1 := Lib.hid e1
  have hs := Lib.hid h
  replace ht := Lib.hid ht
  replace hX := Lib.hid hX
  replace hdn := Lib.hid hdn
  replace hv := Lib.hid hv
  clear h
  go_enter Tryz.func111, Tryz.ntmps111
  go_wp2_with fail
  refine HH.out.mono ?_
  rintro e w1 ⟨rfl, hb⟩
  have hbl1 := (hs.out.rd.carry hb).lt
  replace hb := Lib.hid hb
  go_wp2_with fail
  obtain ⟨W, hW⟩ : ∃ W, W = w1.alloc (.cells #[.int .u8 kd, .int .i64 ln, .int .i64 cl, .int .i64 nm, .string X, .int .i64 dn] 70) := ⟨_, rfl⟩
  rw [← hW]
  have HS0 : Hid (Sit W b tb to tc T at_ d v D n ts) := Lib.hid (by rw [hW]; exact (hs.out.carry hb.out).carry (below_alloc _ _))
  have HF0 : Hid (Fr b w W) := Lib.hid (by rw [hW]; exact (Fr.only (Onl.below hb.out) (by omega)).trans (Fr.only (Onl.below (below_alloc _ _)) (by omega)))
  have HM0 : Hid (SAt W w1.heap.size kd ln cl nm X dn) := Lib.hid (by rw [hW]; exact SAt.made w1 kd ln cl nm X dn)
  clear hW
  have HC1 := Lib.hid (okOf (within_r (HS0.out) { data := #[91] } { data := #[93] } [91] [93] (by rw [ByteArray.toList_eq]) (by rw [ByteArray.toList_eq]) (fn_of hp (by intro args w; simp [go_sem])) hg) e1.out)
  refine HC1.out.mono ?_
  rintro e w2 ⟨rfl, ⟨at1, v1, dr, rd⟩, fr⟩
  have HS1 := Lib.hid (HS0.out.then (s := 2) (gd_within (o := [91]) (c := [93]) hg d ts F1 r1 e1.out) dr rd)
  have HF1 := Lib.hid (HF0.out.trans fr)
  have HM1 := Lib.hid (HM0.out.fr fr (by omega))
  clear dr rd fr
  obtain ⟨m0, m1, m2, m3, m4, m5⟩ := HM1.out.at
  go_wp2_with fail
  have HA := Lib.hid (add_any HS1.out.rd kd ln cl dn nm X 20 0 0 0 0 { data := #[] } (F1).cnt (by have := hdn.out; simp [post_len, cnt_app, Fo.cnt]; omega) (by have := HS1.out.rm; omega))
  refine HA.out.mono ?_
  rintro e wa ⟨rfl, ⟨va, rda⟩, fra⟩
  replace rda := Lib.hid rda
  replace fra := Lib.hid fra
  go_wp2_with fail
  go_ret
  exact ⟨rfl, ⟨at1, va, HS1.out.dr, rd_node rda.out (by simp [post_app, Fo.post, List.append_assoc]) (by simp [mkK, mkX, mkY, mkN, Inf.nd, ht.out]; try rfl)⟩, HF1.out.trans fra.out⟩

set_option maxHeartbeats 1000000 in
theorem block_r {w : World} {b tb to tc : Nat} {T : List Tok} {at_ d : Nat} {v : Value} {D : List Nd} {n : Nat} {ts : List Tok} (h : Sit w b tb to tc T at_ d v D n ts) {S : Pt} {N : Nat} (hp : Does 101 (n - 1) (untilP [125] S N)) (hg : Gd 0 S) : Calls Tryz.prog 81 #[pR b] w (Post b tb to tc T d D w (blockOf S N d ts)) := by
 have hbl := h.rd.lt
 obtain ⟨⟨kd, ln, cl, nm, tx⟩, ht⟩ : ∃ t, hd ts = t := ⟨_, rfl⟩
 obtain ⟨a, cap, hv⟩ := own_slice h.rd.own
 obtain ⟨X, hX⟩ : ∃ X, bs tx = X := ⟨_, rfl⟩
 obtain ⟨dn, hdn⟩ : ∃ dn, D.length = dn := ⟨_, rfl⟩
 have HH : Hid (Calls Tryz.prog 73 #[pR b] w fun e w' => e = .returned (sV kd ln cl nm X dn) ∧ Below w.heap.size w w') := Lib.hid (by have := here_any h ht dn hdn a cap (by rw [hv, hdn]); rw [hX] at this; exact this)
 cases e1 : (withinP [123] [125] (untilP [125] S N)) d ts with
 | bad c l k =>
  rw [show (blockOf S N) d ts = .bad c l k by simp only [blockOf, nodeP, Out.bind, e1]]
  replace e1 := Lib.hid e1
  have hs := Lib.hid h
  replace ht := Lib.hid ht
  replace hX := Lib.hid hX
  replace hdn := Lib.hid hdn
  replace hv := Lib.hid hv
  clear h
  go_enter Tryz.func81, Tryz.ntmps81
  go_wp2_with fail
  refine HH.out.mono ?_
  rintro e w1 ⟨rfl, hb⟩
  have hbl1 := (hs.out.rd.carry hb).lt
  replace hb := Lib.hid hb
  go_wp2_with fail
  obtain ⟨W, hW⟩ : ∃ W, W = w1.alloc (.cells #[.int .u8 kd, .int .i64 ln, .int .i64 cl, .int .i64 nm, .string X, .int .i64 dn] 70) := ⟨_, rfl⟩
  rw [← hW]
  have HS0 : Hid (Sit W b tb to tc T at_ d v D n ts) := Lib.hid (by rw [hW]; exact (hs.out.carry hb.out).carry (below_alloc _ _))
  have HF0 : Hid (Fr b w W) := Lib.hid (by rw [hW]; exact (Fr.only (Onl.below hb.out) (by omega)).trans (Fr.only (Onl.below (below_alloc _ _)) (by omega)))
  have HM0 : Hid (SAt W w1.heap.size kd ln cl nm X dn) := Lib.hid (by rw [hW]; exact SAt.made w1 kd ln cl nm X dn)
  clear hW
  have HC1 := Lib.hid (badOf (within_r (HS0.out) { data := #[123] } { data := #[125] } [123] [125] (by rw [ByteArray.toList_eq]) (by rw [ByteArray.toList_eq]) (fn_of hp (by intro args w; simp [go_sem])) (gd_until hg N)) e1.out)
  refine HC1.out.mono ?_
  rintro e w2 ⟨rfl, rf, fr⟩
  replace rf := Lib.hid rf
  replace fr := Lib.hid fr
  go_wp2_with fail
  go_ret
  exact ⟨rfl, rf.out, HF0.out.trans fr.out⟩
 | ok F1 r1 =>
  rw [show (blockOf S N) d ts = .ok (.cons (mkK 6 ts) (F1) .nil) r1 by simp only [blockOf, nodeP, Out.bind, e1]]
  replace e1 := Lib.hid e1
  have hs := Lib.hid h
  replace ht := Lib.hid ht
  replace hX := Lib.hid hX
  replace hdn := Lib.hid hdn
  replace hv := Lib.hid hv
  clear h
  go_enter Tryz.func81, Tryz.ntmps81
  go_wp2_with fail
  refine HH.out.mono ?_
  rintro e w1 ⟨rfl, hb⟩
  have hbl1 := (hs.out.rd.carry hb).lt
  replace hb := Lib.hid hb
  go_wp2_with fail
  obtain ⟨W, hW⟩ : ∃ W, W = w1.alloc (.cells #[.int .u8 kd, .int .i64 ln, .int .i64 cl, .int .i64 nm, .string X, .int .i64 dn] 70) := ⟨_, rfl⟩
  rw [← hW]
  have HS0 : Hid (Sit W b tb to tc T at_ d v D n ts) := Lib.hid (by rw [hW]; exact (hs.out.carry hb.out).carry (below_alloc _ _))
  have HF0 : Hid (Fr b w W) := Lib.hid (by rw [hW]; exact (Fr.only (Onl.below hb.out) (by omega)).trans (Fr.only (Onl.below (below_alloc _ _)) (by omega)))
  have HM0 : Hid (SAt W w1.heap.size kd ln cl nm X dn) := Lib.hid (by rw [hW]; exact SAt.made w1 kd ln cl nm X dn)
  clear hW
  have HC1 := Lib.hid (okOf (within_r (HS0.out) { data := #[123] } { data := #[125] } [123] [125] (by rw [ByteArray.toList_eq]) (by rw [ByteArray.toList_eq]) (fn_of hp (by intro args w; simp [go_sem])) (gd_until hg N)) e1.out)
  refine HC1.out.mono ?_
  rintro e w2 ⟨rfl, ⟨at1, v1, dr, rd⟩, fr⟩
  have HS1 := Lib.hid (HS0.out.then (s := 2) (gd_within (o := [123]) (c := [125]) (gd_until hg N) d ts F1 r1 e1.out) dr rd)
  have HF1 := Lib.hid (HF0.out.trans fr)
  have HM1 := Lib.hid (HM0.out.fr fr (by omega))
  clear dr rd fr
  obtain ⟨m0, m1, m2, m3, m4, m5⟩ := HM1.out.at
  go_wp2_with fail
  have HA := Lib.hid (add_any HS1.out.rd kd ln cl dn nm X 6 0 0 0 0 { data := #[] } (F1).cnt (by have := hdn.out; simp [post_len, cnt_app, Fo.cnt]; omega) (by have := HS1.out.rm; omega))
  refine HA.out.mono ?_
  rintro e wa ⟨rfl, ⟨va, rda⟩, fra⟩
  replace rda := Lib.hid rda
  replace fra := Lib.hid fra
  go_wp2_with fail
  go_ret
  exact ⟨rfl, ⟨at1, va, HS1.out.dr, rd_node rda.out (by simp [post_app, Fo.post, List.append_assoc]) (by simp [mkK, mkX, mkY, mkN, Inf.nd, ht.out]; try rfl)⟩, HF1.out.trans fra.out⟩

set_option maxHeartbeats 1000000 in
theorem typed_r {w : World} {b tb to tc : Nat} {T : List Tok} {at_ d : Nat} {v : Value} {D : List Nd} {n : Nat} {ts : List Tok} (h : Sit w b tb to tc T at_ d v D n ts) (kk : Nat) {m : Nat} (hp : Does 100 n (typeP m)) : Calls Tryz.prog 109 #[pR b, .int .u8 kk] w (Post b tb to tc T d D w (typedP kk m d ts)) := by
 have hbl := h.rd.lt
 obtain ⟨⟨kd, ln, cl, nm, tx⟩, ht⟩ : ∃ t, hd ts = t := ⟨_, rfl⟩
 obtain ⟨a, cap, hv⟩ := own_slice h.rd.own
 obtain ⟨X, hX⟩ : ∃ X, bs tx = X := ⟨_, rfl⟩
 obtain ⟨dn, hdn⟩ : ∃ dn, D.length = dn := ⟨_, rfl⟩
 have HH : Hid (Calls Tryz.prog 73 #[pR b] w fun e w' => e = .returned (sV kd ln cl nm X dn) ∧ Below w.heap.size w w') := Lib.hid (by have := here_any h ht dn hdn a cap (by rw [hv, hdn]); rw [hX] at this; exact this)
 cases e1 : (kindP 1) d ts with
 | bad c l k =>
  rw [show (typedP kk m) d ts = .bad c l k by simp only [typedP, nodeP, seqAll, seqP, nothingP, Out.bind, e1]]
  replace e1 := Lib.hid e1
  have hs := Lib.hid h
  replace ht := Lib.hid ht
  replace hX := Lib.hid hX
  replace hdn := Lib.hid hdn
  replace hv := Lib.hid hv
  clear h
  go_enter Tryz.func109, Tryz.ntmps109
  go_wp2_with fail
  refine HH.out.mono ?_
  rintro e w1 ⟨rfl, hb⟩
  have hbl1 := (hs.out.rd.carry hb).lt
  replace hb := Lib.hid hb
  go_wp2_with fail
  obtain ⟨W, hW⟩ : ∃ W, W = w1.alloc (.cells #[.int .u8 kd, .int .i64 ln, .int .i64 cl, .int .i64 nm, .string X, .int .i64 dn] 70) := ⟨_, rfl⟩
  rw [← hW]
  have HS0 : Hid (Sit W b tb to tc T at_ d v D n ts) := Lib.hid (by rw [hW]; exact (hs.out.carry hb.out).carry (below_alloc _ _))
  have HF0 : Hid (Fr b w W) := Lib.hid (by rw [hW]; exact (Fr.only (Onl.below hb.out) (by omega)).trans (Fr.only (Onl.below (below_alloc _ _)) (by omega)))
  have HM0 : Hid (SAt W w1.heap.size kd ln cl nm X dn) := Lib.hid (by rw [hW]; exact SAt.made w1 kd ln cl nm X dn)
  clear hW
  have HC1 := Lib.hid (badOf (kind_any HS0.out 1 (by decide)) e1.out)
  refine HC1.out.mono ?_
  rintro e w2 ⟨rfl, rf, fr⟩
  replace rf := Lib.hid rf
  replace fr := Lib.hid fr
  go_wp2_with fail
  go_ret
  exact ⟨rfl, rf.out, HF0.out.trans fr.out⟩
 | ok F1 r1 =>
  cases e2 : (take [58]) d r1 with
  | bad c l k =>
   rw [show (typedP kk m) d ts = .bad c l k by simp only [typedP, nodeP, seqAll, seqP, nothingP, Out.bind, e1, e2]]
   replace e1 := Lib.hid e1
   replace e2 := Lib.hid e2
   have hs := Lib.hid h
   replace ht := Lib.hid ht
   replace hX := Lib.hid hX
   replace hdn := Lib.hid hdn
   replace hv := Lib.hid hv
   clear h
   go_enter Tryz.func109, Tryz.ntmps109
   go_wp2_with fail
   refine HH.out.mono ?_
   rintro e w1 ⟨rfl, hb⟩
   have hbl1 := (hs.out.rd.carry hb).lt
   replace hb := Lib.hid hb
   go_wp2_with fail
   obtain ⟨W, hW⟩ : ∃ W, W = w1.alloc (.cells #[.int .u8 kd, .int .i64 ln, .int .i64 cl, .int .i64 nm, .string X, .int .i64 dn] 70) := ⟨_, rfl⟩
   rw [← hW]
   have HS0 : Hid (Sit W b tb to tc T at_ d v D n ts) := Lib.hid (by rw [hW]; exact (hs.out.carry hb.out).carry (below_alloc _ _))
   have HF0 : Hid (Fr b w W) := Lib.hid (by rw [hW]; exact (Fr.only (Onl.below hb.out) (by omega)).trans (Fr.only (Onl.below (below_alloc _ _)) (by omega)))
   have HM0 : Hid (SAt W w1.heap.size kd ln cl nm X dn) := Lib.hid (by rw [hW]; exact SAt.made w1 kd ln cl nm X dn)
   clear hW
   have HC1 := Lib.hid (okOf (kind_any HS0.out 1 (by decide)) e1.out)
   refine HC1.out.mono ?_
   rintro e w2 ⟨rfl, ⟨at1, v1, dr, rd⟩, fr⟩
   have HS1 := Lib.hid (HS0.out.then (s := 1) (gd_kind 1 (by decide) (by decide) d ts F1 r1 e1.out) dr rd)
   have HF1 := Lib.hid (HF0.out.trans fr)
   have HM1 := Lib.hid (HM0.out.fr fr (by omega))
   clear dr rd fr
   go_wp2_with fail
   have HC2 := Lib.hid (badOf (take_any HS1.out { data := #[58] } [58] (by rw [ByteArray.toList_eq])) e2.out)
   refine HC2.out.mono ?_
   rintro e w3 ⟨rfl, rf, fr⟩
   replace rf := Lib.hid rf
   replace fr := Lib.hid fr
   go_wp2_with fail
   go_ret
   exact ⟨rfl, rf.out, HF1.out.trans fr.out⟩
  | ok F2 r2 =>
   cases e3 : (typeP m) d r2 with
   | bad c l k =>
    rw [show (typedP kk m) d ts = .bad c l k by simp only [typedP, nodeP, seqAll, seqP, nothingP, Out.bind, e1, e2, e3]]
    replace e1 := Lib.hid e1
    replace e2 := Lib.hid e2
    replace e3 := Lib.hid e3
    have hs := Lib.hid h
    replace ht := Lib.hid ht
    replace hX := Lib.hid hX
    replace hdn := Lib.hid hdn
    replace hv := Lib.hid hv
    clear h
    go_enter Tryz.func109, Tryz.ntmps109
    go_wp2_with fail
    refine HH.out.mono ?_
    rintro e w1 ⟨rfl, hb⟩
    have hbl1 := (hs.out.rd.carry hb).lt
    replace hb := Lib.hid hb
    go_wp2_with fail
    obtain ⟨W, hW⟩ : ∃ W, W = w1.alloc (.cells #[.int .u8 kd, .int .i64 ln, .int .i64 cl, .int .i64 nm, .string X, .int .i64 dn] 70) := ⟨_, rfl⟩
    rw [← hW]
    have HS0 : Hid (Sit W b tb to tc T at_ d v D n ts) := Lib.hid (by rw [hW]; exact (hs.out.carry hb.out).carry (below_alloc _ _))
    have HF0 : Hid (Fr b w W) := Lib.hid (by rw [hW]; exact (Fr.only (Onl.below hb.out) (by omega)).trans (Fr.only (Onl.below (below_alloc _ _)) (by omega)))
    have HM0 : Hid (SAt W w1.heap.size kd ln cl nm X dn) := Lib.hid (by rw [hW]; exact SAt.made w1 kd ln cl nm X dn)
    clear hW
    have HC1 := Lib.hid (okOf (kind_any HS0.out 1 (by decide)) e1.out)
    refine HC1.out.mono ?_
    rintro e w2 ⟨rfl, ⟨at1, v1, dr, rd⟩, fr⟩
    have HS1 := Lib.hid (HS0.out.then (s := 1) (gd_kind 1 (by decide) (by decide) d ts F1 r1 e1.out) dr rd)
    have HF1 := Lib.hid (HF0.out.trans fr)
    have HM1 := Lib.hid (HM0.out.fr fr (by omega))
    clear dr rd fr
    go_wp2_with fail
    have HC2 := Lib.hid (okOf (take_any HS1.out { data := #[58] } [58] (by rw [ByteArray.toList_eq])) e2.out)
    refine HC2.out.mono ?_
    rintro e w3 ⟨rfl, ⟨at2, v2, dr, rd⟩, fr⟩
    have HS2 := Lib.hid (HS1.out.then (s := 1) (gd_take [58] d r1 F2 r2 e2.out) dr rd)
    have HF2 := Lib.hid (HF1.out.trans fr)
    have HM2 := Lib.hid (HM1.out.fr fr (by omega))
    clear dr rd fr
    go_wp2_with fail
    have HC3 := Lib.hid (badOf (hp (HS2.out.up (by omega))) e3.out)
    refine HC3.out.mono ?_
    rintro e w4 ⟨rfl, rf, fr⟩
    replace rf := Lib.hid rf
    replace fr := Lib.hid fr
    go_wp2_with fail
    go_ret
    exact ⟨rfl, rf.out, HF2.out.trans fr.out⟩
   | ok F3 r3 =>
    rw [show (typedP kk m) d ts = .ok (.cons (mkX kk ts) (F1.app (F2.app (F3.app .nil))) .nil) r3 by simp only [typedP, nodeP, seqAll, seqP, nothingP, Out.bind, e1, e2, e3]]
    replace e1 := Lib.hid e1
    replace e2 := Lib.hid e2
    replace e3 := Lib.hid e3
    have hs := Lib.hid h
    replace ht := Lib.hid ht
    replace hX := Lib.hid hX
    replace hdn := Lib.hid hdn
    replace hv := Lib.hid hv
    clear h
    go_enter Tryz.func109, Tryz.ntmps109
    go_wp2_with fail
    refine HH.out.mono ?_
    rintro e w1 ⟨rfl, hb⟩
    have hbl1 := (hs.out.rd.carry hb).lt
    replace hb := Lib.hid hb
    go_wp2_with fail
    obtain ⟨W, hW⟩ : ∃ W, W = w1.alloc (.cells #[.int .u8 kd, .int .i64 ln, .int .i64 cl, .int .i64 nm, .string X, .int .i64 dn] 70) := ⟨_, rfl⟩
    rw [← hW]
    have HS0 : Hid (Sit W b tb to tc T at_ d v D n ts) := Lib.hid (by rw [hW]; exact (hs.out.carry hb.out).carry (below_alloc _ _))
    have HF0 : Hid (Fr b w W) := Lib.hid (by rw [hW]; exact (Fr.only (Onl.below hb.out) (by omega)).trans (Fr.only (Onl.below (below_alloc _ _)) (by omega)))
    have HM0 : Hid (SAt W w1.heap.size kd ln cl nm X dn) := Lib.hid (by rw [hW]; exact SAt.made w1 kd ln cl nm X dn)
    clear hW
    have HC1 := Lib.hid (okOf (kind_any HS0.out 1 (by decide)) e1.out)
    refine HC1.out.mono ?_
    rintro e w2 ⟨rfl, ⟨at1, v1, dr, rd⟩, fr⟩
    have HS1 := Lib.hid (HS0.out.then (s := 1) (gd_kind 1 (by decide) (by decide) d ts F1 r1 e1.out) dr rd)
    have HF1 := Lib.hid (HF0.out.trans fr)
    have HM1 := Lib.hid (HM0.out.fr fr (by omega))
    clear dr rd fr
    go_wp2_with fail
    have HC2 := Lib.hid (okOf (take_any HS1.out { data := #[58] } [58] (by rw [ByteArray.toList_eq])) e2.out)
    refine HC2.out.mono ?_
    rintro e w3 ⟨rfl, ⟨at2, v2, dr, rd⟩, fr⟩
    have HS2 := Lib.hid (HS1.out.then (s := 1) (gd_take [58] d r1 F2 r2 e2.out) dr rd)
    have HF2 := Lib.hid (HF1.out.trans fr)
    have HM2 := Lib.hid (HM1.out.fr fr (by omega))
    clear dr rd fr
    go_wp2_with fail
    have HC3 := Lib.hid (okOf (hp (HS2.out.up (by omega))) e3.out)
    refine HC3.out.mono ?_
    rintro e w4 ⟨rfl, ⟨at3, v3, dr, rd⟩, fr⟩
    have HS3 := Lib.hid (HS2.out.then (s := 0) (gd_type m d r2 F3 r3 e3.out) dr rd)
    have HF3 := Lib.hid (HF2.out.trans fr)
    have HM3 := Lib.hid (HM2.out.fr fr (by omega))
    clear dr rd fr
    obtain ⟨m0, m1, m2, m3, m4, m5⟩ := HM3.out.at
    go_wp2_with fail
    have HA := Lib.hid (add_any HS3.out.rd kd ln cl dn nm X kk 0 0 0 0 X (F1.app (F2.app (F3.app .nil))).cnt (by have := hdn.out; simp [post_len, cnt_app, Fo.cnt]; omega) (by have := HS3.out.rm; omega))
    refine HA.out.mono ?_
    rintro e wa ⟨rfl, ⟨va, rda⟩, fra⟩
    replace rda := Lib.hid rda
    replace fra := Lib.hid fra
    go_wp2_with fail
    go_ret
    exact ⟨rfl, ⟨at3, va, HS3.out.dr, rd_node rda.out (by simp [post_app, Fo.post, List.append_assoc]) (by simp [mkK, mkX, mkY, mkN, Inf.nd, ht.out, hX.out]; try rfl)⟩, HF3.out.trans fra.out⟩

set_option maxHeartbeats 1000000 in
theorem field_r {w : World} {b tb to tc : Nat} {T : List Tok} {at_ d : Nat} {v : Value} {D : List Nd} {n : Nat} {ts : List Tok} (h : Sit w b tb to tc T at_ d v D n ts) {m : Nat} (hp : ∀ {w : World} {b tb to tc : Nat} {T : List Tok} {at_ d : Nat} {v : Value} {D : List Nd} {ts : List Tok}, Sit w b tb to tc T at_ d v D n ts → Calls Tryz.prog 109 #[pR b, .int .u8 (3 : Nat)] w (Post b tb to tc T d D w (typedP 3 m d ts))) : Calls Tryz.prog 97 #[pR b] w (Post b tb to tc T d D w (fieldP m d ts)) := by
 have hbl := h.rd.lt
 cases e1 : (typedP 3 m) d ts with
 | bad c l k =>
  rw [show (fieldP m) d ts = .bad c l k by simp only [fieldP, seqP, Out.bind, e1]]
  replace e1 := Lib.hid e1
  have hs := Lib.hid h
  clear h
  go_enter Tryz.func97, Tryz.ntmps97
  go_wp2_with fail
  have HS0 := hs
  have HF0 : Hid (Fr b w w) := Lib.hid (Fr.refl _ _)
  have HC1 := Lib.hid (badOf (hp (HS0.out)) e1.out)
  refine HC1.out.mono ?_
  rintro e w2 ⟨rfl, rf, fr⟩
  replace rf := Lib.hid rf
  replace fr := Lib.hid fr
  go_wp2_with fail
  go_ret
  exact ⟨rfl, rf.out, HF0.out.trans fr.out⟩
 | ok F1 r1 =>
  cases e2 : (take [59]) d r1 with
  | bad c l k =>
   rw [show (fieldP m) d ts = .bad c l k by simp only [fieldP, seqP, Out.bind, e1, e2]]
   replace e1 := Lib.hid e1
   replace e2 := Lib.hid e2
   have hs := Lib.hid h
   clear h
   go_enter Tryz.func97, Tryz.ntmps97
   go_wp2_with fail
   have HS0 := hs
   have HF0 : Hid (Fr b w w) := Lib.hid (Fr.refl _ _)
   have HC1 := Lib.hid (okOf (hp (HS0.out)) e1.out)
   refine HC1.out.mono ?_
   rintro e w2 ⟨rfl, ⟨at1, v1, dr, rd⟩, fr⟩
   have HS1 := Lib.hid (HS0.out.then (s := 1) (gd_typed 3 m d ts F1 r1 e1.out) dr rd)
   have HF1 := Lib.hid (HF0.out.trans fr)
   clear dr rd fr
   go_wp2_with fail
   have HC2 := Lib.hid (badOf (semi_does _ HS1.out) e2.out)
   refine HC2.out.mono ?_
   rintro e w3 ⟨rfl, rf, fr⟩
   replace rf := Lib.hid rf
   replace fr := Lib.hid fr
   go_wp2_with fail
   go_ret
   exact ⟨rfl, rf.out, HF1.out.trans fr.out⟩
  | ok F2 r2 =>
   rw [show (fieldP m) d ts = .ok (F1.app F2) r2 by simp only [fieldP, seqP, Out.bind, e1, e2]]
   replace e1 := Lib.hid e1
   replace e2 := Lib.hid e2
   have hs := Lib.hid h
   clear h
   go_enter Tryz.func97, Tryz.ntmps97
   go_wp2_with fail
   have HS0 := hs
   have HF0 : Hid (Fr b w w) := Lib.hid (Fr.refl _ _)
   have HC1 := Lib.hid (okOf (hp (HS0.out)) e1.out)
   refine HC1.out.mono ?_
   rintro e w2 ⟨rfl, ⟨at1, v1, dr, rd⟩, fr⟩
   have HS1 := Lib.hid (HS0.out.then (s := 1) (gd_typed 3 m d ts F1 r1 e1.out) dr rd)
   have HF1 := Lib.hid (HF0.out.trans fr)
   clear dr rd fr
   go_wp2_with fail
   have HC2 := Lib.hid (okOf (semi_does _ HS1.out) e2.out)
   refine HC2.out.mono ?_
   rintro e w3 ⟨rfl, ⟨at2, v2, dr, rd⟩, fr⟩
   have HS2 := Lib.hid (HS1.out.then (s := 1) (gd_take [59] d r1 F2 r2 e2.out) dr rd)
   have HF2 := Lib.hid (HF1.out.trans fr)
   clear dr rd fr
   go_wp2_with fail
   go_ret
   exact ⟨rfl, ⟨at2, v2, HS2.out.dr, by have := HS2.out.rd; simpa [post_app, Fo.post, List.append_assoc] using this⟩, HF2.out⟩
end
end Go.Proofs.YtbknflaooemigaaGreat

namespace Go.Proofs.YtbknflaooemigaaGreat
section
open Go.RowKit Go.Sort
set_option linter.unusedVariables false
set_option linter.unusedSimpArgs false

theorem tn_big (kd ln cl : Nat) (nm : Int) (X : ByteArray) (w : World) (e2 : ((kd : Int) == 2) = true) : Calls Tryz.prog 118 #[.agg #[.int .u8 kd, .int .i64 ln, .int .i64 cl, .int .i64 nm, .string X]] w fun e w' => e = .returned (.tuple #[nV 19 0 0 0 0 X, .bool true]) ∧ Below w.heap.size w w' := by
 go_enter Tryz.func118, Tryz.ntmps118
 go_wp2_with fail
 refine bodyPost_ret (v := .tuple #[nV 19 0 0 0 0 X, .bool true]) (by simp [results, Tryz.results118, go_sem]) rfl ⟨rfl, by go_grown⟩

theorem tn_not (kd ln cl : Nat) (nm : Int) (X : ByteArray) (w : World) (e2 : ((kd : Int) == 2) = false) (e6 : ((kd : Int) != 6) = true) : Calls Tryz.prog 118 #[.agg #[.int .u8 kd, .int .i64 ln, .int .i64 cl, .int .i64 nm, .string X]] w fun e w' => e = .returned (.tuple #[nV 0 0 0 0 0 { data := #[] }, .bool false]) ∧ Below w.heap.size w w' := by
 go_enter Tryz.func118, Tryz.ntmps118
 go_wp2_with fail
 refine bodyPost_ret (v := .tuple #[nV 0 0 0 0 0 { data := #[] }, .bool false]) (by simp [results, Tryz.results118, go_sem]) rfl ⟨rfl, by go_grown⟩

theorem tn_0 (kd ln cl : Nat) (nm : Int) (X : ByteArray) (w : World) (e2 : ((kd : Int) == 2) = false) (e6 : ((kd : Int) != 6) = false)  (x0 : (X.toList == [105, 110, 116]) = true) : Calls Tryz.prog 118 #[.agg #[.int .u8 kd, .int .i64 ln, .int .i64 cl, .int .i64 nm, .string X]] w fun e w' => e = .returned (.tuple #[nV 15 0 0 0 0 { data := #[] }, .bool true]) ∧ Below w.heap.size w w' := by
 go_enter Tryz.func118, Tryz.ntmps118
 go_wp2_with fail
 refine bodyPost_ret (v := .tuple #[nV 15 0 0 0 0 { data := #[] }, .bool true]) (by simp [results, Tryz.results118, go_sem]) rfl ⟨rfl, by go_grown⟩

theorem tn_1 (kd ln cl : Nat) (nm : Int) (X : ByteArray) (w : World) (e2 : ((kd : Int) == 2) = false) (e6 : ((kd : Int) != 6) = false) (x0 : (X.toList == [105, 110, 116]) = false) (x1 : (X.toList == [98, 111, 111, 108]) = true) : Calls Tryz.prog 118 #[.agg #[.int .u8 kd, .int .i64 ln, .int .i64 cl, .int .i64 nm, .string X]] w fun e w' => e = .returned (.tuple #[nV 16 0 0 0 0 { data := #[] }, .bool true]) ∧ Below w.heap.size w w' := by
 go_enter Tryz.func118, Tryz.ntmps118
 go_wp2_with fail
 refine bodyPost_ret (v := .tuple #[nV 16 0 0 0 0 { data := #[] }, .bool true]) (by simp [results, Tryz.results118, go_sem]) rfl ⟨rfl, by go_grown⟩

theorem tn_2 (kd ln cl : Nat) (nm : Int) (X : ByteArray) (w : World) (e2 : ((kd : Int) == 2) = false) (e6 : ((kd : Int) != 6) = false) (x0 : (X.toList == [105, 110, 116]) = false) (x1 : (X.toList == [98, 111, 111, 108]) = false) (x2 : (X.toList == [115, 116, 114]) = true) : Calls Tryz.prog 118 #[.agg #[.int .u8 kd, .int .i64 ln, .int .i64 cl, .int .i64 nm, .string X]] w fun e w' => e = .returned (.tuple #[nV 17 0 0 0 0 { data := #[] }, .bool true]) ∧ Below w.heap.size w w' := by
 go_enter Tryz.func118, Tryz.ntmps118
 go_wp2_with fail
 refine bodyPost_ret (v := .tuple #[nV 17 0 0 0 0 { data := #[] }, .bool true]) (by simp [results, Tryz.results118, go_sem]) rfl ⟨rfl, by go_grown⟩

theorem tn_3 (kd ln cl : Nat) (nm : Int) (X : ByteArray) (w : World) (e2 : ((kd : Int) == 2) = false) (e6 : ((kd : Int) != 6) = false) (x0 : (X.toList == [105, 110, 116]) = false) (x1 : (X.toList == [98, 111, 111, 108]) = false) (x2 : (X.toList == [115, 116, 114]) = false) (x3 : (X.toList == [99, 111, 109, 112]) = true) : Calls Tryz.prog 118 #[.agg #[.int .u8 kd, .int .i64 ln, .int .i64 cl, .int .i64 nm, .string X]] w fun e w' => e = .returned (.tuple #[nV 18 0 0 0 0 { data := #[] }, .bool true]) ∧ Below w.heap.size w w' := by
 go_enter Tryz.func118, Tryz.ntmps118
 go_wp2_with fail
 refine bodyPost_ret (v := .tuple #[nV 18 0 0 0 0 { data := #[] }, .bool true]) (by simp [results, Tryz.results118, go_sem]) rfl ⟨rfl, by go_grown⟩

theorem tn_none (kd ln cl : Nat) (nm : Int) (X : ByteArray) (w : World) (e2 : ((kd : Int) == 2) = false) (e6 : ((kd : Int) != 6) = false) (x0 : (X.toList == [105, 110, 116]) = false) (x1 : (X.toList == [98, 111, 111, 108]) = false) (x2 : (X.toList == [115, 116, 114]) = false) (x3 : (X.toList == [99, 111, 109, 112]) = false) : Calls Tryz.prog 118 #[.agg #[.int .u8 kd, .int .i64 ln, .int .i64 cl, .int .i64 nm, .string X]] w fun e w' => e = .returned (.tuple #[nV 0 0 0 0 0 { data := #[] }, .bool false]) ∧ Below w.heap.size w w' := by
 go_enter Tryz.func118, Tryz.ntmps118
 go_wp2_with fail
 refine bodyPost_ret (v := .tuple #[nV 0 0 0 0 0 { data := #[] }, .bool false]) (by simp [results, Tryz.results118, go_sem]) rfl ⟨rfl, by go_grown⟩

theorem wn_0 (X : ByteArray) (w : World)  (x0 : (X.toList == [116, 114, 117, 101]) = true) : Calls Tryz.prog 135 #[.string X] w fun e w' => e = .returned (.tuple #[nV 24 0 0 0 1 { data := #[] }, .bool true]) ∧ Below w.heap.size w w' := by
 go_enter Tryz.func135, Tryz.ntmps135
 go_wp2_with fail
 refine bodyPost_ret (v := .tuple #[nV 24 0 0 0 1 { data := #[] }, .bool true]) (by simp [results, Tryz.results135, go_sem]) rfl ⟨rfl, by go_grown⟩

theorem wn_1 (X : ByteArray) (w : World) (x0 : (X.toList == [116, 114, 117, 101]) = false) (x1 : (X.toList == [102, 97, 108, 115, 101]) = true) : Calls Tryz.prog 135 #[.string X] w fun e w' => e = .returned (.tuple #[nV 24 0 0 0 0 { data := #[] }, .bool true]) ∧ Below w.heap.size w w' := by
 go_enter Tryz.func135, Tryz.ntmps135
 go_wp2_with fail
 refine bodyPost_ret (v := .tuple #[nV 24 0 0 0 0 { data := #[] }, .bool true]) (by simp [results, Tryz.results135, go_sem]) rfl ⟨rfl, by go_grown⟩

theorem wn_2 (X : ByteArray) (w : World) (x0 : (X.toList == [116, 114, 117, 101]) = false) (x1 : (X.toList == [102, 97, 108, 115, 101]) = false) (x2 : (X.toList == [110, 105, 108]) = true) : Calls Tryz.prog 135 #[.string X] w fun e w' => e = .returned (.tuple #[nV 25 0 0 0 0 { data := #[] }, .bool true]) ∧ Below w.heap.size w w' := by
 go_enter Tryz.func135, Tryz.ntmps135
 go_wp2_with fail
 refine bodyPost_ret (v := .tuple #[nV 25 0 0 0 0 { data := #[] }, .bool true]) (by simp [results, Tryz.results135, go_sem]) rfl ⟨rfl, by go_grown⟩

theorem wn_none (X : ByteArray) (w : World) (x0 : (X.toList == [116, 114, 117, 101]) = false) (x1 : (X.toList == [102, 97, 108, 115, 101]) = false) (x2 : (X.toList == [110, 105, 108]) = false) : Calls Tryz.prog 135 #[.string X] w fun e w' => e = .returned (.tuple #[nV 0 0 0 0 0 { data := #[] }, .bool false]) ∧ Below w.heap.size w w' := by
 go_enter Tryz.func135, Tryz.ntmps135
 go_wp2_with fail
 refine bodyPost_ret (v := .tuple #[nV 0 0 0 0 0 { data := #[] }, .bool false]) (by simp [results, Tryz.results135, go_sem]) rfl ⟨rfl, by go_grown⟩

theorem cn_int (kd ln cl : Nat) (nm : Int) (X : ByteArray) (w : World)  (k3 : ((kd : Int) == 3) = true) : Calls Tryz.prog 134 #[.agg #[.int .u8 kd, .int .i64 ln, .int .i64 cl, .int .i64 nm, .string X]] w fun e w' => e = .returned (.tuple #[nV 21 0 0 0 nm { data := #[] }, .bool true]) ∧ Below w.heap.size w w' := by
 go_enter Tryz.func134, Tryz.ntmps134
 go_wp2_with fail
 refine bodyPost_ret (v := .tuple #[nV 21 0 0 0 nm { data := #[] }, .bool true]) (by simp [results, Tryz.results134, go_sem]) rfl ⟨rfl, by go_grown⟩

theorem cn_comp (kd ln cl : Nat) (nm : Int) (X : ByteArray) (w : World) (k3 : ((kd : Int) == 3) = false) (k4 : ((kd : Int) == 4) = true) : Calls Tryz.prog 134 #[.agg #[.int .u8 kd, .int .i64 ln, .int .i64 cl, .int .i64 nm, .string X]] w fun e w' => e = .returned (.tuple #[nV 22 0 0 0 nm { data := #[] }, .bool true]) ∧ Below w.heap.size w w' := by
 go_enter Tryz.func134, Tryz.ntmps134
 go_wp2_with fail
 refine bodyPost_ret (v := .tuple #[nV 22 0 0 0 nm { data := #[] }, .bool true]) (by simp [results, Tryz.results134, go_sem]) rfl ⟨rfl, by go_grown⟩

theorem cn_str (kd ln cl : Nat) (nm : Int) (X : ByteArray) (w : World) (k3 : ((kd : Int) == 3) = false) (k4 : ((kd : Int) == 4) = false) (k5 : ((kd : Int) == 5) = true) : Calls Tryz.prog 134 #[.agg #[.int .u8 kd, .int .i64 ln, .int .i64 cl, .int .i64 nm, .string X]] w fun e w' => e = .returned (.tuple #[nV 23 0 0 0 0 X, .bool true]) ∧ Below w.heap.size w w' := by
 go_enter Tryz.func134, Tryz.ntmps134
 go_wp2_with fail
 refine bodyPost_ret (v := .tuple #[nV 23 0 0 0 0 X, .bool true]) (by simp [results, Tryz.results134, go_sem]) rfl ⟨rfl, by go_grown⟩

theorem cn_none (kd ln cl : Nat) (nm : Int) (X : ByteArray) (w : World) (k3 : ((kd : Int) == 3) = false) (k4 : ((kd : Int) == 4) = false) (k5 : ((kd : Int) == 5) = false) (k6 : ((kd : Int) == 6) = false) : Calls Tryz.prog 134 #[.agg #[.int .u8 kd, .int .i64 ln, .int .i64 cl, .int .i64 nm, .string X]] w fun e w' => e = .returned (.tuple #[nV 0 0 0 0 0 { data := #[] }, .bool false]) ∧ Below w.heap.size w w' := by
 go_enter Tryz.func134, Tryz.ntmps134
 go_wp2_with fail
 refine bodyPost_ret (v := .tuple #[nV 0 0 0 0 0 { data := #[] }, .bool false]) (by simp [results, Tryz.results134, go_sem]) rfl ⟨rfl, by go_grown⟩

set_option maxHeartbeats 400000 in
theorem cn_word (kd ln cl : Nat) (nm : Int) (X : ByteArray) (w : World) (k3 : ((kd : Int) == 3) = false) (k4 : ((kd : Int) == 4) = false) (k5 : ((kd : Int) == 5) = false) (k6 : ((kd : Int) == 6) = true) (k : Nat) (m : Int) (Y : ByteArray) (q : Bool) (H : Hid (∀ w, Calls Tryz.prog 135 #[.string X] w fun e w' => e = .returned (.tuple #[nV k 0 0 0 m Y, .bool q]) ∧ Below w.heap.size w w')) : Calls Tryz.prog 134 #[.agg #[.int .u8 kd, .int .i64 ln, .int .i64 cl, .int .i64 nm, .string X]] w fun e w' => e = .returned (.tuple #[nV k 0 0 0 m Y, .bool q]) ∧ Below w.heap.size w w' := by
 go_enter Tryz.func134, Tryz.ntmps134
 go_wp2_with fail
 refine (H.out _).mono ?_
 rintro e w1 ⟨rfl, hb⟩
 obtain ⟨hc, hf⟩ := bcell hb
 have hz := hb.size
 simp only [World.size_alloc] at hc hf hz
 go_wp2_with fail
 refine bodyPost_ret (v := .tuple #[nV k 0 0 0 m Y, .bool q]) (by simp [results, Tryz.results134, go_sem, hc]) rfl ⟨rfl, ?_⟩
 have hb' := (by go_grown : Below w.heap.size w _).trans (hb.mono (by simp; omega))
 go_grown

/-- What a token is by itself, as a value. -/
def leafV (q : Option (Nat × Int × List UInt8)) : Nat × Int × List UInt8 := q.getD (0, 0, [])
def typeL (t : Tok) : Option (Nat × Int × List UInt8) := (typeK t).map fun q => (q.1, 0, q.2)

theorem typeNode_any (t : Tok) (w : World) : Calls Tryz.prog 118 #[tV t] w fun e w' => e = .returned (.tuple #[nV (leafV (typeL t)).1 0 0 0 (leafV (typeL t)).2.1 (bs (leafV (typeL t)).2.2), .bool (typeL t).isSome]) ∧ Below w.heap.size w w' := by
 obtain ⟨kd, ln, cl, nm, tx⟩ := t
 by_cases h2 : kd = 2
 ·rw [show typeL ⟨kd, ln, cl, nm, tx⟩ = some (19, 0, tx) by simp [typeL, typeK, h2]]
  exact tn_big kd ln cl nm (bs tx) w (by rw [h2]; rfl)
 ·have e2 : ((kd : Int) == 2) = false := by rw [beq_eq_false_iff_ne]; omega
  by_cases h6 : kd = 6
  ·have e6 : ((kd : Int) != 6) = false := by rw [h6]; rfl
   by_cases x0 : tx = [105, 110, 116]
   ·have := tn_0 kd ln cl nm (bs tx) w e2 e6  (by rw [bs_toList, x0]; rfl)
    rw [show typeL ⟨kd, ln, cl, nm, tx⟩ = some (15, 0, []) by simp [typeL, typeK, h6, x0]]
    exact this
   by_cases x1 : tx = [98, 111, 111, 108]
   ·have := tn_1 kd ln cl nm (bs tx) w e2 e6 (by rw [bs_toList]; simpa using x0) (by rw [bs_toList, x1]; rfl)
    rw [show typeL ⟨kd, ln, cl, nm, tx⟩ = some (16, 0, []) by simp [typeL, typeK, h6, x1]]
    exact this
   by_cases x2 : tx = [115, 116, 114]
   ·have := tn_2 kd ln cl nm (bs tx) w e2 e6 (by rw [bs_toList]; simpa using x0) (by rw [bs_toList]; simpa using x1) (by rw [bs_toList, x2]; rfl)
    rw [show typeL ⟨kd, ln, cl, nm, tx⟩ = some (17, 0, []) by simp [typeL, typeK, h6, x2]]
    exact this
   by_cases x3 : tx = [99, 111, 109, 112]
   ·have := tn_3 kd ln cl nm (bs tx) w e2 e6 (by rw [bs_toList]; simpa using x0) (by rw [bs_toList]; simpa using x1) (by rw [bs_toList]; simpa using x2) (by rw [bs_toList, x3]; rfl)
    rw [show typeL ⟨kd, ln, cl, nm, tx⟩ = some (18, 0, []) by simp [typeL, typeK, h6, x3]]
    exact this
   have := tn_none kd ln cl nm (bs tx) w e2 e6 (by rw [bs_toList]; simpa using x0) (by rw [bs_toList]; simpa using x1) (by rw [bs_toList]; simpa using x2) (by rw [bs_toList]; simpa using x3)
   rw [show typeL ⟨kd, ln, cl, nm, tx⟩ = none by simp [typeL, typeK, h6, x0, x1, x2, x3]]
   exact this
  ·have e6 : ((kd : Int) != 6) = true := bne_of (by omega)
   have := tn_not kd ln cl nm (bs tx) w e2 e6
   rw [show typeL ⟨kd, ln, cl, nm, tx⟩ = none by simp [typeL, typeK, h2, h6]]
   exact this

theorem constNode_any (t : Tok) (w : World) : Calls Tryz.prog 134 #[tV t] w fun e w' => e = .returned (.tuple #[nV (leafV (constK t)).1 0 0 0 (leafV (constK t)).2.1 (bs (leafV (constK t)).2.2), .bool (constK t).isSome]) ∧ Below w.heap.size w w' := by
 obtain ⟨kd, ln, cl, nm, tx⟩ := t
 by_cases h3 : kd = 3
 ·have := cn_int kd ln cl nm (bs tx) w (by rw [h3]; rfl)
  rw [show constK ⟨kd, ln, cl, nm, tx⟩ = some (21, nm, []) by simp [constK, h3]]
  exact this
 have e3 : ((kd : Int) == 3) = false := by rw [beq_eq_false_iff_ne]; omega
 by_cases h4 : kd = 4
 ·have := cn_comp kd ln cl nm (bs tx) w e3 (by rw [h4]; rfl)
  rw [show constK ⟨kd, ln, cl, nm, tx⟩ = some (22, nm, []) by simp [constK, h4]]
  exact this
 have e4 : ((kd : Int) == 4) = false := by rw [beq_eq_false_iff_ne]; omega
 by_cases h5 : kd = 5
 ·have := cn_str kd ln cl nm (bs tx) w e3 e4 (by rw [h5]; rfl)
  rw [show constK ⟨kd, ln, cl, nm, tx⟩ = some (23, 0, tx) by simp [constK, h5]]
  exact this
 have e5 : ((kd : Int) == 5) = false := by rw [beq_eq_false_iff_ne]; omega
 by_cases h6 : kd = 6
 ·have e6 : ((kd : Int) == 6) = true := by rw [h6]; rfl
  by_cases x0 : tx = [116, 114, 117, 101]
  ·have := cn_word kd ln cl nm (bs tx) w e3 e4 e5 e6 24 1 { data := #[] } true (Lib.hid fun w => wn_0 (bs tx) w  (by rw [bs_toList, x0]; rfl))
   rw [show constK ⟨kd, ln, cl, nm, tx⟩ = some (24, 1, []) by simp [constK, h6, x0]]
   exact this
  by_cases x1 : tx = [102, 97, 108, 115, 101]
  ·have := cn_word kd ln cl nm (bs tx) w e3 e4 e5 e6 24 0 { data := #[] } true (Lib.hid fun w => wn_1 (bs tx) w (by rw [bs_toList]; simpa using x0) (by rw [bs_toList, x1]; rfl))
   rw [show constK ⟨kd, ln, cl, nm, tx⟩ = some (24, 0, []) by simp [constK, h6, x1]]
   exact this
  by_cases x2 : tx = [110, 105, 108]
  ·have := cn_word kd ln cl nm (bs tx) w e3 e4 e5 e6 25 0 { data := #[] } true (Lib.hid fun w => wn_2 (bs tx) w (by rw [bs_toList]; simpa using x0) (by rw [bs_toList]; simpa using x1) (by rw [bs_toList, x2]; rfl))
   rw [show constK ⟨kd, ln, cl, nm, tx⟩ = some (25, 0, []) by simp [constK, h6, x2]]
   exact this
  have := cn_word kd ln cl nm (bs tx) w e3 e4 e5 e6 0 0 { data := #[] } false (Lib.hid fun w => wn_none (bs tx) w (by rw [bs_toList]; simpa using x0) (by rw [bs_toList]; simpa using x1) (by rw [bs_toList]; simpa using x2))
  rw [show constK ⟨kd, ln, cl, nm, tx⟩ = none by simp [constK, h6, x0, x1, x2]]
  exact this
 have e6 : ((kd : Int) == 6) = false := by rw [beq_eq_false_iff_ne]; omega
 have := cn_none kd ln cl nm (bs tx) w e3 e4 e5 e6
 rw [show constK ⟨kd, ln, cl, nm, tx⟩ = none by simp [constK, h3, h4, h5, h6]]
 exact this

set_option maxHeartbeats 1000000 in
theorem plainType_r {w : World} {b tb to tc : Nat} {T : List Tok} {at_ d : Nat} {v : Value} {D : List Nd} {n : Nat} {ts : List Tok} (h : Sit w b tb to tc T at_ d v D n ts) : Calls Tryz.prog 112 #[pR b] w (Post b tb to tc T d D w (plainTypeP d ts)) := by
 have hbl := h.rd.lt
 obtain ⟨⟨kd, ln, cl, nm, tx⟩, ht⟩ : ∃ t, hd ts = t := ⟨_, rfl⟩
 obtain ⟨a, cap, hv⟩ := own_slice h.rd.own
 obtain ⟨dn, hdn⟩ : ∃ dn, D.length = dn := ⟨_, rfl⟩
 have HH := here_any h ht dn hdn a cap (by rw [hv, hdn])
 obtain ⟨⟨k, m, x⟩, hq⟩ : ∃ q, leafV (typeL (hd ts)) = q := ⟨_, rfl⟩
 obtain ⟨q, hq2⟩ : ∃ q, (typeL (hd ts)).isSome = q := ⟨_, rfl⟩
 have HN := fun w => typeNode_any (hd ts) w
 rw [hq, hq2, ht] at HN
 obtain ⟨X, hX⟩ : ∃ X, bs tx = X := ⟨_, rfl⟩
 obtain ⟨Y, hY⟩ : ∃ Y, bs x = Y := ⟨_, rfl⟩
 replace HN : ∀ w, Calls Tryz.prog 118 #[.agg #[.int .u8 kd, .int .i64 ln, .int .i64 cl, .int .i64 nm, .string (bs tx)]] w fun e w' => e = .returned (.tuple #[.agg #[.int .u8 k, .int .i64 0, .int .i64 0, .int .i64 0, .int .i64 m, .string (bs x)], .bool q]) ∧ Below w.heap.size w w' := HN
 rw [hX] at HN HH
 rw [hY] at HN
 replace HN := Lib.hid HN
 replace HH := Lib.hid HH
 have HR : (q = true → plainTypeP d ts = .ok (.cons ⟨k, ln, cl, m, x⟩ .nil .nil) ts.tail ∧ (hd ts).kind ≠ 8) ∧ (q = false → plainTypeP d ts = .bad 5 ln cl) := by
  unfold plainTypeP
  cases hK : typeL (hd ts) with
  | none =>
   rw [hK] at hq2
   refine ⟨(fun e => by rw [← hq2] at e; cases e), fun _ => ?_⟩
   simp [typeL] at hK; simp only [hK]; unfold badAt; rw [ht]
  | some z =>
   rw [hK] at hq hq2
   refine ⟨fun _ => ⟨?_, ?_⟩, (fun e => by rw [← hq2] at e; cases e)⟩
   ·obtain ⟨z', hz1, hz2⟩ := Option.map_eq_some_iff.1 hK; rw [← hz2] at hq; cases hq; simp only [hz1]; rw [ht]
   ·obtain ⟨z', hz1, hz2⟩ := Option.map_eq_some_iff.1 hK; have := typeK_kind hz1; omega
 clear hq2 hq
 cases q with
 | false =>
  rw [HR.2 rfl]
  have HP := Lib.hid (fun (w' : World) (hb : Below w.heap.size w w') => pass_no (h.rd.carry hb) h.next)
  rw [ht] at HP
  replace h := Lib.hid h
  clear HR ht
  go_enter Tryz.func112, Tryz.ntmps112
  go_wp2_with fail
  refine HH.out.mono ?_
  rintro e w1 ⟨rfl, hb1⟩
  replace hb1 := Lib.hid hb1
  go_wp2_with fail
  refine (HN.out _).mono ?_
  rintro e w2 ⟨rfl, hb2⟩
  replace hb2 := Lib.hid (below_step (below_step hb1.out (below_alloc _ _)) hb2)
  go_wp2_with fail
  refine (HP.out _ (below_step hb2.out (below_alloc _ _))).mono ?_
  rintro e w3 ⟨rfl, h1, h2⟩
  replace h1 := Lib.hid h1
  replace h2 := Lib.hid h2
  go_wp2_with fail
  go_ret
  exact ⟨rfl, h1.out, Fr.only ((Onl.below (below_step hb2.out (below_alloc _ _))).trans h2.out) (by omega)⟩
 | true =>
  obtain ⟨HR1, hk⟩ := HR.1 rfl
  rw [HR1]
  have HP := Lib.hid (fun (w' : World) (hb : Below w.heap.size w w') => pass_yes (h.rd.carry hb) h.next)
  have HT := Lib.hid (h.tail (w' := w) · hk)
  have hsz := h.rm
  have HE : Hid (T.drop (at_ + 1) = ts.tail) := Lib.hid (by rw [← List.drop_drop, h.dr]; simp)
  replace h := Lib.hid h
  replace hY := Lib.hid hY
  replace hdn := Lib.hid hdn
  clear HR HR1 ht hk hv
  go_enter Tryz.func112, Tryz.ntmps112
  go_wp2_with fail
  refine HH.out.mono ?_
  rintro e w1 ⟨rfl, hb1⟩
  replace hb1 := Lib.hid hb1
  have hbl1 : b < w1.heap.size := by have := hb1.out.size; omega
  go_wp2_with fail
  refine (HN.out _).mono ?_
  rintro e w2 ⟨rfl, hb2⟩
  have HM0 := Lib.hid ((SAt.made w1 kd ln cl nm X dn).below hb2)
  have hsz2 := hb2.size
  simp only [World.size_alloc] at hsz2
  replace hb2 := Lib.hid (below_step (below_step hb1.out (below_alloc _ _)) hb2)
  go_wp2_with fail
  refine (HP.out _ (below_step hb2.out (below_alloc _ _))).mono ?_
  rintro e w3 ⟨rfl, h1, h2⟩
  have hSA : SAt w3 w1.heap.size kd ln cl nm X dn := (h2.block _ (by simp; omega) (by omega)).trans (HM0.out.below (below_alloc _ _))
  obtain ⟨m0, m1, m2, m3, m4, m5⟩ := hSA.at
  clear hSA
  have hn := (h2.block w2.heap.size (by simp) (by omega)).trans (heap_alloc_new w2 _)
  have n0 := cell_of_row w3 w2.heap.size 0 _ 32 (0, 0) hn
  have n1 := cell_of_row w3 w2.heap.size 1 _ 32 (0, 0) hn
  have n2 := cell_of_row w3 w2.heap.size 2 _ 32 (0, 0) hn
  have n3 := cell_of_row w3 w2.heap.size 3 _ 32 (0, 0) hn
  have n4 := cell_of_row w3 w2.heap.size 4 _ 32 (0, 0) hn
  have n5 := cell_of_row w3 w2.heap.size 5 _ 32 (0, 0) hn
  simp only [List.getElem?_toArray, List.getElem?_cons_zero, List.getElem?_cons_succ] at n0 n1 n2 n3 n4 n5
  have HA := Lib.hid (add_any h1 kd ln cl dn nm X k 0 0 0 m Y 0 (by rw [hdn.out]; rfl) (by omega))
  replace h1 := Lib.hid h1
  replace h2 := Lib.hid h2
  clear hn
  go_wp2_with fail
  refine HA.out.mono ?_
  rintro e w4 ⟨rfl, ⟨v4, h4⟩, h5⟩
  replace h4 := Lib.hid h4
  replace h5 := Lib.hid h5
  go_wp2_with fail
  go_ret
  refine ⟨rfl, ⟨at_ + 1, v4, HE.out, by have := h4.out; rw [← hY.out] at this; simpa [Fo.post, Fo.cnt, Inf.nd] using this⟩, (Fr.only ((Onl.below (below_step hb2.out (below_alloc _ _))).trans h2.out) (by omega)).trans h5.out⟩

set_option maxHeartbeats 1000000 in
theorem constant_r {w : World} {b tb to tc : Nat} {T : List Tok} {at_ d : Nat} {v : Value} {D : List Nd} {n : Nat} {ts : List Tok} (h : Sit w b tb to tc T at_ d v D n ts) : Calls Tryz.prog 131 #[pR b] w (Post b tb to tc T d D w (constP d ts)) := by
 have hbl := h.rd.lt
 obtain ⟨⟨kd, ln, cl, nm, tx⟩, ht⟩ : ∃ t, hd ts = t := ⟨_, rfl⟩
 obtain ⟨a, cap, hv⟩ := own_slice h.rd.own
 obtain ⟨dn, hdn⟩ : ∃ dn, D.length = dn := ⟨_, rfl⟩
 have HH := here_any h ht dn hdn a cap (by rw [hv, hdn])
 obtain ⟨⟨k, m, x⟩, hq⟩ : ∃ q, leafV (constK (hd ts)) = q := ⟨_, rfl⟩
 obtain ⟨q, hq2⟩ : ∃ q, (constK (hd ts)).isSome = q := ⟨_, rfl⟩
 have HN := fun w => constNode_any (hd ts) w
 rw [hq, hq2, ht] at HN
 obtain ⟨X, hX⟩ : ∃ X, bs tx = X := ⟨_, rfl⟩
 obtain ⟨Y, hY⟩ : ∃ Y, bs x = Y := ⟨_, rfl⟩
 replace HN : ∀ w, Calls Tryz.prog 134 #[.agg #[.int .u8 kd, .int .i64 ln, .int .i64 cl, .int .i64 nm, .string (bs tx)]] w fun e w' => e = .returned (.tuple #[.agg #[.int .u8 k, .int .i64 0, .int .i64 0, .int .i64 0, .int .i64 m, .string (bs x)], .bool q]) ∧ Below w.heap.size w w' := HN
 rw [hX] at HN HH
 rw [hY] at HN
 replace HN := Lib.hid HN
 replace HH := Lib.hid HH
 have HR : (q = true → constP d ts = .ok (.cons ⟨k, ln, cl, m, x⟩ .nil .nil) ts.tail ∧ (hd ts).kind ≠ 8) ∧ (q = false → constP d ts = .bad 5 ln cl) := by
  unfold constP
  cases hK : constK (hd ts) with
  | none =>
   rw [hK] at hq2
   refine ⟨(fun e => by rw [← hq2] at e; cases e), fun _ => ?_⟩
   simp [badAt, ht]
  | some z =>
   rw [hK] at hq hq2
   refine ⟨fun _ => ⟨?_, ?_⟩, (fun e => by rw [← hq2] at e; cases e)⟩
   ·cases hq; simp [ht]
   ·have := constK_kind hK; omega
 clear hq2 hq
 cases q with
 | false =>
  rw [HR.2 rfl]
  have HP := Lib.hid (fun (w' : World) (hb : Below w.heap.size w w') => pass_no (h.rd.carry hb) h.next)
  rw [ht] at HP
  replace h := Lib.hid h
  clear HR ht
  go_enter Tryz.func131, Tryz.ntmps131
  go_wp2_with fail
  refine HH.out.mono ?_
  rintro e w1 ⟨rfl, hb1⟩
  replace hb1 := Lib.hid hb1
  go_wp2_with fail
  refine (HN.out _).mono ?_
  rintro e w2 ⟨rfl, hb2⟩
  replace hb2 := Lib.hid (below_step (below_step hb1.out (below_alloc _ _)) hb2)
  go_wp2_with fail
  refine (HP.out _ (below_step hb2.out (below_alloc _ _))).mono ?_
  rintro e w3 ⟨rfl, h1, h2⟩
  replace h1 := Lib.hid h1
  replace h2 := Lib.hid h2
  go_wp2_with fail
  go_ret
  exact ⟨rfl, h1.out, Fr.only ((Onl.below (below_step hb2.out (below_alloc _ _))).trans h2.out) (by omega)⟩
 | true =>
  obtain ⟨HR1, hk⟩ := HR.1 rfl
  rw [HR1]
  have HP := Lib.hid (fun (w' : World) (hb : Below w.heap.size w w') => pass_yes (h.rd.carry hb) h.next)
  have HT := Lib.hid (h.tail (w' := w) · hk)
  have hsz := h.rm
  have HE : Hid (T.drop (at_ + 1) = ts.tail) := Lib.hid (by rw [← List.drop_drop, h.dr]; simp)
  replace h := Lib.hid h
  replace hY := Lib.hid hY
  replace hdn := Lib.hid hdn
  clear HR HR1 ht hk hv
  go_enter Tryz.func131, Tryz.ntmps131
  go_wp2_with fail
  refine HH.out.mono ?_
  rintro e w1 ⟨rfl, hb1⟩
  replace hb1 := Lib.hid hb1
  have hbl1 : b < w1.heap.size := by have := hb1.out.size; omega
  go_wp2_with fail
  refine (HN.out _).mono ?_
  rintro e w2 ⟨rfl, hb2⟩
  have HM0 := Lib.hid ((SAt.made w1 kd ln cl nm X dn).below hb2)
  have hsz2 := hb2.size
  simp only [World.size_alloc] at hsz2
  replace hb2 := Lib.hid (below_step (below_step hb1.out (below_alloc _ _)) hb2)
  go_wp2_with fail
  refine (HP.out _ (below_step hb2.out (below_alloc _ _))).mono ?_
  rintro e w3 ⟨rfl, h1, h2⟩
  have hSA : SAt w3 w1.heap.size kd ln cl nm X dn := (h2.block _ (by simp; omega) (by omega)).trans (HM0.out.below (below_alloc _ _))
  obtain ⟨m0, m1, m2, m3, m4, m5⟩ := hSA.at
  clear hSA
  have hn := (h2.block w2.heap.size (by simp) (by omega)).trans (heap_alloc_new w2 _)
  have n0 := cell_of_row w3 w2.heap.size 0 _ 32 (0, 0) hn
  have n1 := cell_of_row w3 w2.heap.size 1 _ 32 (0, 0) hn
  have n2 := cell_of_row w3 w2.heap.size 2 _ 32 (0, 0) hn
  have n3 := cell_of_row w3 w2.heap.size 3 _ 32 (0, 0) hn
  have n4 := cell_of_row w3 w2.heap.size 4 _ 32 (0, 0) hn
  have n5 := cell_of_row w3 w2.heap.size 5 _ 32 (0, 0) hn
  simp only [List.getElem?_toArray, List.getElem?_cons_zero, List.getElem?_cons_succ] at n0 n1 n2 n3 n4 n5
  have HA := Lib.hid (add_any h1 kd ln cl dn nm X k 0 0 0 m Y 0 (by rw [hdn.out]; rfl) (by omega))
  replace h1 := Lib.hid h1
  replace h2 := Lib.hid h2
  clear hn
  go_wp2_with fail
  refine HA.out.mono ?_
  rintro e w4 ⟨rfl, ⟨v4, h4⟩, h5⟩
  replace h4 := Lib.hid h4
  replace h5 := Lib.hid h5
  go_wp2_with fail
  go_ret
  refine ⟨rfl, ⟨at_ + 1, v4, HE.out, by have := h4.out; rw [← hY.out] at this; simpa [Fo.post, Fo.cnt, Inf.nd] using this⟩, (Fr.only ((Onl.below (below_step hb2.out (below_alloc _ _))).trans h2.out) (by omega)).trans h5.out⟩
end
end Go.Proofs.YtbknflaooemigaaGreat
