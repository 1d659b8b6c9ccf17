/-
  Contracts of parse.reader's levels of operators, of lists of things, and of types. Conditions: as said.
-/
import Derived.Test.YtbknflaooemigaaRdk
namespace Go.Proofs.Ytbknflaooemigaa
open Go.RowKit Go.Sort
set_option linter.unusedVariables false
set_option linter.unusedSimpArgs false

theorem okOf {f : FuncId} {args : Array Value} {w : World} {b tb to tc : Nat} {T : List Tok} {d : Nat} {D : List Nd} {o : Out} (H : Calls Try.prog f args w (Post b tb to tc T d D w o)) {F : Fo} {r : List Tok} (ho : o = .ok F r) :
    Calls Try.prog f args w fun e w' => e = .returned (.bool true) ∧ (∃ at' v', T.drop at' = r ∧ Rd w' b tb to tc T at' d v' (D ++ F.post)) ∧ Fr b w w' := by
  subst ho; exact H
theorem badOf {f : FuncId} {args : Array Value} {w : World} {b tb to tc : Nat} {T : List Tok} {d : Nat} {D : List Nd} {o : Out} (H : Calls Try.prog f args w (Post b tb to tc T d D w o)) {c : Int} {l k : Nat} (ho : o = .bad c l k) :
    Calls Try.prog f args w fun e w' => e = .returned (.bool false) ∧ Rf w' b c l k ∧ Fr b w w' := by
  subst ho; exact H
theorem rd_node {w : World} {b tb to tc : Nat} {T : List Tok} {at_ : Nat} {d : Int} {v : Value} {D D' : List Nd} {t : Nd} {i : Inf} {F : Fo} (h : Rd w b tb to tc T at_ d v (D' ++ [t])) (h1 : D' = D ++ F.post) (h2 : t = i.nd F.cnt) : Rd w b tb to tc T at_ d v (D ++ (Fo.cons i F .nil).post) := by
  subst h1 h2
  simpa [Fo.post] using h
theorem fn_of {f : FuncId} {n : Nat} {p : Pt} (h : Does f n p) (eg : ∀ args w, (callFunc f args).run Try.prog w = .ok (.enter f args) w) : Fn (.func (.func f) #[] #[]) n p := ⟨f, rfl, eg, h⟩

theorem or_does {n : Nat} {p : Pt} (hp : Does 16 n p) (hg : Gd 0 p) (N : Nat) (hN : n ≤ N) : Does 10 n (chainP p [[124, 124]] N) := by
  intro w b tb to tc T at_ d v D ts h
  have hbl := h.rd.lt
  have H : Hid (Calls Try.prog 15 #[pR b, .func (.func 16) #[] #[], .slice (some ⟨w.heap.size, 0, none⟩) 1 1] (w.alloc (.cells #[Value.string { data := #[124, 124] }] 9)) (Post b tb to tc T d D (w.alloc (.cells #[Value.string { data := #[124, 124] }] 9)) ((chainP p [[124, 124]] N) d ts))) :=
    Lib.hid (chain_r (h.carry (below_alloc w _)) (fn_of hp (by intro args w; simp [go_sem])) hg (S := [[124, 124]]) (show SRow _ _ _ from heap_alloc_new w _) (by omega) 1 1 rfl (by decide) N hN)
  have HF : Hid (Fr b w (w.alloc (.cells #[Value.string { data := #[124, 124] }] 9))) := Lib.hid (Fr.only (Onl.below (below_alloc _ _)) (by omega))
  clear h
  go_enter Try.func10, Try.ntmps10
  go_wp2_with fail
  refine H.out.mono ?_
  rintro e w1 ⟨rfl, hw⟩
  replace hw := Lib.hid hw
  go_wp2_with fail
  go_ret
  exact ⟨rfl, hw.out.back HF.out⟩

theorem and_does {n : Nat} {p : Pt} (hp : Does 27 n p) (hg : Gd 0 p) (N : Nat) (hN : n ≤ N) : Does 16 n (chainP p [[38, 38]] N) := by
  intro w b tb to tc T at_ d v D ts h
  have hbl := h.rd.lt
  have H : Hid (Calls Try.prog 15 #[pR b, .func (.func 27) #[] #[], .slice (some ⟨w.heap.size, 0, none⟩) 1 1] (w.alloc (.cells #[Value.string { data := #[38, 38] }] 9)) (Post b tb to tc T d D (w.alloc (.cells #[Value.string { data := #[38, 38] }] 9)) ((chainP p [[38, 38]] N) d ts))) :=
    Lib.hid (chain_r (h.carry (below_alloc w _)) (fn_of hp (by intro args w; simp [go_sem])) hg (S := [[38, 38]]) (show SRow _ _ _ from heap_alloc_new w _) (by omega) 1 1 rfl (by decide) N hN)
  have HF : Hid (Fr b w (w.alloc (.cells #[Value.string { data := #[38, 38] }] 9))) := Lib.hid (Fr.only (Onl.below (below_alloc _ _)) (by omega))
  clear h
  go_enter Try.func16, Try.ntmps16
  go_wp2_with fail
  refine H.out.mono ?_
  rintro e w1 ⟨rfl, hw⟩
  replace hw := Lib.hid hw
  go_wp2_with fail
  go_ret
  exact ⟨rfl, hw.out.back HF.out⟩

theorem equal_does {n : Nat} {p : Pt} (hp : Does 42 n p) (hg : Gd 0 p) : Does 27 n (pairP p [[61, 61], [33, 61]]) := by
  intro w b tb to tc T at_ d v D ts h
  have hbl := h.rd.lt
  have H : Hid (Calls Try.prog 41 #[pR b, .func (.func 42) #[] #[], .slice (some ⟨w.heap.size, 0, none⟩) 2 2] (w.alloc (.cells #[Value.string { data := #[61, 61] }, Value.string { data := #[33, 61] }] 9)) (Post b tb to tc T d D (w.alloc (.cells #[Value.string { data := #[61, 61] }, Value.string { data := #[33, 61] }] 9)) ((pairP p [[61, 61], [33, 61]]) d ts))) :=
    Lib.hid (pair_r (h.carry (below_alloc w _)) (fn_of hp (by intro args w; simp [go_sem])) hg (S := [[61, 61], [33, 61]]) (show SRow _ _ _ from heap_alloc_new w _) (by omega) 2 2 rfl (by decide))
  have HF : Hid (Fr b w (w.alloc (.cells #[Value.string { data := #[61, 61] }, Value.string { data := #[33, 61] }] 9))) := Lib.hid (Fr.only (Onl.below (below_alloc _ _)) (by omega))
  clear h
  go_enter Try.func27, Try.ntmps27
  go_wp2_with fail
  refine H.out.mono ?_
  rintro e w1 ⟨rfl, hw⟩
  replace hw := Lib.hid hw
  go_wp2_with fail
  go_ret
  exact ⟨rfl, hw.out.back HF.out⟩

theorem less_does {n : Nat} {p : Pt} (hp : Does 58 n p) (hg : Gd 0 p) : Does 42 n (pairP p [[60], [60, 61], [62], [62, 61]]) := by
  intro w b tb to tc T at_ d v D ts h
  have hbl := h.rd.lt
  have H : Hid (Calls Try.prog 41 #[pR b, .func (.func 58) #[] #[], .slice (some ⟨w.heap.size, 0, none⟩) 4 4] (w.alloc (.cells #[Value.string { data := #[60] }, Value.string { data := #[60, 61] }, Value.string { data := #[62] }, Value.string { data := #[62, 61] }] 9)) (Post b tb to tc T d D (w.alloc (.cells #[Value.string { data := #[60] }, Value.string { data := #[60, 61] }, Value.string { data := #[62] }, Value.string { data := #[62, 61] }] 9)) ((pairP p [[60], [60, 61], [62], [62, 61]]) d ts))) :=
    Lib.hid (pair_r (h.carry (below_alloc w _)) (fn_of hp (by intro args w; simp [go_sem])) hg (S := [[60], [60, 61], [62], [62, 61]]) (show SRow _ _ _ from heap_alloc_new w _) (by omega) 4 4 rfl (by decide))
  have HF : Hid (Fr b w (w.alloc (.cells #[Value.string { data := #[60] }, Value.string { data := #[60, 61] }, Value.string { data := #[62] }, Value.string { data := #[62, 61] }] 9))) := Lib.hid (Fr.only (Onl.below (below_alloc _ _)) (by omega))
  clear h
  go_enter Try.func42, Try.ntmps42
  go_wp2_with fail
  refine H.out.mono ?_
  rintro e w1 ⟨rfl, hw⟩
  replace hw := Lib.hid hw
  go_wp2_with fail
  go_ret
  exact ⟨rfl, hw.out.back HF.out⟩

theorem sum_does {n : Nat} {p : Pt} (hp : Does 72 n p) (hg : Gd 0 p) (N : Nat) (hN : n ≤ N) : Does 58 n (chainP p [[43], [45]] N) := by
  intro w b tb to tc T at_ d v D ts h
  have hbl := h.rd.lt
  have H : Hid (Calls Try.prog 15 #[pR b, .func (.func 72) #[] #[], .slice (some ⟨w.heap.size, 0, none⟩) 2 2] (w.alloc (.cells #[Value.string { data := #[43] }, Value.string { data := #[45] }] 9)) (Post b tb to tc T d D (w.alloc (.cells #[Value.string { data := #[43] }, Value.string { data := #[45] }] 9)) ((chainP p [[43], [45]] N) d ts))) :=
    Lib.hid (chain_r (h.carry (below_alloc w _)) (fn_of hp (by intro args w; simp [go_sem])) hg (S := [[43], [45]]) (show SRow _ _ _ from heap_alloc_new w _) (by omega) 2 2 rfl (by decide) N hN)
  have HF : Hid (Fr b w (w.alloc (.cells #[Value.string { data := #[43] }, Value.string { data := #[45] }] 9))) := Lib.hid (Fr.only (Onl.below (below_alloc _ _)) (by omega))
  clear h
  go_enter Try.func58, Try.ntmps58
  go_wp2_with fail
  refine H.out.mono ?_
  rintro e w1 ⟨rfl, hw⟩
  replace hw := Lib.hid hw
  go_wp2_with fail
  go_ret
  exact ⟨rfl, hw.out.back HF.out⟩

theorem term_does {n : Nat} {p : Pt} (hp : Does 81 n p) (hg : Gd 0 p) (N : Nat) (hN : n ≤ N) : Does 72 n (chainP p [[42], [47], [37]] N) := by
  intro w b tb to tc T at_ d v D ts h
  have hbl := h.rd.lt
  have H : Hid (Calls Try.prog 15 #[pR b, .func (.func 81) #[] #[], .slice (some ⟨w.heap.size, 0, none⟩) 3 3] (w.alloc (.cells #[Value.string { data := #[42] }, Value.string { data := #[47] }, Value.string { data := #[37] }] 9)) (Post b tb to tc T d D (w.alloc (.cells #[Value.string { data := #[42] }, Value.string { data := #[47] }, Value.string { data := #[37] }] 9)) ((chainP p [[42], [47], [37]] N) d ts))) :=
    Lib.hid (chain_r (h.carry (below_alloc w _)) (fn_of hp (by intro args w; simp [go_sem])) hg (S := [[42], [47], [37]]) (show SRow _ _ _ from heap_alloc_new w _) (by omega) 3 3 rfl (by decide) N hN)
  have HF : Hid (Fr b w (w.alloc (.cells #[Value.string { data := #[42] }, Value.string { data := #[47] }, Value.string { data := #[37] }] 9))) := Lib.hid (Fr.only (Onl.below (below_alloc _ _)) (by omega))
  clear h
  go_enter Try.func72, Try.ntmps72
  go_wp2_with fail
  refine H.out.mono ?_
  rintro e w1 ⟨rfl, hw⟩
  replace hw := Lib.hid hw
  go_wp2_with fail
  go_ret
  exact ⟨rfl, hw.out.back HF.out⟩

theorem fields_does {n : Nat} {p : Pt} (hp : Does 62 n p) (hg : Gd 0 p) (h1 : ∀ d ts F r, p d ts = .ok F r → 1 ≤ F.cnt) (N : Nat) (hN : n ≤ N) : Does 46 n (untilP [125] p N) := by
  intro w b tb to tc T at_ d v D ts h
  have H := Lib.hid (until_r h { data := #[125] } [125] (by rw [ByteArray.toList_eq]) (fn_of hp (by intro args w; simp [go_sem])) hg h1 N hN)
  clear h
  go_enter Try.func46, Try.ntmps46
  go_wp2_with fail
  refine H.out.mono ?_
  rintro e w1 ⟨rfl, hw⟩
  replace hw := Lib.hid hw
  go_wp2_with fail
  go_ret
  exact ⟨rfl, hw.out⟩

theorem statements_does {n : Nat} {p : Pt} (hp : Does 77 n p) (hg : Gd 0 p) (h1 : ∀ d ts F r, p d ts = .ok F r → 1 ≤ F.cnt) (N : Nat) (hN : n ≤ N) : Does 66 n (untilP [125] p N) := by
  intro w b tb to tc T at_ d v D ts h
  have H := Lib.hid (until_r h { data := #[125] } [125] (by rw [ByteArray.toList_eq]) (fn_of hp (by intro args w; simp [go_sem])) hg h1 N hN)
  clear h
  go_enter Try.func66, Try.ntmps66
  go_wp2_with fail
  refine H.out.mono ?_
  rintro e w1 ⟨rfl, hw⟩
  replace hw := Lib.hid hw
  go_wp2_with fail
  go_ret
  exact ⟨rfl, hw.out⟩

theorem parameters_does {n : Nat} {p : Pt} (hp : Does 64 n p) (hg : Gd 0 p) (N : Nat) (hN : n ≤ N) : Does 48 n (listedP p N) := by
  intro w b tb to tc T at_ d v D ts h
  have H := Lib.hid (listed_r h (fn_of hp (by intro args w; simp [go_sem])) hg N hN)
  clear h
  go_enter Try.func48, Try.ntmps48
  go_wp2_with fail
  refine H.out.mono ?_
  rintro e w1 ⟨rfl, hw⟩
  replace hw := Lib.hid hw
  go_wp2_with fail
  go_ret
  exact ⟨rfl, hw.out⟩

theorem arguments_does {n : Nat} {p : Pt} (hp : Does 10 n p) (hg : Gd 0 p) (N : Nat) (hN : n ≤ N) : Does 97 n (listedP p N) := by
  intro w b tb to tc T at_ d v D ts h
  have H := Lib.hid (listed_r h (fn_of hp (by intro args w; simp [go_sem])) hg N hN)
  clear h
  go_enter Try.func97, Try.ntmps97
  go_wp2_with fail
  refine H.out.mono ?_
  rintro e w1 ⟨rfl, hw⟩
  replace hw := Lib.hid hw
  go_wp2_with fail
  go_ret
  exact ⟨rfl, hw.out⟩

set_option maxHeartbeats 1000000 in
theorem listType_r {w : World} {b tb to tc : Nat} {T : List Tok} {at_ d : Nat} {v : Value} {D : List Nd} {n : Nat} {ts : List Tok} (h : Sit w b tb to tc T at_ d v D n ts) {p : Pt} (hp : Does 65 (n - 1) p) (hg : Gd 0 p) : Calls Try.prog 75 #[pR b] w (Post b tb to tc T d D w (listTypeP p d ts)) := by
  have hbl := h.rd.lt
  obtain ⟨⟨kd, ln, cl, nm, tx⟩, ht⟩ : ∃ t, hd ts = t := ⟨_, rfl⟩
  obtain ⟨a, cap, hv⟩ := own_slice h.rd.own
  obtain ⟨X, hX⟩ : ∃ X, bs tx = X := ⟨_, rfl⟩
  obtain ⟨dn, hdn⟩ : ∃ dn, D.length = dn := ⟨_, rfl⟩
  have HH : Hid (Calls Try.prog 43 #[pR b] w fun e w' => e = .returned (sV kd ln cl nm X dn) ∧ Below w.heap.size w w') := Lib.hid (by have := here_any h ht dn hdn a cap (by rw [hv, hdn]); rw [hX] at this; exact this)
  cases e1 : (withinP [91] [93] p) d ts with
  | bad c l k =>
    rw [show (listTypeP p) d ts = .bad c l k by simp only [listTypeP, nodeP, Out.bind, e1]]
    replace e1 := Lib.hid e1
    have hs := Lib.hid h
    replace ht := Lib.hid ht
    replace hX := Lib.hid hX
    replace hdn := Lib.hid hdn
    replace hv := Lib.hid hv
    clear h
    go_enter Try.func75, Try.ntmps75
    go_wp2_with fail
    refine HH.out.mono ?_
    rintro e w1 ⟨rfl, hb⟩
    have hbl1 := (hs.out.rd.carry hb).lt
    replace hb := Lib.hid hb
    go_wp2_with fail
    obtain ⟨W, hW⟩ : ∃ W, W = w1.alloc (.cells #[.int .u8 kd, .int .i64 ln, .int .i64 cl, .int .i64 nm, .string X, .int .i64 dn] 50) := ⟨_, rfl⟩
    rw [← hW]
    have HS0 : Hid (Sit W b tb to tc T at_ d v D n ts) := Lib.hid (by rw [hW]; exact (hs.out.carry hb.out).carry (below_alloc _ _))
    have HF0 : Hid (Fr b w W) := Lib.hid (by rw [hW]; exact (Fr.only (Onl.below hb.out) (by omega)).trans (Fr.only (Onl.below (below_alloc _ _)) (by omega)))
    have HM0 : Hid (SAt W w1.heap.size kd ln cl nm X dn) := Lib.hid (by rw [hW]; exact SAt.made w1 kd ln cl nm X dn)
    clear hW
    have HC1 := Lib.hid (badOf (within_r (HS0.out) { data := #[91] } { data := #[93] } [91] [93] (by rw [ByteArray.toList_eq]) (by rw [ByteArray.toList_eq]) (fn_of hp (by intro args w; simp [go_sem])) hg) e1.out)
    refine HC1.out.mono ?_
    rintro e w2 ⟨rfl, rf, fr⟩
    replace rf := Lib.hid rf
    replace fr := Lib.hid fr
    go_wp2_with fail
    go_ret
    exact ⟨rfl, rf.out, HF0.out.trans fr.out⟩
  | ok F1 r1 =>
    rw [show (listTypeP p) d ts = .ok (.cons (mkK 20 ts) (F1) .nil) r1 by simp only [listTypeP, nodeP, Out.bind, e1]]
    replace e1 := Lib.hid e1
    have hs := Lib.hid h
    replace ht := Lib.hid ht
    replace hX := Lib.hid hX
    replace hdn := Lib.hid hdn
    replace hv := Lib.hid hv
    clear h
    go_enter Try.func75, Try.ntmps75
    go_wp2_with fail
    refine HH.out.mono ?_
    rintro e w1 ⟨rfl, hb⟩
    have hbl1 := (hs.out.rd.carry hb).lt
    replace hb := Lib.hid hb
    go_wp2_with fail
    obtain ⟨W, hW⟩ : ∃ W, W = w1.alloc (.cells #[.int .u8 kd, .int .i64 ln, .int .i64 cl, .int .i64 nm, .string X, .int .i64 dn] 50) := ⟨_, rfl⟩
    rw [← hW]
    have HS0 : Hid (Sit W b tb to tc T at_ d v D n ts) := Lib.hid (by rw [hW]; exact (hs.out.carry hb.out).carry (below_alloc _ _))
    have HF0 : Hid (Fr b w W) := Lib.hid (by rw [hW]; exact (Fr.only (Onl.below hb.out) (by omega)).trans (Fr.only (Onl.below (below_alloc _ _)) (by omega)))
    have HM0 : Hid (SAt W w1.heap.size kd ln cl nm X dn) := Lib.hid (by rw [hW]; exact SAt.made w1 kd ln cl nm X dn)
    clear hW
    have HC1 := Lib.hid (okOf (within_r (HS0.out) { data := #[91] } { data := #[93] } [91] [93] (by rw [ByteArray.toList_eq]) (by rw [ByteArray.toList_eq]) (fn_of hp (by intro args w; simp [go_sem])) hg) e1.out)
    refine HC1.out.mono ?_
    rintro e w2 ⟨rfl, ⟨at1, v1, dr, rd⟩, fr⟩
    have HS1 := Lib.hid (HS0.out.then (s := 2) (gd_within (o := [91]) (c := [93]) hg d ts F1 r1 e1.out) dr rd)
    have HF1 := Lib.hid (HF0.out.trans fr)
    have HM1 := Lib.hid (HM0.out.fr fr (by omega))
    clear dr rd fr
    obtain ⟨m0, m1, m2, m3, m4, m5⟩ := HM1.out.at
    go_wp2_with fail
    have HA := Lib.hid (add_any HS1.out.rd kd ln cl dn nm X 20 0 0 0 0 { data := #[] } (F1).cnt (by have := hdn.out; simp [post_len, cnt_app, Fo.cnt]; omega) (by have := HS1.out.rm; omega))
    refine HA.out.mono ?_
    rintro e wa ⟨rfl, ⟨va, rda⟩, fra⟩
    replace rda := Lib.hid rda
    replace fra := Lib.hid fra
    go_wp2_with fail
    go_ret
    exact ⟨rfl, ⟨at1, va, HS1.out.dr, rd_node rda.out (by simp [post_app, Fo.post, List.append_assoc]) (by simp [mkK, mkX, mkY, mkN, Inf.nd, ht.out]; try rfl)⟩, HF1.out.trans fra.out⟩

set_option maxHeartbeats 1000000 in
theorem block_r {w : World} {b tb to tc : Nat} {T : List Tok} {at_ d : Nat} {v : Value} {D : List Nd} {n : Nat} {ts : List Tok} (h : Sit w b tb to tc T at_ d v D n ts) {S : Pt} {N : Nat} (hp : Does 66 (n - 1) (untilP [125] S N)) (hg : Gd 0 S) : Calls Try.prog 51 #[pR b] w (Post b tb to tc T d D w (blockOf S N d ts)) := by
  have hbl := h.rd.lt
  obtain ⟨⟨kd, ln, cl, nm, tx⟩, ht⟩ : ∃ t, hd ts = t := ⟨_, rfl⟩
  obtain ⟨a, cap, hv⟩ := own_slice h.rd.own
  obtain ⟨X, hX⟩ : ∃ X, bs tx = X := ⟨_, rfl⟩
  obtain ⟨dn, hdn⟩ : ∃ dn, D.length = dn := ⟨_, rfl⟩
  have HH : Hid (Calls Try.prog 43 #[pR b] w fun e w' => e = .returned (sV kd ln cl nm X dn) ∧ Below w.heap.size w w') := Lib.hid (by have := here_any h ht dn hdn a cap (by rw [hv, hdn]); rw [hX] at this; exact this)
  cases e1 : (withinP [123] [125] (untilP [125] S N)) d ts with
  | bad c l k =>
    rw [show (blockOf S N) d ts = .bad c l k by simp only [blockOf, nodeP, Out.bind, e1]]
    replace e1 := Lib.hid e1
    have hs := Lib.hid h
    replace ht := Lib.hid ht
    replace hX := Lib.hid hX
    replace hdn := Lib.hid hdn
    replace hv := Lib.hid hv
    clear h
    go_enter Try.func51, Try.ntmps51
    go_wp2_with fail
    refine HH.out.mono ?_
    rintro e w1 ⟨rfl, hb⟩
    have hbl1 := (hs.out.rd.carry hb).lt
    replace hb := Lib.hid hb
    go_wp2_with fail
    obtain ⟨W, hW⟩ : ∃ W, W = w1.alloc (.cells #[.int .u8 kd, .int .i64 ln, .int .i64 cl, .int .i64 nm, .string X, .int .i64 dn] 50) := ⟨_, rfl⟩
    rw [← hW]
    have HS0 : Hid (Sit W b tb to tc T at_ d v D n ts) := Lib.hid (by rw [hW]; exact (hs.out.carry hb.out).carry (below_alloc _ _))
    have HF0 : Hid (Fr b w W) := Lib.hid (by rw [hW]; exact (Fr.only (Onl.below hb.out) (by omega)).trans (Fr.only (Onl.below (below_alloc _ _)) (by omega)))
    have HM0 : Hid (SAt W w1.heap.size kd ln cl nm X dn) := Lib.hid (by rw [hW]; exact SAt.made w1 kd ln cl nm X dn)
    clear hW
    have HC1 := Lib.hid (badOf (within_r (HS0.out) { data := #[123] } { data := #[125] } [123] [125] (by rw [ByteArray.toList_eq]) (by rw [ByteArray.toList_eq]) (fn_of hp (by intro args w; simp [go_sem])) (gd_until hg N)) e1.out)
    refine HC1.out.mono ?_
    rintro e w2 ⟨rfl, rf, fr⟩
    replace rf := Lib.hid rf
    replace fr := Lib.hid fr
    go_wp2_with fail
    go_ret
    exact ⟨rfl, rf.out, HF0.out.trans fr.out⟩
  | ok F1 r1 =>
    rw [show (blockOf S N) d ts = .ok (.cons (mkK 6 ts) (F1) .nil) r1 by simp only [blockOf, nodeP, Out.bind, e1]]
    replace e1 := Lib.hid e1
    have hs := Lib.hid h
    replace ht := Lib.hid ht
    replace hX := Lib.hid hX
    replace hdn := Lib.hid hdn
    replace hv := Lib.hid hv
    clear h
    go_enter Try.func51, Try.ntmps51
    go_wp2_with fail
    refine HH.out.mono ?_
    rintro e w1 ⟨rfl, hb⟩
    have hbl1 := (hs.out.rd.carry hb).lt
    replace hb := Lib.hid hb
    go_wp2_with fail
    obtain ⟨W, hW⟩ : ∃ W, W = w1.alloc (.cells #[.int .u8 kd, .int .i64 ln, .int .i64 cl, .int .i64 nm, .string X, .int .i64 dn] 50) := ⟨_, rfl⟩
    rw [← hW]
    have HS0 : Hid (Sit W b tb to tc T at_ d v D n ts) := Lib.hid (by rw [hW]; exact (hs.out.carry hb.out).carry (below_alloc _ _))
    have HF0 : Hid (Fr b w W) := Lib.hid (by rw [hW]; exact (Fr.only (Onl.below hb.out) (by omega)).trans (Fr.only (Onl.below (below_alloc _ _)) (by omega)))
    have HM0 : Hid (SAt W w1.heap.size kd ln cl nm X dn) := Lib.hid (by rw [hW]; exact SAt.made w1 kd ln cl nm X dn)
    clear hW
    have HC1 := Lib.hid (okOf (within_r (HS0.out) { data := #[123] } { data := #[125] } [123] [125] (by rw [ByteArray.toList_eq]) (by rw [ByteArray.toList_eq]) (fn_of hp (by intro args w; simp [go_sem])) (gd_until hg N)) e1.out)
    refine HC1.out.mono ?_
    rintro e w2 ⟨rfl, ⟨at1, v1, dr, rd⟩, fr⟩
    have HS1 := Lib.hid (HS0.out.then (s := 2) (gd_within (o := [123]) (c := [125]) (gd_until hg N) d ts F1 r1 e1.out) dr rd)
    have HF1 := Lib.hid (HF0.out.trans fr)
    have HM1 := Lib.hid (HM0.out.fr fr (by omega))
    clear dr rd fr
    obtain ⟨m0, m1, m2, m3, m4, m5⟩ := HM1.out.at
    go_wp2_with fail
    have HA := Lib.hid (add_any HS1.out.rd kd ln cl dn nm X 6 0 0 0 0 { data := #[] } (F1).cnt (by have := hdn.out; simp [post_len, cnt_app, Fo.cnt]; omega) (by have := HS1.out.rm; omega))
    refine HA.out.mono ?_
    rintro e wa ⟨rfl, ⟨va, rda⟩, fra⟩
    replace rda := Lib.hid rda
    replace fra := Lib.hid fra
    go_wp2_with fail
    go_ret
    exact ⟨rfl, ⟨at1, va, HS1.out.dr, rd_node rda.out (by simp [post_app, Fo.post, List.append_assoc]) (by simp [mkK, mkX, mkY, mkN, Inf.nd, ht.out]; try rfl)⟩, HF1.out.trans fra.out⟩

set_option maxHeartbeats 1000000 in
theorem typed_r {w : World} {b tb to tc : Nat} {T : List Tok} {at_ d : Nat} {v : Value} {D : List Nd} {n : Nat} {ts : List Tok} (h : Sit w b tb to tc T at_ d v D n ts) (kk : Nat) {m : Nat} (hp : Does 65 n (typeP m)) : Calls Try.prog 73 #[pR b, .int .u8 kk] w (Post b tb to tc T d D w (typedP kk m d ts)) := by
  have hbl := h.rd.lt
  obtain ⟨⟨kd, ln, cl, nm, tx⟩, ht⟩ : ∃ t, hd ts = t := ⟨_, rfl⟩
  obtain ⟨a, cap, hv⟩ := own_slice h.rd.own
  obtain ⟨X, hX⟩ : ∃ X, bs tx = X := ⟨_, rfl⟩
  obtain ⟨dn, hdn⟩ : ∃ dn, D.length = dn := ⟨_, rfl⟩
  have HH : Hid (Calls Try.prog 43 #[pR b] w fun e w' => e = .returned (sV kd ln cl nm X dn) ∧ Below w.heap.size w w') := Lib.hid (by have := here_any h ht dn hdn a cap (by rw [hv, hdn]); rw [hX] at this; exact this)
  cases e1 : (kindP 1) d ts with
  | bad c l k =>
    rw [show (typedP kk m) d ts = .bad c l k by simp only [typedP, nodeP, seqAll, seqP, nothingP, Out.bind, e1]]
    replace e1 := Lib.hid e1
    have hs := Lib.hid h
    replace ht := Lib.hid ht
    replace hX := Lib.hid hX
    replace hdn := Lib.hid hdn
    replace hv := Lib.hid hv
    clear h
    go_enter Try.func73, Try.ntmps73
    go_wp2_with fail
    refine HH.out.mono ?_
    rintro e w1 ⟨rfl, hb⟩
    have hbl1 := (hs.out.rd.carry hb).lt
    replace hb := Lib.hid hb
    go_wp2_with fail
    obtain ⟨W, hW⟩ : ∃ W, W = w1.alloc (.cells #[.int .u8 kd, .int .i64 ln, .int .i64 cl, .int .i64 nm, .string X, .int .i64 dn] 50) := ⟨_, rfl⟩
    rw [← hW]
    have HS0 : Hid (Sit W b tb to tc T at_ d v D n ts) := Lib.hid (by rw [hW]; exact (hs.out.carry hb.out).carry (below_alloc _ _))
    have HF0 : Hid (Fr b w W) := Lib.hid (by rw [hW]; exact (Fr.only (Onl.below hb.out) (by omega)).trans (Fr.only (Onl.below (below_alloc _ _)) (by omega)))
    have HM0 : Hid (SAt W w1.heap.size kd ln cl nm X dn) := Lib.hid (by rw [hW]; exact SAt.made w1 kd ln cl nm X dn)
    clear hW
    have HC1 := Lib.hid (badOf (kind_any HS0.out 1 (by decide)) e1.out)
    refine HC1.out.mono ?_
    rintro e w2 ⟨rfl, rf, fr⟩
    replace rf := Lib.hid rf
    replace fr := Lib.hid fr
    go_wp2_with fail
    go_ret
    exact ⟨rfl, rf.out, HF0.out.trans fr.out⟩
  | ok F1 r1 =>
    cases e2 : (take [58]) d r1 with
    | bad c l k =>
      rw [show (typedP kk m) d ts = .bad c l k by simp only [typedP, nodeP, seqAll, seqP, nothingP, Out.bind, e1, e2]]
      replace e1 := Lib.hid e1
      replace e2 := Lib.hid e2
      have hs := Lib.hid h
      replace ht := Lib.hid ht
      replace hX := Lib.hid hX
      replace hdn := Lib.hid hdn
      replace hv := Lib.hid hv
      clear h
      go_enter Try.func73, Try.ntmps73
      go_wp2_with fail
      refine HH.out.mono ?_
      rintro e w1 ⟨rfl, hb⟩
      have hbl1 := (hs.out.rd.carry hb).lt
      replace hb := Lib.hid hb
      go_wp2_with fail
      obtain ⟨W, hW⟩ : ∃ W, W = w1.alloc (.cells #[.int .u8 kd, .int .i64 ln, .int .i64 cl, .int .i64 nm, .string X, .int .i64 dn] 50) := ⟨_, rfl⟩
      rw [← hW]
      have HS0 : Hid (Sit W b tb to tc T at_ d v D n ts) := Lib.hid (by rw [hW]; exact (hs.out.carry hb.out).carry (below_alloc _ _))
      have HF0 : Hid (Fr b w W) := Lib.hid (by rw [hW]; exact (Fr.only (Onl.below hb.out) (by omega)).trans (Fr.only (Onl.below (below_alloc _ _)) (by omega)))
      have HM0 : Hid (SAt W w1.heap.size kd ln cl nm X dn) := Lib.hid (by rw [hW]; exact SAt.made w1 kd ln cl nm X dn)
      clear hW
      have HC1 := Lib.hid (okOf (kind_any HS0.out 1 (by decide)) e1.out)
      refine HC1.out.mono ?_
      rintro e w2 ⟨rfl, ⟨at1, v1, dr, rd⟩, fr⟩
      have HS1 := Lib.hid (HS0.out.then (s := 1) (gd_kind 1 (by decide) (by decide) d ts F1 r1 e1.out) dr rd)
      have HF1 := Lib.hid (HF0.out.trans fr)
      have HM1 := Lib.hid (HM0.out.fr fr (by omega))
      clear dr rd fr
      go_wp2_with fail
      have HC2 := Lib.hid (badOf (take_any HS1.out { data := #[58] } [58] (by rw [ByteArray.toList_eq])) e2.out)
      refine HC2.out.mono ?_
      rintro e w3 ⟨rfl, rf, fr⟩
      replace rf := Lib.hid rf
      replace fr := Lib.hid fr
      go_wp2_with fail
      go_ret
      exact ⟨rfl, rf.out, HF1.out.trans fr.out⟩
    | ok F2 r2 =>
      cases e3 : (typeP m) d r2 with
      | bad c l k =>
        rw [show (typedP kk m) d ts = .bad c l k by simp only [typedP, nodeP, seqAll, seqP, nothingP, Out.bind, e1, e2, e3]]
        replace e1 := Lib.hid e1
        replace e2 := Lib.hid e2
        replace e3 := Lib.hid e3
        have hs := Lib.hid h
        replace ht := Lib.hid ht
        replace hX := Lib.hid hX
        replace hdn := Lib.hid hdn
        replace hv := Lib.hid hv
        clear h
        go_enter Try.func73, Try.ntmps73
        go_wp2_with fail
        refine HH.out.mono ?_
        rintro e w1 ⟨rfl, hb⟩
        have hbl1 := (hs.out.rd.carry hb).lt
        replace hb := Lib.hid hb
        go_wp2_with fail
        obtain ⟨W, hW⟩ : ∃ W, W = w1.alloc (.cells #[.int .u8 kd, .int .i64 ln, .int .i64 cl, .int .i64 nm, .string X, .int .i64 dn] 50) := ⟨_, rfl⟩
        rw [← hW]
        have HS0 : Hid (Sit W b tb to tc T at_ d v D n ts) := Lib.hid (by rw [hW]; exact (hs.out.carry hb.out).carry (below_alloc _ _))
        have HF0 : Hid (Fr b w W) := Lib.hid (by rw [hW]; exact (Fr.only (Onl.below hb.out) (by omega)).trans (Fr.only (Onl.below (below_alloc _ _)) (by omega)))
        have HM0 : Hid (SAt W w1.heap.size kd ln cl nm X dn) := Lib.hid (by rw [hW]; exact SAt.made w1 kd ln cl nm X dn)
        clear hW
        have HC1 := Lib.hid (okOf (kind_any HS0.out 1 (by decide)) e1.out)
        refine HC1.out.mono ?_
        rintro e w2 ⟨rfl, ⟨at1, v1, dr, rd⟩, fr⟩
        have HS1 := Lib.hid (HS0.out.then (s := 1) (gd_kind 1 (by decide) (by decide) d ts F1 r1 e1.out) dr rd)
        have HF1 := Lib.hid (HF0.out.trans fr)
        have HM1 := Lib.hid (HM0.out.fr fr (by omega))
        clear dr rd fr
        go_wp2_with fail
        have HC2 := Lib.hid (okOf (take_any HS1.out { data := #[58] } [58] (by rw [ByteArray.toList_eq])) e2.out)
        refine HC2.out.mono ?_
        rintro e w3 ⟨rfl, ⟨at2, v2, dr, rd⟩, fr⟩
        have HS2 := Lib.hid (HS1.out.then (s := 1) (gd_take [58] d r1 F2 r2 e2.out) dr rd)
        have HF2 := Lib.hid (HF1.out.trans fr)
        have HM2 := Lib.hid (HM1.out.fr fr (by omega))
        clear dr rd fr
        go_wp2_with fail
        have HC3 := Lib.hid (badOf (hp (HS2.out.up (by omega))) e3.out)
        refine HC3.out.mono ?_
        rintro e w4 ⟨rfl, rf, fr⟩
        replace rf := Lib.hid rf
        replace fr := Lib.hid fr
        go_wp2_with fail
        go_ret
        exact ⟨rfl, rf.out, HF2.out.trans fr.out⟩
      | ok F3 r3 =>
        rw [show (typedP kk m) d ts = .ok (.cons (mkX kk ts) (F1.app (F2.app (F3.app .nil))) .nil) r3 by simp only [typedP, nodeP, seqAll, seqP, nothingP, Out.bind, e1, e2, e3]]
        replace e1 := Lib.hid e1
        replace e2 := Lib.hid e2
        replace e3 := Lib.hid e3
        have hs := Lib.hid h
        replace ht := Lib.hid ht
        replace hX := Lib.hid hX
        replace hdn := Lib.hid hdn
        replace hv := Lib.hid hv
        clear h
        go_enter Try.func73, Try.ntmps73
        go_wp2_with fail
        refine HH.out.mono ?_
        rintro e w1 ⟨rfl, hb⟩
        have hbl1 := (hs.out.rd.carry hb).lt
        replace hb := Lib.hid hb
        go_wp2_with fail
        obtain ⟨W, hW⟩ : ∃ W, W = w1.alloc (.cells #[.int .u8 kd, .int .i64 ln, .int .i64 cl, .int .i64 nm, .string X, .int .i64 dn] 50) := ⟨_, rfl⟩
        rw [← hW]
        have HS0 : Hid (Sit W b tb to tc T at_ d v D n ts) := Lib.hid (by rw [hW]; exact (hs.out.carry hb.out).carry (below_alloc _ _))
        have HF0 : Hid (Fr b w W) := Lib.hid (by rw [hW]; exact (Fr.only (Onl.below hb.out) (by omega)).trans (Fr.only (Onl.below (below_alloc _ _)) (by omega)))
        have HM0 : Hid (SAt W w1.heap.size kd ln cl nm X dn) := Lib.hid (by rw [hW]; exact SAt.made w1 kd ln cl nm X dn)
        clear hW
        have HC1 := Lib.hid (okOf (kind_any HS0.out 1 (by decide)) e1.out)
        refine HC1.out.mono ?_
        rintro e w2 ⟨rfl, ⟨at1, v1, dr, rd⟩, fr⟩
        have HS1 := Lib.hid (HS0.out.then (s := 1) (gd_kind 1 (by decide) (by decide) d ts F1 r1 e1.out) dr rd)
        have HF1 := Lib.hid (HF0.out.trans fr)
        have HM1 := Lib.hid (HM0.out.fr fr (by omega))
        clear dr rd fr
        go_wp2_with fail
        have HC2 := Lib.hid (okOf (take_any HS1.out { data := #[58] } [58] (by rw [ByteArray.toList_eq])) e2.out)
        refine HC2.out.mono ?_
        rintro e w3 ⟨rfl, ⟨at2, v2, dr, rd⟩, fr⟩
        have HS2 := Lib.hid (HS1.out.then (s := 1) (gd_take [58] d r1 F2 r2 e2.out) dr rd)
        have HF2 := Lib.hid (HF1.out.trans fr)
        have HM2 := Lib.hid (HM1.out.fr fr (by omega))
        clear dr rd fr
        go_wp2_with fail
        have HC3 := Lib.hid (okOf (hp (HS2.out.up (by omega))) e3.out)
        refine HC3.out.mono ?_
        rintro e w4 ⟨rfl, ⟨at3, v3, dr, rd⟩, fr⟩
        have HS3 := Lib.hid (HS2.out.then (s := 0) (gd_type m d r2 F3 r3 e3.out) dr rd)
        have HF3 := Lib.hid (HF2.out.trans fr)
        have HM3 := Lib.hid (HM2.out.fr fr (by omega))
        clear dr rd fr
        obtain ⟨m0, m1, m2, m3, m4, m5⟩ := HM3.out.at
        go_wp2_with fail
        have HA := Lib.hid (add_any HS3.out.rd kd ln cl dn nm X kk 0 0 0 0 X (F1.app (F2.app (F3.app .nil))).cnt (by have := hdn.out; simp [post_len, cnt_app, Fo.cnt]; omega) (by have := HS3.out.rm; omega))
        refine HA.out.mono ?_
        rintro e wa ⟨rfl, ⟨va, rda⟩, fra⟩
        replace rda := Lib.hid rda
        replace fra := Lib.hid fra
        go_wp2_with fail
        go_ret
        exact ⟨rfl, ⟨at3, va, HS3.out.dr, rd_node rda.out (by simp [post_app, Fo.post, List.append_assoc]) (by simp [mkK, mkX, mkY, mkN, Inf.nd, ht.out, hX.out]; try rfl)⟩, HF3.out.trans fra.out⟩

set_option maxHeartbeats 1000000 in
theorem field_r {w : World} {b tb to tc : Nat} {T : List Tok} {at_ d : Nat} {v : Value} {D : List Nd} {n : Nat} {ts : List Tok} (h : Sit w b tb to tc T at_ d v D n ts) {m : Nat} (hp : ∀ {w : World} {b tb to tc : Nat} {T : List Tok} {at_ d : Nat} {v : Value} {D : List Nd} {ts : List Tok}, Sit w b tb to tc T at_ d v D n ts → Calls Try.prog 73 #[pR b, .int .u8 (3 : Nat)] w (Post b tb to tc T d D w (typedP 3 m d ts))) : Calls Try.prog 62 #[pR b] w (Post b tb to tc T d D w (fieldP m d ts)) := by
  have hbl := h.rd.lt
  cases e1 : (typedP 3 m) d ts with
  | bad c l k =>
    rw [show (fieldP m) d ts = .bad c l k by simp only [fieldP, seqP, Out.bind, e1]]
    replace e1 := Lib.hid e1
    have hs := Lib.hid h
    clear h
    go_enter Try.func62, Try.ntmps62
    go_wp2_with fail
    have HS0 := hs
    have HF0 : Hid (Fr b w w) := Lib.hid (Fr.refl _ _)
    have HC1 := Lib.hid (badOf (hp (HS0.out)) e1.out)
    refine HC1.out.mono ?_
    rintro e w2 ⟨rfl, rf, fr⟩
    replace rf := Lib.hid rf
    replace fr := Lib.hid fr
    go_wp2_with fail
    go_ret
    exact ⟨rfl, rf.out, HF0.out.trans fr.out⟩
  | ok F1 r1 =>
    cases e2 : (take [59]) d r1 with
    | bad c l k =>
      rw [show (fieldP m) d ts = .bad c l k by simp only [fieldP, seqP, Out.bind, e1, e2]]
      replace e1 := Lib.hid e1
      replace e2 := Lib.hid e2
      have hs := Lib.hid h
      clear h
      go_enter Try.func62, Try.ntmps62
      go_wp2_with fail
      have HS0 := hs
      have HF0 : Hid (Fr b w w) := Lib.hid (Fr.refl _ _)
      have HC1 := Lib.hid (okOf (hp (HS0.out)) e1.out)
      refine HC1.out.mono ?_
      rintro e w2 ⟨rfl, ⟨at1, v1, dr, rd⟩, fr⟩
      have HS1 := Lib.hid (HS0.out.then (s := 1) (gd_typed 3 m d ts F1 r1 e1.out) dr rd)
      have HF1 := Lib.hid (HF0.out.trans fr)
      clear dr rd fr
      go_wp2_with fail
      have HC2 := Lib.hid (badOf (semi_does _ HS1.out) e2.out)
      refine HC2.out.mono ?_
      rintro e w3 ⟨rfl, rf, fr⟩
      replace rf := Lib.hid rf
      replace fr := Lib.hid fr
      go_wp2_with fail
      go_ret
      exact ⟨rfl, rf.out, HF1.out.trans fr.out⟩
    | ok F2 r2 =>
      rw [show (fieldP m) d ts = .ok (F1.app F2) r2 by simp only [fieldP, seqP, Out.bind, e1, e2]]
      replace e1 := Lib.hid e1
      replace e2 := Lib.hid e2
      have hs := Lib.hid h
      clear h
      go_enter Try.func62, Try.ntmps62
      go_wp2_with fail
      have HS0 := hs
      have HF0 : Hid (Fr b w w) := Lib.hid (Fr.refl _ _)
      have HC1 := Lib.hid (okOf (hp (HS0.out)) e1.out)
      refine HC1.out.mono ?_
      rintro e w2 ⟨rfl, ⟨at1, v1, dr, rd⟩, fr⟩
      have HS1 := Lib.hid (HS0.out.then (s := 1) (gd_typed 3 m d ts F1 r1 e1.out) dr rd)
      have HF1 := Lib.hid (HF0.out.trans fr)
      clear dr rd fr
      go_wp2_with fail
      have HC2 := Lib.hid (okOf (semi_does _ HS1.out) e2.out)
      refine HC2.out.mono ?_
      rintro e w3 ⟨rfl, ⟨at2, v2, dr, rd⟩, fr⟩
      have HS2 := Lib.hid (HS1.out.then (s := 1) (gd_take [59] d r1 F2 r2 e2.out) dr rd)
      have HF2 := Lib.hid (HF1.out.trans fr)
      clear dr rd fr
      go_wp2_with fail
      go_ret
      exact ⟨rfl, ⟨at2, v2, HS2.out.dr, by have := HS2.out.rd; simpa [post_app, Fo.post, List.append_assoc] using this⟩, HF2.out⟩

end Go.Proofs.Ytbknflaooemigaa
