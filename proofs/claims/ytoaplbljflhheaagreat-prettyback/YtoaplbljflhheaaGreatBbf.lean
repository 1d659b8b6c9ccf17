/-
 Contracts and plain facts on the way to PrettyBack. Conditions: as each says.
-/
import Derived.Test.YtoaplbljflhheaaGreatBbb
set_option maxHeartbeats 40000000
set_option maxRecDepth 100000
set_option linter.unusedVariables false
set_option linter.unusedSimpArgs false
namespace Go.Proofs.YtoaplbljflhheaaGreat
open _root_.Go.Proofs.Tryz
section
section
open Go.RowKit Go.Sort
theorem J1 {f : FuncId} {args : Array Value} {w : World} {b tb to tc : Nat} {T : List Tok} {d : Nat} {D : List Nd} {o : Out} (H : Calls prog f args w (Fc b tb to tc T d D w o)) {F : Fo} {r : List Tok} (ho : o = .ok F r) :
  Calls prog f args w fun e w' => e = .returned (.bool true) ∧ (∃ at' v', T.drop at' = r ∧ Rd w' b tb to tc T at' d v' (D ++ F.post)) ∧ Fr b w w' := by
 subst ho; exact H
theorem D5 {f : FuncId} {args : Array Value} {w : World} {b tb to tc : Nat} {T : List Tok} {d : Nat} {D : List Nd} {o : Out} (H : Calls prog f args w (Fc b tb to tc T d D w o)) {c : Int} {l k : Nat} (ho : o = .bad c l k) :
  Calls prog f args w fun e w' => e = .returned (.bool false) ∧ Rf w' b c l k ∧ Fr b w w' := by
 subst ho; exact H
theorem Do {w : World} {b tb to tc : Nat} {T : List Tok} {at_ : Nat} {d : Int} {v : Value} {D D' : List Nd} {t : Nd} {i : Inf} {F : Fo} (h : Rd w b tb to tc T at_ d v (D' ++ [t])) (h1 : D' = D ++ F.post) (h2 : t = i.nd F.cnt) : Rd w b tb to tc T at_ d v (D ++ (Fo.cons i F .nil).post) := by
 subst h1 h2;simpa [Fo.post] using h
theorem Fe {f : FuncId} {n : Nat} {p : Pt} (h : Ef f n p) (eg : ∀ args w, (callFunc f args).run prog w = .ok (.enter f args) w) : Fn (.func (.func f) #[] #[]) n p := ⟨f, rfl, eg, h⟩
theorem b4h {n : Nat} {p : Pt} (hp : Ef 69 n p) (hg : Gd 0 p) (N : Nat) (hN : n <= N) : Ef 39 n (Dc p [[124, 124]] N) := by
 intro w b tb to tc T at_ d v D ts h;have hbl := h.rd.lt
 have H : Hid (Calls prog 68 #[pR b, .func (.func 69) #[] #[], .slice (some ⟨w.heap.size, 0, none⟩) 1 1] (w.alloc (.cells #[Value.string { data := #[124, 124] }] 9)) (Fc b tb to tc T d D (w.alloc (.cells #[Value.string { data := #[124, 124] }] 9)) ((Dc p [[124, 124]] N) d ts))) :=
  zz (Te (h.carry (Aa w _)) (Fe hp (by intro args w; simp [go_sem])) hg (S := [[124, 124]]) (show Rz _ _ _ from heap_alloc_new w _) (by omega) 1 1 rfl (by decide) N hN)
 have HF : Hid (Fr b w (w.alloc (.cells #[Value.string { data := #[124, 124] }] 9))) := zz (Fr.only (Onl.below (Aa _ _)) (by omega));clear h;go_enter func39, ntmps39;go_wp2_with fail;refine H.out.mono ?_;rintro e w1 ⟨rfl, hw⟩;replace hw := zz hw;go_wp2_with fail;go_ret;exact ⟨rfl, hw.out.back HF.out⟩
theorem b1p {n : Nat} {p : Pt} (hp : Ef 103 n p) (hg : Gd 0 p) (N : Nat) (hN : n <= N) : Ef 69 n (Dc p [[38, 38]] N) := by
 intro w b tb to tc T at_ d v D ts h;have hbl := h.rd.lt
 have H : Hid (Calls prog 68 #[pR b, .func (.func 103) #[] #[], .slice (some ⟨w.heap.size, 0, none⟩) 1 1] (w.alloc (.cells #[Value.string { data := #[38, 38] }] 9)) (Fc b tb to tc T d D (w.alloc (.cells #[Value.string { data := #[38, 38] }] 9)) ((Dc p [[38, 38]] N) d ts))) :=
  zz (Te (h.carry (Aa w _)) (Fe hp (by intro args w; simp [go_sem])) hg (S := [[38, 38]]) (show Rz _ _ _ from heap_alloc_new w _) (by omega) 1 1 rfl (by decide) N hN)
 have HF : Hid (Fr b w (w.alloc (.cells #[Value.string { data := #[38, 38] }] 9))) := zz (Fr.only (Onl.below (Aa _ _)) (by omega));clear h;go_enter func69, ntmps69;go_wp2_with fail;refine H.out.mono ?_;rintro e w1 ⟨rfl, hw⟩;replace hw := zz hw;go_wp2_with fail;go_ret;exact ⟨rfl, hw.out.back HF.out⟩
theorem a1f {n : Nat} {p : Pt} (hp : Ef 148 n p) (hg : Gd 0 p) : Ef 103 n (Ld p [[61, 61], [33, 61]]) := by
 intro w b tb to tc T at_ d v D ts h;have hbl := h.rd.lt
 have H : Hid (Calls prog 147 #[pR b, .func (.func 148) #[] #[], .slice (some ⟨w.heap.size, 0, none⟩) 2 2] (w.alloc (.cells #[Value.string { data := #[61, 61] }, Value.string { data := #[33, 61] }] 9)) (Fc b tb to tc T d D (w.alloc (.cells #[Value.string { data := #[61, 61] }, Value.string { data := #[33, 61] }] 9)) ((Ld p [[61, 61], [33, 61]]) d ts))) :=
  zz (b13 (h.carry (Aa w _)) (Fe hp (by intro args w; simp [go_sem])) hg (S := [[61, 61], [33, 61]]) (show Rz _ _ _ from heap_alloc_new w _) (by omega) 2 2 rfl (by decide))
 have HF : Hid (Fr b w (w.alloc (.cells #[Value.string { data := #[61, 61] }, Value.string { data := #[33, 61] }] 9))) := zz (Fr.only (Onl.below (Aa _ _)) (by omega));clear h;go_enter func103, ntmps103;go_wp2_with fail;refine H.out.mono ?_;rintro e w1 ⟨rfl, hw⟩;replace hw := zz hw;go_wp2_with fail;go_ret;exact ⟨rfl, hw.out.back HF.out⟩
theorem a4u {n : Nat} {p : Pt} (hp : Ef 181 n p) (hg : Gd 0 p) : Ef 148 n (Ld p [[60], [60, 61], [62], [62, 61]]) := by
 intro w b tb to tc T at_ d v D ts h;have hbl := h.rd.lt
 have H : Hid (Calls prog 147 #[pR b, .func (.func 181) #[] #[], .slice (some ⟨w.heap.size, 0, none⟩) 4 4] (w.alloc (.cells #[Value.string { data := #[60] }, Value.string { data := #[60, 61] }, Value.string { data := #[62] }, Value.string { data := #[62, 61] }] 9)) (Fc b tb to tc T d D (w.alloc (.cells #[Value.string { data := #[60] }, Value.string { data := #[60, 61] }, Value.string { data := #[62] }, Value.string { data := #[62, 61] }] 9)) ((Ld p [[60], [60, 61], [62], [62, 61]]) d ts))) :=
  zz (b13 (h.carry (Aa w _)) (Fe hp (by intro args w; simp [go_sem])) hg (S := [[60], [60, 61], [62], [62, 61]]) (show Rz _ _ _ from heap_alloc_new w _) (by omega) 4 4 rfl (by decide))
 have HF : Hid (Fr b w (w.alloc (.cells #[Value.string { data := #[60] }, Value.string { data := #[60, 61] }, Value.string { data := #[62] }, Value.string { data := #[62, 61] }] 9))) := zz (Fr.only (Onl.below (Aa _ _)) (by omega));clear h;go_enter func148, ntmps148;go_wp2_with fail;refine H.out.mono ?_;rintro e w1 ⟨rfl, hw⟩;replace hw := zz hw;go_wp2_with fail;go_ret;exact ⟨rfl, hw.out.back HF.out⟩
theorem a7t {n : Nat} {p : Pt} (hp : Ef 198 n p) (hg : Gd 0 p) (N : Nat) (hN : n <= N) : Ef 181 n (Dc p [[43], [45]] N) := by
 intro w b tb to tc T at_ d v D ts h;have hbl := h.rd.lt
 have H : Hid (Calls prog 68 #[pR b, .func (.func 198) #[] #[], .slice (some ⟨w.heap.size, 0, none⟩) 2 2] (w.alloc (.cells #[Value.string { data := #[43] }, Value.string { data := #[45] }] 9)) (Fc b tb to tc T d D (w.alloc (.cells #[Value.string { data := #[43] }, Value.string { data := #[45] }] 9)) ((Dc p [[43], [45]] N) d ts))) :=
  zz (Te (h.carry (Aa w _)) (Fe hp (by intro args w; simp [go_sem])) hg (S := [[43], [45]]) (show Rz _ _ _ from heap_alloc_new w _) (by omega) 2 2 rfl (by decide) N hN)
 have HF : Hid (Fr b w (w.alloc (.cells #[Value.string { data := #[43] }, Value.string { data := #[45] }] 9))) := zz (Fr.only (Onl.below (Aa _ _)) (by omega));clear h;go_enter func181, ntmps181;go_wp2_with fail;refine H.out.mono ?_;rintro e w1 ⟨rfl, hw⟩;replace hw := zz hw;go_wp2_with fail;go_ret;exact ⟨rfl, hw.out.back HF.out⟩
theorem a2f {n : Nat} {p : Pt} (hp : Ef 211 n p) (hg : Gd 0 p) (N : Nat) (hN : n <= N) : Ef 198 n (Dc p [[42], [47], [37]] N) := by
 intro w b tb to tc T at_ d v D ts h;have hbl := h.rd.lt
 have H : Hid (Calls prog 68 #[pR b, .func (.func 211) #[] #[], .slice (some ⟨w.heap.size, 0, none⟩) 3 3] (w.alloc (.cells #[Value.string { data := #[42] }, Value.string { data := #[47] }, Value.string { data := #[37] }] 9)) (Fc b tb to tc T d D (w.alloc (.cells #[Value.string { data := #[42] }, Value.string { data := #[47] }, Value.string { data := #[37] }] 9)) ((Dc p [[42], [47], [37]] N) d ts))) :=
  zz (Te (h.carry (Aa w _)) (Fe hp (by intro args w; simp [go_sem])) hg (S := [[42], [47], [37]]) (show Rz _ _ _ from heap_alloc_new w _) (by omega) 3 3 rfl (by decide) N hN)
 have HF : Hid (Fr b w (w.alloc (.cells #[Value.string { data := #[42] }, Value.string { data := #[47] }, Value.string { data := #[37] }] 9))) := zz (Fr.only (Onl.below (Aa _ _)) (by omega));clear h;go_enter func198, ntmps198;go_wp2_with fail;refine H.out.mono ?_;rintro e w1 ⟨rfl, hw⟩;replace hw := zz hw;go_wp2_with fail;go_ret;exact ⟨rfl, hw.out.back HF.out⟩
theorem P5 {n : Nat} {p : Pt} (hp : Ef 176 n p) (hg : Gd 0 p) (h1 : ∀ d ts F r, p d ts = .ok F r -> 1 <= F.cnt) (N : Nat) (hN : n <= N) : Ef 139 n (Cx [125] p N) := by
 intro w b tb to tc T at_ d v D ts h;have H := zz (a18 h { data := #[125] } [125] (by rw [ByteArray.toList_eq]) (Fe hp (by intro args w; simp [go_sem])) hg h1 N hN);clear h;go_enter func139, ntmps139;go_wp2_with fail;refine H.out.mono ?_;rintro e w1 ⟨rfl, hw⟩;replace hw := zz hw;go_wp2_with fail;go_ret;exact ⟨rfl, hw.out⟩
theorem O5 {n : Nat} {p : Pt} (hp : Ef 197 n p) (hg : Gd 0 p) (h1 : ∀ d ts F r, p d ts = .ok F r -> 1 <= F.cnt) (N : Nat) (hN : n <= N) : Ef 180 n (Cx [125] p N) := by
 intro w b tb to tc T at_ d v D ts h;have H := zz (a18 h { data := #[125] } [125] (by rw [ByteArray.toList_eq]) (Fe hp (by intro args w; simp [go_sem])) hg h1 N hN);clear h;go_enter func180, ntmps180;go_wp2_with fail;refine H.out.mono ?_;rintro e w1 ⟨rfl, hw⟩;replace hw := zz hw;go_wp2_with fail;go_ret;exact ⟨rfl, hw.out⟩
theorem Kd {n : Nat} {p : Pt} (hp : Ef 178 n p) (hg : Gd 0 p) (N : Nat) (hN : n <= N) : Ef 141 n (Ee p N) := by
 intro w b tb to tc T at_ d v D ts h;have H := zz (Zb h (Fe hp (by intro args w; simp [go_sem])) hg N hN);clear h;go_enter func141, ntmps141;go_wp2_with fail;refine H.out.mono ?_;rintro e w1 ⟨rfl, hw⟩;replace hw := zz hw;go_wp2_with fail;go_ret;exact ⟨rfl, hw.out⟩
theorem Lo {n : Nat} {p : Pt} (hp : Ef 39 n p) (hg : Gd 0 p) (N : Nat) (hN : n <= N) : Ef 221 n (Ee p N) := by
 intro w b tb to tc T at_ d v D ts h;have H := zz (Zb h (Fe hp (by intro args w; simp [go_sem])) hg N hN);clear h;go_enter func221, ntmps221;go_wp2_with fail;refine H.out.mono ?_;rintro e w1 ⟨rfl, hw⟩;replace hw := zz hw;go_wp2_with fail;go_ret;exact ⟨rfl, hw.out⟩
theorem Rt {w : World} {b tb to tc : Nat} {T : List Tok} {at_ d : Nat} {v : Value} {D : List Nd} {n : Nat} {ts : List Tok} (h : Sit w b tb to tc T at_ d v D n ts) {p : Pt} (hp : Ef 179 (n - 1) p) (hg : Gd 0 p) : Calls prog 195 #[pR b] w (Fc b tb to tc T d D w (Bq p d ts)) := by
 have hbl := h.rd.lt;obtain ⟨⟨kd, ln, cl, nm, tx⟩, ht⟩ : ∃ t, hd ts = t := ⟨_, rfl⟩;obtain ⟨a, cap, hv⟩ := A6 h.rd.own;obtain ⟨X, hX⟩ : ∃ X, bs tx = X := ⟨_, rfl⟩;obtain ⟨dn, hdn⟩ : ∃ dn, D.length = dn := ⟨_, rfl⟩;have HH : Hid (Calls prog 136 #[pR b] w fun e w' => e = .returned (sV kd ln cl nm X dn) ∧ Below w.heap.size w w') := zz (by have := Cj h ht dn hdn a cap (by rw [hv, hdn]); rw [hX] at this; exact this);obtain ⟨O, hO⟩ : ∃ O, (Bq p) d ts = O := ⟨_, rfl⟩;rw [hO];replace hO := zz hO;have hs := zz h;replace ht := zz ht;replace hX := zz hX;replace hdn := zz hdn;replace hv := zz hv;clear h;go_enter func195, ntmps195;go_wp2_with fail;refine HH.out.mono ?_;rintro e w1 ⟨rfl, hb⟩;have hbl1 := (hs.out.rd.carry hb).lt;replace hb := zz hb;go_wp2_with fail;obtain ⟨W, hW⟩ : ∃ W, W = w1.alloc (.cells #[.int .u8 kd, .int .i64 ln, .int .i64 cl, .int .i64 nm, .string X, .int .i64 dn] 93) := ⟨_, rfl⟩;rw [<- hW];have HS0 : Hid (Sit W b tb to tc T at_ d v D n ts) := zz (by rw [hW]; exact (hs.out.carry hb.out).carry (Aa _ _));have HF0 : Hid (Fr b w W) := zz (by rw [hW]; exact (Fr.only (Onl.below hb.out) (by omega)).trans (Fr.only (Onl.below (Aa _ _)) (by omega)));have HM0 : Hid (SAt W w1.heap.size kd ln cl nm X dn) := zz (by rw [hW]; exact SAt.made w1 kd ln cl nm X dn);clear hW
 cases e1 : (Az [91] [93] p) d ts with
 | bad c l k =>
  have hA := hO.out;simp only [Bq, B7, Out.bind, e1] at hA;subst hA;replace e1 := zz e1;have HC1 := zz (D5 (Cw (HS0.out) { data := #[91] } { data := #[93] } [91] [93] (by rw [ByteArray.toList_eq]) (by rw [ByteArray.toList_eq]) (Fe hp (by intro args w; simp [go_sem])) hg) e1.out);refine HC1.out.mono ?_;rintro e w2 ⟨rfl, rf, fr⟩;replace rf := zz rf;replace fr := zz fr;go_wp2_with fail;go_ret
  exact ⟨rfl, rf.out, HF0.out.trans fr.out⟩
 | ok F1 r1 =>
  replace e1 := zz e1;have hA := hO.out;simp only [Bq, B7, Out.bind, e1.out] at hA;subst hA;have HC1 := zz (J1 (Cw (HS0.out) { data := #[91] } { data := #[93] } [91] [93] (by rw [ByteArray.toList_eq]) (by rw [ByteArray.toList_eq]) (Fe hp (by intro args w; simp [go_sem])) hg) e1.out);refine HC1.out.mono ?_;rintro e w2 ⟨rfl, ⟨at1, v1, dr, rd⟩, fr⟩;have HS1 := zz (HS0.out.then (s := 2) (Bs (o := [91]) (c := [93]) hg d ts F1 r1 e1.out) dr rd);have HF1 := zz (HF0.out.trans fr);have HM1 := zz (HM0.out.fr fr (by omega));clear dr rd fr;obtain ⟨m0, m1, m2, m3, m4, m5⟩ := HM1.out.at;go_wp2_with fail;have HA := zz (Cu HS1.out.rd kd ln cl dn nm X 20 0 0 0 0 { data := #[] } (F1).cnt (by have := hdn.out; simp [Ao, Bx, Fo.cnt]; omega) (by have := HS1.out.rm; omega));refine HA.out.mono ?_;rintro e wa ⟨rfl, ⟨va, rda⟩, fra⟩;replace rda := zz rda;replace fra := zz fra;go_wp2_with fail;go_ret;exact ⟨rfl, ⟨at1, va, HS1.out.dr, Do rda.out (by simp [Bo, Fo.post, List.append_assoc]) (by simp [mkK, mkX, mkY, mkN, Inf.nd, ht.out]; try rfl)⟩, HF1.out.trans fra.out⟩
theorem b53 {w : World} {b tb to tc : Nat} {T : List Tok} {at_ d : Nat} {v : Value} {D : List Nd} {n : Nat} {ts : List Tok} (h : Sit w b tb to tc T at_ d v D n ts) {S : Pt} {N : Nat} (hp : Ef 180 (n - 1) (Cx [125] S N)) (hg : Gd 0 S) : Calls prog 144 #[pR b] w (Fc b tb to tc T d D w (Fb S N d ts)) := by
 have hbl := h.rd.lt;obtain ⟨⟨kd, ln, cl, nm, tx⟩, ht⟩ : ∃ t, hd ts = t := ⟨_, rfl⟩;obtain ⟨a, cap, hv⟩ := A6 h.rd.own;obtain ⟨X, hX⟩ : ∃ X, bs tx = X := ⟨_, rfl⟩;obtain ⟨dn, hdn⟩ : ∃ dn, D.length = dn := ⟨_, rfl⟩;have HH : Hid (Calls prog 136 #[pR b] w fun e w' => e = .returned (sV kd ln cl nm X dn) ∧ Below w.heap.size w w') := zz (by have := Cj h ht dn hdn a cap (by rw [hv, hdn]); rw [hX] at this; exact this);obtain ⟨O, hO⟩ : ∃ O, (Fb S N) d ts = O := ⟨_, rfl⟩;rw [hO];replace hO := zz hO;have hs := zz h;replace ht := zz ht;replace hX := zz hX;replace hdn := zz hdn;replace hv := zz hv;clear h;go_enter func144, ntmps144;go_wp2_with fail;refine HH.out.mono ?_;rintro e w1 ⟨rfl, hb⟩;have hbl1 := (hs.out.rd.carry hb).lt;replace hb := zz hb;go_wp2_with fail;obtain ⟨W, hW⟩ : ∃ W, W = w1.alloc (.cells #[.int .u8 kd, .int .i64 ln, .int .i64 cl, .int .i64 nm, .string X, .int .i64 dn] 93) := ⟨_, rfl⟩;rw [<- hW];have HS0 : Hid (Sit W b tb to tc T at_ d v D n ts) := zz (by rw [hW]; exact (hs.out.carry hb.out).carry (Aa _ _));have HF0 : Hid (Fr b w W) := zz (by rw [hW]; exact (Fr.only (Onl.below hb.out) (by omega)).trans (Fr.only (Onl.below (Aa _ _)) (by omega)));have HM0 : Hid (SAt W w1.heap.size kd ln cl nm X dn) := zz (by rw [hW]; exact SAt.made w1 kd ln cl nm X dn);clear hW
 cases e1 : (Az [123] [125] (Cx [125] S N)) d ts with
 | bad c l k =>
  have hA := hO.out;simp only [Fb, B7, Out.bind, e1] at hA;subst hA;replace e1 := zz e1;have HC1 := zz (D5 (Cw (HS0.out) { data := #[123] } { data := #[125] } [123] [125] (by rw [ByteArray.toList_eq]) (by rw [ByteArray.toList_eq]) (Fe hp (by intro args w; simp [go_sem])) (Hu hg N)) e1.out);refine HC1.out.mono ?_;rintro e w2 ⟨rfl, rf, fr⟩;replace rf := zz rf;replace fr := zz fr;go_wp2_with fail;go_ret
  exact ⟨rfl, rf.out, HF0.out.trans fr.out⟩
 | ok F1 r1 =>
  replace e1 := zz e1;have hA := hO.out;simp only [Fb, B7, Out.bind, e1.out] at hA;subst hA;have HC1 := zz (J1 (Cw (HS0.out) { data := #[123] } { data := #[125] } [123] [125] (by rw [ByteArray.toList_eq]) (by rw [ByteArray.toList_eq]) (Fe hp (by intro args w; simp [go_sem])) (Hu hg N)) e1.out);refine HC1.out.mono ?_;rintro e w2 ⟨rfl, ⟨at1, v1, dr, rd⟩, fr⟩;have HS1 := zz (HS0.out.then (s := 2) (Bs (o := [123]) (c := [125]) (Hu hg N) d ts F1 r1 e1.out) dr rd);have HF1 := zz (HF0.out.trans fr);have HM1 := zz (HM0.out.fr fr (by omega));clear dr rd fr;obtain ⟨m0, m1, m2, m3, m4, m5⟩ := HM1.out.at;go_wp2_with fail;have HA := zz (Cu HS1.out.rd kd ln cl dn nm X 6 0 0 0 0 { data := #[] } (F1).cnt (by have := hdn.out; simp [Ao, Bx, Fo.cnt]; omega) (by have := HS1.out.rm; omega));refine HA.out.mono ?_;rintro e wa ⟨rfl, ⟨va, rda⟩, fra⟩;replace rda := zz rda;replace fra := zz fra;go_wp2_with fail;go_ret;exact ⟨rfl, ⟨at1, va, HS1.out.dr, Do rda.out (by simp [Bo, Fo.post, List.append_assoc]) (by simp [mkK, mkX, mkY, mkN, Inf.nd, ht.out]; try rfl)⟩, HF1.out.trans fra.out⟩
theorem a2a {w : World} {b tb to tc : Nat} {T : List Tok} {at_ d : Nat} {v : Value} {D : List Nd} {n : Nat} {ts : List Tok} (h : Sit w b tb to tc T at_ d v D n ts) (kk : Nat) {m : Nat} (hp : Ef 179 n (Eb m)) : Calls prog 193 #[pR b, .int .u8 kk] w (Fc b tb to tc T d D w (Er kk m d ts)) := by
 have hbl := h.rd.lt;obtain ⟨⟨kd, ln, cl, nm, tx⟩, ht⟩ : ∃ t, hd ts = t := ⟨_, rfl⟩;obtain ⟨a, cap, hv⟩ := A6 h.rd.own;obtain ⟨X, hX⟩ : ∃ X, bs tx = X := ⟨_, rfl⟩;obtain ⟨dn, hdn⟩ : ∃ dn, D.length = dn := ⟨_, rfl⟩;have HH : Hid (Calls prog 136 #[pR b] w fun e w' => e = .returned (sV kd ln cl nm X dn) ∧ Below w.heap.size w w') := zz (by have := Cj h ht dn hdn a cap (by rw [hv, hdn]); rw [hX] at this; exact this);obtain ⟨O, hO⟩ : ∃ O, (Er kk m) d ts = O := ⟨_, rfl⟩;rw [hO];replace hO := zz hO;have hs := zz h;replace ht := zz ht;replace hX := zz hX;replace hdn := zz hdn;replace hv := zz hv;clear h;go_enter func193, ntmps193;go_wp2_with fail;refine HH.out.mono ?_;rintro e w1 ⟨rfl, hb⟩;have hbl1 := (hs.out.rd.carry hb).lt;replace hb := zz hb;go_wp2_with fail;obtain ⟨W, hW⟩ : ∃ W, W = w1.alloc (.cells #[.int .u8 kd, .int .i64 ln, .int .i64 cl, .int .i64 nm, .string X, .int .i64 dn] 93) := ⟨_, rfl⟩;rw [<- hW];have HS0 : Hid (Sit W b tb to tc T at_ d v D n ts) := zz (by rw [hW]; exact (hs.out.carry hb.out).carry (Aa _ _));have HF0 : Hid (Fr b w W) := zz (by rw [hW]; exact (Fr.only (Onl.below hb.out) (by omega)).trans (Fr.only (Onl.below (Aa _ _)) (by omega)));have HM0 : Hid (SAt W w1.heap.size kd ln cl nm X dn) := zz (by rw [hW]; exact SAt.made w1 kd ln cl nm X dn);clear hW
 cases e1 : (Hc 1) d ts with
 | bad c l k =>
  have hA := hO.out;simp only [Er, B7, Cv, Fd, Bb, Out.bind, e1] at hA;subst hA;replace e1 := zz e1;have HC1 := zz (D5 (Ft HS0.out 1 (by decide)) e1.out);refine HC1.out.mono ?_;rintro e w2 ⟨rfl, rf, fr⟩;replace rf := zz rf;replace fr := zz fr;go_wp2_with fail;go_ret
  exact ⟨rfl, rf.out, HF0.out.trans fr.out⟩
 | ok F1 r1 =>
  replace e1 := zz e1;have HC1 := zz (J1 (Ft HS0.out 1 (by decide)) e1.out);refine HC1.out.mono ?_;rintro e w2 ⟨rfl, ⟨at1, v1, dr, rd⟩, fr⟩;have HS1 := zz (HS0.out.then (s := 1) (Gg 1 (by decide) (by decide) d ts F1 r1 e1.out) dr rd);have HF1 := zz (HF0.out.trans fr);have HM1 := zz (HM0.out.fr fr (by omega));clear dr rd fr;go_wp2_with fail
  cases e2 : (take [58]) d r1 with
  | bad c l k =>
   have hA := hO.out;simp only [Er, B7, Cv, Fd, Bb, Out.bind, e1.out, e2] at hA;subst hA;replace e2 := zz e2;have HC2 := zz (D5 (D9 HS1.out { data := #[58] } [58] (by rw [ByteArray.toList_eq])) e2.out);refine HC2.out.mono ?_;rintro e w3 ⟨rfl, rf, fr⟩;replace rf := zz rf;replace fr := zz fr;go_wp2_with fail;go_ret
   exact ⟨rfl, rf.out, HF1.out.trans fr.out⟩
  | ok F2 r2 =>
   replace e2 := zz e2;have HC2 := zz (J1 (D9 HS1.out { data := #[58] } [58] (by rw [ByteArray.toList_eq])) e2.out);refine HC2.out.mono ?_;rintro e w3 ⟨rfl, ⟨at2, v2, dr, rd⟩, fr⟩;have HS2 := zz (HS1.out.then (s := 1) (Ct [58] d r1 F2 r2 e2.out) dr rd);have HF2 := zz (HF1.out.trans fr);have HM2 := zz (HM1.out.fr fr (by omega));clear dr rd fr;go_wp2_with fail
   cases e3 : (Eb m) d r2 with
   | bad c l k =>
    have hA := hO.out;simp only [Er, B7, Cv, Fd, Bb, Out.bind, e1.out, e2.out, e3] at hA;subst hA;replace e3 := zz e3;have HC3 := zz (D5 (hp (HS2.out.up (by omega))) e3.out);refine HC3.out.mono ?_;rintro e w4 ⟨rfl, rf, fr⟩;replace rf := zz rf;replace fr := zz fr;go_wp2_with fail;go_ret
    exact ⟨rfl, rf.out, HF2.out.trans fr.out⟩
   | ok F3 r3 =>
    replace e3 := zz e3;have hA := hO.out;simp only [Er, B7, Cv, Fd, Bb, Out.bind, e1.out, e2.out, e3.out] at hA;subst hA;have HC3 := zz (J1 (hp (HS2.out.up (by omega))) e3.out);refine HC3.out.mono ?_;rintro e w4 ⟨rfl, ⟨at3, v3, dr, rd⟩, fr⟩;have HS3 := zz (HS2.out.then (s := 0) (Jd m d r2 F3 r3 e3.out) dr rd);have HF3 := zz (HF2.out.trans fr);have HM3 := zz (HM2.out.fr fr (by omega));clear dr rd fr;obtain ⟨m0, m1, m2, m3, m4, m5⟩ := HM3.out.at;go_wp2_with fail;have HA := zz (Cu HS3.out.rd kd ln cl dn nm X kk 0 0 0 0 X (F1.app (F2.app (F3.app .nil))).cnt (by have := hdn.out; simp [Ao, Bx, Fo.cnt]; omega) (by have := HS3.out.rm; omega));refine HA.out.mono ?_;rintro e wa ⟨rfl, ⟨va, rda⟩, fra⟩;replace rda := zz rda;replace fra := zz fra;go_wp2_with fail;go_ret;exact ⟨rfl, ⟨at3, va, HS3.out.dr, Do rda.out (by simp [Bo, Fo.post, List.append_assoc]) (by simp [mkK, mkX, mkY, mkN, Inf.nd, ht.out, hX.out]; try rfl)⟩, HF3.out.trans fra.out⟩
theorem b5f {w : World} {b tb to tc : Nat} {T : List Tok} {at_ d : Nat} {v : Value} {D : List Nd} {n : Nat} {ts : List Tok} (h : Sit w b tb to tc T at_ d v D n ts) {m : Nat} (hp : ∀ {w : World} {b tb to tc : Nat} {T : List Tok} {at_ d : Nat} {v : Value} {D : List Nd} {ts : List Tok}, Sit w b tb to tc T at_ d v D n ts -> Calls prog 193 #[pR b, .int .u8 (3 : Nat)] w (Fc b tb to tc T d D w (Er 3 m d ts))) : Calls prog 176 #[pR b] w (Fc b tb to tc T d D w (Jr m d ts)) := by
 have hbl := h.rd.lt;obtain ⟨O, hO⟩ : ∃ O, (Jr m) d ts = O := ⟨_, rfl⟩;rw [hO];replace hO := zz hO;have hs := zz h;clear h;go_enter func176, ntmps176;go_wp2_with fail;have HS0 := hs;have HF0 : Hid (Fr b w w) := zz (Fr.refl _ _)
 cases e1 : (Er 3 m) d ts with
 | bad c l k =>
  have hA := hO.out;simp only [Jr, Fd, Out.bind, e1] at hA;subst hA;replace e1 := zz e1;have HC1 := zz (D5 (hp (HS0.out)) e1.out);refine HC1.out.mono ?_;rintro e w2 ⟨rfl, rf, fr⟩;replace rf := zz rf;replace fr := zz fr;go_wp2_with fail;go_ret
  exact ⟨rfl, rf.out, HF0.out.trans fr.out⟩
 | ok F1 r1 =>
  replace e1 := zz e1;have HC1 := zz (J1 (hp (HS0.out)) e1.out);refine HC1.out.mono ?_;rintro e w2 ⟨rfl, ⟨at1, v1, dr, rd⟩, fr⟩;have HS1 := zz (HS0.out.then (s := 1) (Fu 3 m d ts F1 r1 e1.out) dr rd);have HF1 := zz (HF0.out.trans fr);clear dr rd fr;go_wp2_with fail
  cases e2 : (take [59]) d r1 with
  | bad c l k =>
   have hA := hO.out;simp only [Jr, Fd, Out.bind, e1.out, e2] at hA;subst hA;replace e2 := zz e2;have HC2 := zz (D5 (D6 _ HS1.out) e2.out);refine HC2.out.mono ?_;rintro e w3 ⟨rfl, rf, fr⟩;replace rf := zz rf;replace fr := zz fr;go_wp2_with fail;go_ret
   exact ⟨rfl, rf.out, HF1.out.trans fr.out⟩
  | ok F2 r2 =>
   replace e2 := zz e2;have hA := hO.out;simp only [Jr, Fd, Out.bind, e1.out, e2.out] at hA;subst hA;have HC2 := zz (J1 (D6 _ HS1.out) e2.out);refine HC2.out.mono ?_;rintro e w3 ⟨rfl, ⟨at2, v2, dr, rd⟩, fr⟩;have HS2 := zz (HS1.out.then (s := 1) (Ct [59] d r1 F2 r2 e2.out) dr rd);have HF2 := zz (HF1.out.trans fr);clear dr rd fr;go_wp2_with fail;go_ret;exact ⟨rfl, ⟨at2, v2, HS2.out.dr, by have := HS2.out.rd; simpa [Bo, Fo.post, List.append_assoc] using this⟩, HF2.out⟩
end
end
section
section
open Go.RowKit Go.Sort
theorem b7d (kd ln cl : Nat) (nm : Int) (X : ByteArray) (w : World) (e2 : ((kd : Int) == 2) = true) : Calls prog 205 #[.agg #[.int .u8 kd, .int .i64 ln, .int .i64 cl, .int .i64 nm, .string X]] w fun e w' => e = .returned (.tuple #[nV 19 0 0 0 0 X, .bool true]) ∧ Below w.heap.size w w' := by
 go_enter func205, ntmps205;go_wp2_with fail;refine bodyPost_ret (v := .tuple #[nV 19 0 0 0 0 X, .bool true]) (by simp [results, results205, go_sem]) rfl ⟨rfl, by go_grown⟩
theorem b7c (kd ln cl : Nat) (nm : Int) (X : ByteArray) (w : World) (e2 : ((kd : Int) == 2) = false) (e6 : ((kd : Int) != 6) = true) : Calls prog 205 #[.agg #[.int .u8 kd, .int .i64 ln, .int .i64 cl, .int .i64 nm, .string X]] w fun e w' => e = .returned (.tuple #[nV 0 0 0 0 0 { data := #[] }, .bool false]) ∧ Below w.heap.size w w' := by
 go_enter func205, ntmps205;go_wp2_with fail;refine bodyPost_ret (v := .tuple #[nV 0 0 0 0 0 { data := #[] }, .bool false]) (by simp [results, results205, go_sem]) rfl ⟨rfl, by go_grown⟩
theorem c3u (kd ln cl : Nat) (nm : Int) (X : ByteArray) (w : World) (e2 : ((kd : Int) == 2) = false) (e6 : ((kd : Int) != 6) = false)  (x0 : (X.toList == [105, 110, 116]) = true) : Calls prog 205 #[.agg #[.int .u8 kd, .int .i64 ln, .int .i64 cl, .int .i64 nm, .string X]] w fun e w' => e = .returned (.tuple #[nV 15 0 0 0 0 { data := #[] }, .bool true]) ∧ Below w.heap.size w w' := by
 go_enter func205, ntmps205;go_wp2_with fail;refine bodyPost_ret (v := .tuple #[nV 15 0 0 0 0 { data := #[] }, .bool true]) (by simp [results, results205, go_sem]) rfl ⟨rfl, by go_grown⟩
theorem c3t (kd ln cl : Nat) (nm : Int) (X : ByteArray) (w : World) (e2 : ((kd : Int) == 2) = false) (e6 : ((kd : Int) != 6) = false) (x0 : (X.toList == [105, 110, 116]) = false) (x1 : (X.toList == [98, 111, 111, 108]) = true) : Calls prog 205 #[.agg #[.int .u8 kd, .int .i64 ln, .int .i64 cl, .int .i64 nm, .string X]] w fun e w' => e = .returned (.tuple #[nV 16 0 0 0 0 { data := #[] }, .bool true]) ∧ Below w.heap.size w w' := by
 go_enter func205, ntmps205;go_wp2_with fail;refine bodyPost_ret (v := .tuple #[nV 16 0 0 0 0 { data := #[] }, .bool true]) (by simp [results, results205, go_sem]) rfl ⟨rfl, by go_grown⟩
theorem c3s (kd ln cl : Nat) (nm : Int) (X : ByteArray) (w : World) (e2 : ((kd : Int) == 2) = false) (e6 : ((kd : Int) != 6) = false) (x0 : (X.toList == [105, 110, 116]) = false) (x1 : (X.toList == [98, 111, 111, 108]) = false) (x2 : (X.toList == [115, 116, 114]) = true) : Calls prog 205 #[.agg #[.int .u8 kd, .int .i64 ln, .int .i64 cl, .int .i64 nm, .string X]] w fun e w' => e = .returned (.tuple #[nV 17 0 0 0 0 { data := #[] }, .bool true]) ∧ Below w.heap.size w w' := by
 go_enter func205, ntmps205;go_wp2_with fail;refine bodyPost_ret (v := .tuple #[nV 17 0 0 0 0 { data := #[] }, .bool true]) (by simp [results, results205, go_sem]) rfl ⟨rfl, by go_grown⟩
theorem c3r (kd ln cl : Nat) (nm : Int) (X : ByteArray) (w : World) (e2 : ((kd : Int) == 2) = false) (e6 : ((kd : Int) != 6) = false) (x0 : (X.toList == [105, 110, 116]) = false) (x1 : (X.toList == [98, 111, 111, 108]) = false) (x2 : (X.toList == [115, 116, 114]) = false) (x3 : (X.toList == [99, 111, 109, 112]) = true) : Calls prog 205 #[.agg #[.int .u8 kd, .int .i64 ln, .int .i64 cl, .int .i64 nm, .string X]] w fun e w' => e = .returned (.tuple #[nV 18 0 0 0 0 { data := #[] }, .bool true]) ∧ Below w.heap.size w w' := by
 go_enter func205, ntmps205;go_wp2_with fail;refine bodyPost_ret (v := .tuple #[nV 18 0 0 0 0 { data := #[] }, .bool true]) (by simp [results, results205, go_sem]) rfl ⟨rfl, by go_grown⟩
theorem b26 (kd ln cl : Nat) (nm : Int) (X : ByteArray) (w : World) (e2 : ((kd : Int) == 2) = false) (e6 : ((kd : Int) != 6) = false) (x0 : (X.toList == [105, 110, 116]) = false) (x1 : (X.toList == [98, 111, 111, 108]) = false) (x2 : (X.toList == [115, 116, 114]) = false) (x3 : (X.toList == [99, 111, 109, 112]) = false) : Calls prog 205 #[.agg #[.int .u8 kd, .int .i64 ln, .int .i64 cl, .int .i64 nm, .string X]] w fun e w' => e = .returned (.tuple #[nV 0 0 0 0 0 { data := #[] }, .bool false]) ∧ Below w.heap.size w w' := by
 go_enter func205, ntmps205;go_wp2_with fail;refine bodyPost_ret (v := .tuple #[nV 0 0 0 0 0 { data := #[] }, .bool false]) (by simp [results, results205, go_sem]) rfl ⟨rfl, by go_grown⟩
theorem c3l (X : ByteArray) (w : World)  (x0 : (X.toList == [116, 114, 117, 101]) = true) : Calls prog 223 #[.string X] w fun e w' => e = .returned (.tuple #[nV 24 0 0 0 1 { data := #[] }, .bool true]) ∧ Below w.heap.size w w' := by
 go_enter func223, ntmps223;go_wp2_with fail;refine bodyPost_ret (v := .tuple #[nV 24 0 0 0 1 { data := #[] }, .bool true]) (by simp [results, results223, go_sem]) rfl ⟨rfl, by go_grown⟩
theorem c3k (X : ByteArray) (w : World) (x0 : (X.toList == [116, 114, 117, 101]) = false) (x1 : (X.toList == [102, 97, 108, 115, 101]) = true) : Calls prog 223 #[.string X] w fun e w' => e = .returned (.tuple #[nV 24 0 0 0 0 { data := #[] }, .bool true]) ∧ Below w.heap.size w w' := by
 go_enter func223, ntmps223;go_wp2_with fail;refine bodyPost_ret (v := .tuple #[nV 24 0 0 0 0 { data := #[] }, .bool true]) (by simp [results, results223, go_sem]) rfl ⟨rfl, by go_grown⟩
theorem c3j (X : ByteArray) (w : World) (x0 : (X.toList == [116, 114, 117, 101]) = false) (x1 : (X.toList == [102, 97, 108, 115, 101]) = false) (x2 : (X.toList == [110, 105, 108]) = true) : Calls prog 223 #[.string X] w fun e w' => e = .returned (.tuple #[nV 25 0 0 0 0 { data := #[] }, .bool true]) ∧ Below w.heap.size w w' := by
 go_enter func223, ntmps223;go_wp2_with fail;refine bodyPost_ret (v := .tuple #[nV 25 0 0 0 0 { data := #[] }, .bool true]) (by simp [results, results223, go_sem]) rfl ⟨rfl, by go_grown⟩
theorem b2u (X : ByteArray) (w : World) (x0 : (X.toList == [116, 114, 117, 101]) = false) (x1 : (X.toList == [102, 97, 108, 115, 101]) = false) (x2 : (X.toList == [110, 105, 108]) = false) : Calls prog 223 #[.string X] w fun e w' => e = .returned (.tuple #[nV 0 0 0 0 0 { data := #[] }, .bool false]) ∧ Below w.heap.size w w' := by
 go_enter func223, ntmps223;go_wp2_with fail;refine bodyPost_ret (v := .tuple #[nV 0 0 0 0 0 { data := #[] }, .bool false]) (by simp [results, results223, go_sem]) rfl ⟨rfl, by go_grown⟩
theorem c0v (kd ln cl : Nat) (nm : Int) (X : ByteArray) (w : World)  (k3 : ((kd : Int) == 3) = true) : Calls prog 222 #[.agg #[.int .u8 kd, .int .i64 ln, .int .i64 cl, .int .i64 nm, .string X]] w fun e w' => e = .returned (.tuple #[nV 21 0 0 0 nm { data := #[] }, .bool true]) ∧ Below w.heap.size w w' := by
 go_enter func222, ntmps222;go_wp2_with fail;refine bodyPost_ret (v := .tuple #[nV 21 0 0 0 nm { data := #[] }, .bool true]) (by simp [results, results222, go_sem]) rfl ⟨rfl, by go_grown⟩
theorem b5u (kd ln cl : Nat) (nm : Int) (X : ByteArray) (w : World) (k3 : ((kd : Int) == 3) = false) (k4 : ((kd : Int) == 4) = true) : Calls prog 222 #[.agg #[.int .u8 kd, .int .i64 ln, .int .i64 cl, .int .i64 nm, .string X]] w fun e w' => e = .returned (.tuple #[nV 22 0 0 0 nm { data := #[] }, .bool true]) ∧ Below w.heap.size w w' := by
 go_enter func222, ntmps222;go_wp2_with fail;refine bodyPost_ret (v := .tuple #[nV 22 0 0 0 nm { data := #[] }, .bool true]) (by simp [results, results222, go_sem]) rfl ⟨rfl, by go_grown⟩
theorem c0u (kd ln cl : Nat) (nm : Int) (X : ByteArray) (w : World) (k3 : ((kd : Int) == 3) = false) (k4 : ((kd : Int) == 4) = false) (k5 : ((kd : Int) == 5) = true) : Calls prog 222 #[.agg #[.int .u8 kd, .int .i64 ln, .int .i64 cl, .int .i64 nm, .string X]] w fun e w' => e = .returned (.tuple #[nV 23 0 0 0 0 X, .bool true]) ∧ Below w.heap.size w w' := by
 go_enter func222, ntmps222;go_wp2_with fail;refine bodyPost_ret (v := .tuple #[nV 23 0 0 0 0 X, .bool true]) (by simp [results, results222, go_sem]) rfl ⟨rfl, by go_grown⟩
theorem b5t (kd ln cl : Nat) (nm : Int) (X : ByteArray) (w : World) (k3 : ((kd : Int) == 3) = false) (k4 : ((kd : Int) == 4) = false) (k5 : ((kd : Int) == 5) = false) (k6 : ((kd : Int) == 6) = false) : Calls prog 222 #[.agg #[.int .u8 kd, .int .i64 ln, .int .i64 cl, .int .i64 nm, .string X]] w fun e w' => e = .returned (.tuple #[nV 0 0 0 0 0 { data := #[] }, .bool false]) ∧ Below w.heap.size w w' := by
 go_enter func222, ntmps222;go_wp2_with fail;refine bodyPost_ret (v := .tuple #[nV 0 0 0 0 0 { data := #[] }, .bool false]) (by simp [results, results222, go_sem]) rfl ⟨rfl, by go_grown⟩
theorem Tc (kd ln cl : Nat) (nm : Int) (X : ByteArray) (w : World) (k3 : ((kd : Int) == 3) = false) (k4 : ((kd : Int) == 4) = false) (k5 : ((kd : Int) == 5) = false) (k6 : ((kd : Int) == 6) = true) (k : Nat) (m : Int) (Y : ByteArray) (q : Bool) (H : Hid (∀ w, Calls prog 223 #[.string X] w fun e w' => e = .returned (.tuple #[nV k 0 0 0 m Y, .bool q]) ∧ Below w.heap.size w w')) : Calls prog 222 #[.agg #[.int .u8 kd, .int .i64 ln, .int .i64 cl, .int .i64 nm, .string X]] w fun e w' => e = .returned (.tuple #[nV k 0 0 0 m Y, .bool q]) ∧ Below w.heap.size w w' := by
 go_enter func222, ntmps222;go_wp2_with fail;refine (H.out _).mono ?_;rintro e w1 ⟨rfl, hb⟩;obtain ⟨hc, hf⟩ := Cr hb;have hz := hb.size;simp only [World.size_alloc] at hc hf hz;go_wp2_with fail;refine bodyPost_ret (v := .tuple #[nV k 0 0 0 m Y, .bool q]) (by simp [results, results222, go_sem, hc]) rfl ⟨rfl, ?_⟩;have hb' := (by go_grown : Below w.heap.size w _).trans (hb.mono (by simp; omega));go_grown
def Vb (q : Option (Nat × Int × List UInt8)) : Nat × Int × List UInt8 := q.getD (0, 0, [])
def Hn (t : Tok) : Option (Nat × Int × List UInt8) := (Lc t).map fun q => (q.1, 0, q.2)
theorem Ts (t : Tok) (w : World) : Calls prog 205 #[tV t] w fun e w' => e = .returned (.tuple #[nV (Vb (Hn t)).1 0 0 0 (Vb (Hn t)).2.1 (bs (Vb (Hn t)).2.2), .bool (Hn t).isSome]) ∧ Below w.heap.size w w' := by
 obtain ⟨kd, ln, cl, nm, tx⟩ := t;by_cases h2 : kd = 2
 ·rw [show Hn ⟨kd, ln, cl, nm, tx⟩ = some (19, 0, tx) by simp [Hn, Lc, h2]];exact b7d kd ln cl nm (bs tx) w (by rw [h2]; rfl)
 ·have e2 : ((kd : Int) == 2) = false := by rw [beq_eq_false_iff_ne]; omega
  by_cases h6 : kd = 6
  ·have e6 : ((kd : Int) != 6) = false := by rw [h6]; rfl
   by_cases x0 : tx = [105, 110, 116]
   ·have := c3u kd ln cl nm (bs tx) w e2 e6  (by rw [A4, x0]; rfl);rw [show Hn ⟨kd, ln, cl, nm, tx⟩ = some (15, 0, []) by simp [Hn, Lc, h6, x0]];exact this
   by_cases x1 : tx = [98, 111, 111, 108]
   ·have := c3t kd ln cl nm (bs tx) w e2 e6 (by rw [A4]; simpa using x0) (by rw [A4, x1]; rfl);rw [show Hn ⟨kd, ln, cl, nm, tx⟩ = some (16, 0, []) by simp [Hn, Lc, h6, x1]];exact this
   by_cases x2 : tx = [115, 116, 114]
   ·have := c3s kd ln cl nm (bs tx) w e2 e6 (by rw [A4]; simpa using x0) (by rw [A4]; simpa using x1) (by rw [A4, x2]; rfl);rw [show Hn ⟨kd, ln, cl, nm, tx⟩ = some (17, 0, []) by simp [Hn, Lc, h6, x2]];exact this
   by_cases x3 : tx = [99, 111, 109, 112]
   ·have := c3r kd ln cl nm (bs tx) w e2 e6 (by rw [A4]; simpa using x0) (by rw [A4]; simpa using x1) (by rw [A4]; simpa using x2) (by rw [A4, x3]; rfl);rw [show Hn ⟨kd, ln, cl, nm, tx⟩ = some (18, 0, []) by simp [Hn, Lc, h6, x3]];exact this
   have := b26 kd ln cl nm (bs tx) w e2 e6 (by rw [A4]; simpa using x0) (by rw [A4]; simpa using x1) (by rw [A4]; simpa using x2) (by rw [A4]; simpa using x3);rw [show Hn ⟨kd, ln, cl, nm, tx⟩ = none by simp [Hn, Lc, h6, x0, x1, x2, x3]];exact this
  ·have e6 : ((kd : Int) != 6) = true := b2i (by omega);have := b7c kd ln cl nm (bs tx) w e2 e6;rw [show Hn ⟨kd, ln, cl, nm, tx⟩ = none by simp [Hn, Lc, h2, h6]];exact this
theorem Tb (t : Tok) (w : World) : Calls prog 222 #[tV t] w fun e w' => e = .returned (.tuple #[nV (Vb (Cc t)).1 0 0 0 (Vb (Cc t)).2.1 (bs (Vb (Cc t)).2.2), .bool (Cc t).isSome]) ∧ Below w.heap.size w w' := by
 obtain ⟨kd, ln, cl, nm, tx⟩ := t;by_cases h3 : kd = 3
 ·have := c0v kd ln cl nm (bs tx) w (by rw [h3]; rfl);rw [show Cc ⟨kd, ln, cl, nm, tx⟩ = some (21, nm, []) by simp [Cc, h3]];exact this
 have e3 : ((kd : Int) == 3) = false := by rw [beq_eq_false_iff_ne]; omega
 by_cases h4 : kd = 4
 ·have := b5u kd ln cl nm (bs tx) w e3 (by rw [h4]; rfl);rw [show Cc ⟨kd, ln, cl, nm, tx⟩ = some (22, nm, []) by simp [Cc, h4]];exact this
 have e4 : ((kd : Int) == 4) = false := by rw [beq_eq_false_iff_ne]; omega
 by_cases h5 : kd = 5
 ·have := c0u kd ln cl nm (bs tx) w e3 e4 (by rw [h5]; rfl);rw [show Cc ⟨kd, ln, cl, nm, tx⟩ = some (23, 0, tx) by simp [Cc, h5]];exact this
 have e5 : ((kd : Int) == 5) = false := by rw [beq_eq_false_iff_ne]; omega
 by_cases h6 : kd = 6
 ·have e6 : ((kd : Int) == 6) = true := by rw [h6]; rfl
  by_cases x0 : tx = [116, 114, 117, 101]
  ·have := Tc kd ln cl nm (bs tx) w e3 e4 e5 e6 24 1 { data := #[] } true (zz fun w => c3l (bs tx) w  (by rw [A4, x0]; rfl));rw [show Cc ⟨kd, ln, cl, nm, tx⟩ = some (24, 1, []) by simp [Cc, h6, x0]];exact this
  by_cases x1 : tx = [102, 97, 108, 115, 101]
  ·have := Tc kd ln cl nm (bs tx) w e3 e4 e5 e6 24 0 { data := #[] } true (zz fun w => c3k (bs tx) w (by rw [A4]; simpa using x0) (by rw [A4, x1]; rfl));rw [show Cc ⟨kd, ln, cl, nm, tx⟩ = some (24, 0, []) by simp [Cc, h6, x1]];exact this
  by_cases x2 : tx = [110, 105, 108]
  ·have := Tc kd ln cl nm (bs tx) w e3 e4 e5 e6 25 0 { data := #[] } true (zz fun w => c3j (bs tx) w (by rw [A4]; simpa using x0) (by rw [A4]; simpa using x1) (by rw [A4, x2]; rfl));rw [show Cc ⟨kd, ln, cl, nm, tx⟩ = some (25, 0, []) by simp [Cc, h6, x2]];exact this
  have := Tc kd ln cl nm (bs tx) w e3 e4 e5 e6 0 0 { data := #[] } false (zz fun w => b2u (bs tx) w (by rw [A4]; simpa using x0) (by rw [A4]; simpa using x1) (by rw [A4]; simpa using x2));rw [show Cc ⟨kd, ln, cl, nm, tx⟩ = none by simp [Cc, h6, x0, x1, x2]];exact this
 have e6 : ((kd : Int) == 6) = false := by rw [beq_eq_false_iff_ne]; omega
 have := b5t kd ln cl nm (bs tx) w e3 e4 e5 e6;rw [show Cc ⟨kd, ln, cl, nm, tx⟩ = none by simp [Cc, h3, h4, h5, h6]];exact this
theorem Ls {w : World} {b tb to tc : Nat} {T : List Tok} {at_ d : Nat} {v : Value} {D : List Nd} {n : Nat} {ts : List Tok} (h : Sit w b tb to tc T at_ d v D n ts) : Calls prog 196 #[pR b] w (Fc b tb to tc T d D w (Ba d ts)) := by
 have hbl := h.rd.lt;obtain ⟨⟨kd, ln, cl, nm, tx⟩, ht⟩ : ∃ t, hd ts = t := ⟨_, rfl⟩;obtain ⟨a, cap, hv⟩ := A6 h.rd.own;obtain ⟨dn, hdn⟩ : ∃ dn, D.length = dn := ⟨_, rfl⟩;have HH := Cj h ht dn hdn a cap (by rw [hv, hdn]);obtain ⟨⟨k, m, x⟩, hq⟩ : ∃ q, Vb (Hn (hd ts)) = q := ⟨_, rfl⟩;obtain ⟨q, hq2⟩ : ∃ q, (Hn (hd ts)).isSome = q := ⟨_, rfl⟩;have HN := fun w => Ts (hd ts) w
 rw [hq, hq2, ht] at HN;obtain ⟨X, hX⟩ : ∃ X, bs tx = X := ⟨_, rfl⟩;obtain ⟨Y, hY⟩ : ∃ Y, bs x = Y := ⟨_, rfl⟩;replace HN : ∀ w, Calls prog 205 #[.agg #[.int .u8 kd, .int .i64 ln, .int .i64 cl, .int .i64 nm, .string (bs tx)]] w fun e w' => e = .returned (.tuple #[.agg #[.int .u8 k, .int .i64 0, .int .i64 0, .int .i64 0, .int .i64 m, .string (bs x)], .bool q]) ∧ Below w.heap.size w w' := HN
 rw [hX] at HN HH;rw [hY] at HN;replace HN := zz HN;replace HH := zz HH
 have HR : (q = true -> Ba d ts = .ok (.cons ⟨k, ln, cl, m, x⟩ .nil .nil) ts.tail ∧ (hd ts).kind ≠ 8) ∧ (q = false -> Ba d ts = .bad 5 ln cl) := by
  unfold Ba
  cases hK : Hn (hd ts) with
  | none =>
   rw [hK] at hq2;refine ⟨(fun e => by rw [<- hq2] at e; cases e), fun _ => ?_⟩
   simp [Hn] at hK; simp only [hK]; unfold N7; rw [ht]
  | some z =>
   rw [hK] at hq hq2;refine ⟨fun _ => ⟨?_, ?_⟩, (fun e => by rw [<- hq2] at e; cases e)⟩
   ·obtain ⟨z', hz1, hz2⟩ := Option.map_eq_some_iff.1 hK; rw [<- hz2] at hq; cases hq; simp only [hz1]; rw [ht]
   ·obtain ⟨z', hz1, hz2⟩ := Option.map_eq_some_iff.1 hK; have := Q8 hz1; omega
 clear hq2 hq
 cases q with
 | false =>
  rw [HR.2 rfl];have HP := zz (fun (w' : World) (hb : Below w.heap.size w w') => Se (h.rd.carry hb) h.next);rw [ht] at HP;replace h := zz h;clear HR ht;go_enter func196, ntmps196;go_wp2_with fail;refine HH.out.mono ?_;rintro e w1 ⟨rfl, hb1⟩;replace hb1 := zz hb1;go_wp2_with fail;refine (HN.out _).mono ?_;rintro e w2 ⟨rfl, hb2⟩;replace hb2 := zz (Ab (Ab hb1.out (Aa _ _)) hb2);go_wp2_with fail;refine (HP.out _ (Ab hb2.out (Aa _ _))).mono ?_;rintro e w3 ⟨rfl, h1, h2⟩;replace h1 := zz h1;replace h2 := zz h2;go_wp2_with fail;go_ret
  exact ⟨rfl, h1.out, Fr.only ((Onl.below (Ab hb2.out (Aa _ _))).trans h2.out) (by omega)⟩
 | true =>
  obtain ⟨HR1, hk⟩ := HR.1 rfl;rw [HR1];have HP := zz (fun (w' : World) (hb : Below w.heap.size w w') => Oh (h.rd.carry hb) h.next);have HT := zz (h.tail (w' := w) · hk);have hsz := h.rm;have HE : Hid (T.drop (at_ + 1) = ts.tail) := zz (by rw [<- List.drop_drop, h.dr]; simp);replace h := zz h;replace hY := zz hY;replace hdn := zz hdn;clear HR HR1 ht hk hv;go_enter func196, ntmps196;go_wp2_with fail;refine HH.out.mono ?_;rintro e w1 ⟨rfl, hb1⟩;replace hb1 := zz hb1;have hbl1 : b < w1.heap.size := by have := hb1.out.size; omega
  go_wp2_with fail;refine (HN.out _).mono ?_;rintro e w2 ⟨rfl, hb2⟩;have HM0 := zz ((SAt.made w1 kd ln cl nm X dn).below hb2);have hsz2 := hb2.size;simp only [World.size_alloc] at hsz2;replace hb2 := zz (Ab (Ab hb1.out (Aa _ _)) hb2);go_wp2_with fail;refine (HP.out _ (Ab hb2.out (Aa _ _))).mono ?_;rintro e w3 ⟨rfl, h1, h2⟩;have hSA : SAt w3 w1.heap.size kd ln cl nm X dn := (h2.block _ (by simp; omega) (by omega)).trans (HM0.out.below (Aa _ _));obtain ⟨m0, m1, m2, m3, m4, m5⟩ := hSA.at;clear hSA;have hn := (h2.block w2.heap.size (by simp) (by omega)).trans (heap_alloc_new w2 _);have n0 := cell_of_row w3 w2.heap.size 0 _ 37 (0, 0) hn;have n1 := cell_of_row w3 w2.heap.size 1 _ 37 (0, 0) hn;have n2 := cell_of_row w3 w2.heap.size 2 _ 37 (0, 0) hn;have n3 := cell_of_row w3 w2.heap.size 3 _ 37 (0, 0) hn;have n4 := cell_of_row w3 w2.heap.size 4 _ 37 (0, 0) hn;have n5 := cell_of_row w3 w2.heap.size 5 _ 37 (0, 0) hn;simp only [List.getElem?_toArray, List.getElem?_cons_zero, List.getElem?_cons_succ] at n0 n1 n2 n3 n4 n5;have HA := zz (Cu h1 kd ln cl dn nm X k 0 0 0 m Y 0 (by rw [hdn.out]; rfl) (by omega));replace h1 := zz h1;replace h2 := zz h2;clear hn;go_wp2_with fail;refine HA.out.mono ?_;rintro e w4 ⟨rfl, ⟨v4, h4⟩, h5⟩;replace h4 := zz h4;replace h5 := zz h5;go_wp2_with fail;go_ret;refine ⟨rfl, ⟨at_ + 1, v4, HE.out, by have := h4.out; rw [<- hY.out] at this; simpa [Fo.post, Fo.cnt, Inf.nd] using this⟩, (Fr.only ((Onl.below (Ab hb2.out (Aa _ _))).trans h2.out) (by omega)).trans h5.out⟩
theorem a1j {w : World} {b tb to tc : Nat} {T : List Tok} {at_ d : Nat} {v : Value} {D : List Nd} {n : Nat} {ts : List Tok} (h : Sit w b tb to tc T at_ d v D n ts) : Calls prog 219 #[pR b] w (Fc b tb to tc T d D w (Hv d ts)) := by
 have hbl := h.rd.lt;obtain ⟨⟨kd, ln, cl, nm, tx⟩, ht⟩ : ∃ t, hd ts = t := ⟨_, rfl⟩;obtain ⟨a, cap, hv⟩ := A6 h.rd.own;obtain ⟨dn, hdn⟩ : ∃ dn, D.length = dn := ⟨_, rfl⟩;have HH := Cj h ht dn hdn a cap (by rw [hv, hdn]);obtain ⟨⟨k, m, x⟩, hq⟩ : ∃ q, Vb (Cc (hd ts)) = q := ⟨_, rfl⟩;obtain ⟨q, hq2⟩ : ∃ q, (Cc (hd ts)).isSome = q := ⟨_, rfl⟩;have HN := fun w => Tb (hd ts) w
 rw [hq, hq2, ht] at HN;obtain ⟨X, hX⟩ : ∃ X, bs tx = X := ⟨_, rfl⟩;obtain ⟨Y, hY⟩ : ∃ Y, bs x = Y := ⟨_, rfl⟩;replace HN : ∀ w, Calls prog 222 #[.agg #[.int .u8 kd, .int .i64 ln, .int .i64 cl, .int .i64 nm, .string (bs tx)]] w fun e w' => e = .returned (.tuple #[.agg #[.int .u8 k, .int .i64 0, .int .i64 0, .int .i64 0, .int .i64 m, .string (bs x)], .bool q]) ∧ Below w.heap.size w w' := HN
 rw [hX] at HN HH;rw [hY] at HN;replace HN := zz HN;replace HH := zz HH
 have HR : (q = true -> Hv d ts = .ok (.cons ⟨k, ln, cl, m, x⟩ .nil .nil) ts.tail ∧ (hd ts).kind ≠ 8) ∧ (q = false -> Hv d ts = .bad 5 ln cl) := by
  unfold Hv
  cases hK : Cc (hd ts) with
  | none =>
   rw [hK] at hq2;refine ⟨(fun e => by rw [<- hq2] at e; cases e), fun _ => ?_⟩
   simp [N7, ht]
  | some z =>
   rw [hK] at hq hq2;refine ⟨fun _ => ⟨?_, ?_⟩, (fun e => by rw [<- hq2] at e; cases e)⟩
   ·cases hq; simp [ht]
   ·have := P9 hK; omega
 clear hq2 hq
 cases q with
 | false =>
  rw [HR.2 rfl];have HP := zz (fun (w' : World) (hb : Below w.heap.size w w') => Se (h.rd.carry hb) h.next);rw [ht] at HP;replace h := zz h;clear HR ht;go_enter func219, ntmps219;go_wp2_with fail;refine HH.out.mono ?_;rintro e w1 ⟨rfl, hb1⟩;replace hb1 := zz hb1;go_wp2_with fail;refine (HN.out _).mono ?_;rintro e w2 ⟨rfl, hb2⟩;replace hb2 := zz (Ab (Ab hb1.out (Aa _ _)) hb2);go_wp2_with fail;refine (HP.out _ (Ab hb2.out (Aa _ _))).mono ?_;rintro e w3 ⟨rfl, h1, h2⟩;replace h1 := zz h1;replace h2 := zz h2;go_wp2_with fail;go_ret
  exact ⟨rfl, h1.out, Fr.only ((Onl.below (Ab hb2.out (Aa _ _))).trans h2.out) (by omega)⟩
 | true =>
  obtain ⟨HR1, hk⟩ := HR.1 rfl;rw [HR1];have HP := zz (fun (w' : World) (hb : Below w.heap.size w w') => Oh (h.rd.carry hb) h.next);have HT := zz (h.tail (w' := w) · hk);have hsz := h.rm;have HE : Hid (T.drop (at_ + 1) = ts.tail) := zz (by rw [<- List.drop_drop, h.dr]; simp);replace h := zz h;replace hY := zz hY;replace hdn := zz hdn;clear HR HR1 ht hk hv;go_enter func219, ntmps219;go_wp2_with fail;refine HH.out.mono ?_;rintro e w1 ⟨rfl, hb1⟩;replace hb1 := zz hb1;have hbl1 : b < w1.heap.size := by have := hb1.out.size; omega
  go_wp2_with fail;refine (HN.out _).mono ?_;rintro e w2 ⟨rfl, hb2⟩;have HM0 := zz ((SAt.made w1 kd ln cl nm X dn).below hb2);have hsz2 := hb2.size;simp only [World.size_alloc] at hsz2;replace hb2 := zz (Ab (Ab hb1.out (Aa _ _)) hb2);go_wp2_with fail;refine (HP.out _ (Ab hb2.out (Aa _ _))).mono ?_;rintro e w3 ⟨rfl, h1, h2⟩;have hSA : SAt w3 w1.heap.size kd ln cl nm X dn := (h2.block _ (by simp; omega) (by omega)).trans (HM0.out.below (Aa _ _));obtain ⟨m0, m1, m2, m3, m4, m5⟩ := hSA.at;clear hSA;have hn := (h2.block w2.heap.size (by simp) (by omega)).trans (heap_alloc_new w2 _);have n0 := cell_of_row w3 w2.heap.size 0 _ 37 (0, 0) hn;have n1 := cell_of_row w3 w2.heap.size 1 _ 37 (0, 0) hn;have n2 := cell_of_row w3 w2.heap.size 2 _ 37 (0, 0) hn;have n3 := cell_of_row w3 w2.heap.size 3 _ 37 (0, 0) hn;have n4 := cell_of_row w3 w2.heap.size 4 _ 37 (0, 0) hn;have n5 := cell_of_row w3 w2.heap.size 5 _ 37 (0, 0) hn;simp only [List.getElem?_toArray, List.getElem?_cons_zero, List.getElem?_cons_succ] at n0 n1 n2 n3 n4 n5;have HA := zz (Cu h1 kd ln cl dn nm X k 0 0 0 m Y 0 (by rw [hdn.out]; rfl) (by omega));replace h1 := zz h1;replace h2 := zz h2;clear hn;go_wp2_with fail;refine HA.out.mono ?_;rintro e w4 ⟨rfl, ⟨v4, h4⟩, h5⟩;replace h4 := zz h4;replace h5 := zz h5;go_wp2_with fail;go_ret;refine ⟨rfl, ⟨at_ + 1, v4, HE.out, by have := h4.out; rw [<- hY.out] at this; simpa [Fo.post, Fo.cnt, Inf.nd] using this⟩, (Fr.only ((Onl.below (Ab hb2.out (Aa _ _))).trans h2.out) (by omega)).trans h5.out⟩
end
end
end Go.Proofs.YtoaplbljflhheaaGreat
