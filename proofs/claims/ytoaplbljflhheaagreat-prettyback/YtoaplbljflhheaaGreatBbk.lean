/-
 Contracts and plain facts on the way to PrettyBack. Conditions: as each says.
-/
import Derived.IntWalk
import Derived.Test.YtoaplbljflhheaaGreatBbi
import Derived.Test.YtoaplbljflhheaaGreatBaj
set_option maxHeartbeats 40000000
set_option maxRecDepth 100000
set_option linter.unusedVariables false
set_option linter.unusedSimpArgs false
namespace Go.Proofs.YtoaplbljflhheaaGreat
open _root_.Go.Proofs.Tryz
section
section
open Go.RowKit Go.Sort
theorem c0m {w : World} {b tb to tc : Nat} {T : List Tok} {at_ d : Nat} {v : Value} {D : List Nd} {n : Nat} {ts : List Tok} (h : Sit w b tb to tc T at_ d v D n ts) {B : Pt} (hB : Ef 144 (n - 1) B) : Calls prog 208 #[pR b] w (Fc b tb to tc T d D w (S8 B d ts)) := by
 have hbl := h.rd.lt;unfold S8 Hp
 cases q0 : sees [101, 108, 115, 101] ts with
 | false =>
  have Q0 := zz (Ah h.rd h.next { data := #[101, 108, 115, 101] } [101, 108, 115, 101] (by rw [ByteArray.toList_eq]) false q0);rw [if_neg (by simp)];replace h := zz h;go_enter func208, ntmps208;go_wp2_with fail;refine Q0.out.mono ?_;rintro e w1 ⟨rfl, hb⟩;replace hb := zz hb;go_wp2_with fail;go_ret
  exact ⟨rfl, ⟨at_, v, h.out.dr, by simpa [Fo.post] using h.out.rd.carry hb.out⟩, Fr.only (Onl.below hb.out) (by omega)⟩
 | true =>
  have Q0 := zz (Ah h.rd h.next { data := #[101, 108, 115, 101] } [101, 108, 115, 101] (by rw [ByteArray.toList_eq]) true q0)
  have hk : (hd ts).kind ≠ 8 := by
   obtain ⟨t, l, rfl, hk, _⟩ := B0 q0;simp [hd]; omega
  have hlt : at_ < T.length := (List.getElem?_eq_some_iff.1 h.next).1;have htn := h.rd.tn;have hn : at_ < 1000000 := by omega
  rw [if_pos rfl];unfold Ci;replace hk := zz hk;replace h := zz h;clear q0 hlt htn;go_enter func208, ntmps208;go_wp2_with fail;refine Q0.out.mono ?_;rintro e w1 ⟨rfl, hb⟩;have c1 := (h.out.rd.carry hb).c1;have fz := (h.out.rd.carry hb).fz;have HT := (h.out.carry hb).tail ((h.out.carry hb).rd.bump (at_ + 1)) hk.out;rw [show ((at_ + 1 : Nat) : Int) = (at_ : Int) + 1 by omega] at HT;have HC := zz (hB HT);have HF := zz ((Fr.only (Onl.below hb) (by omega)).trans (Fr.only (Onl.set b w1 1 (.int .i64 ((at_ : Int) + 1))) (by have := (h.out.rd.carry hb).lt; omega)));replace hb := zz hb;clear HT;go_wp2_with fail;refine HC.out.mono ?_;rintro e w2 ⟨rfl, hw⟩;replace hw := zz hw;go_wp2_with fail;go_ret;exact ⟨rfl, hw.out.back HF.out⟩
theorem b1o {w : World} {b tb to tc : Nat} {T : List Tok} {at_ d : Nat} {v : Value} {D : List Nd} {n : Nat} {ts : List Tok} (h : Sit w b tb to tc T at_ d v D n ts) {E : Pt} (hE : Ef 39 n E) : Calls prog 209 #[pR b] w (Fc b tb to tc T d D w (Jj E d ts)) := by
 have hbl := h.rd.lt;unfold Jj Hp
 cases q0 : sees [59] ts with
 | true =>
  have Q0 := zz (Ah h.rd h.next { data := #[59] } [59] (by rw [ByteArray.toList_eq]) true q0);rw [if_pos rfl];replace h := zz h;go_enter func209, ntmps209;go_wp2_with fail;refine Q0.out.mono ?_;rintro e w1 ⟨rfl, hb⟩;replace hb := zz hb;go_wp2_with fail;go_ret
  exact ⟨rfl, ⟨at_, v, h.out.dr, by simpa [Fo.post] using h.out.rd.carry hb.out⟩, Fr.only (Onl.below hb.out) (by omega)⟩
 | false =>
  have Q0 := zz (Ah h.rd h.next { data := #[59] } [59] (by rw [ByteArray.toList_eq]) false q0);rw [if_neg (by simp)];have HC := zz (fun (w' : World) (hb : Below w.heap.size w w') => hE (h.carry hb));clear h;go_enter func209, ntmps209;go_wp2_with fail;refine Q0.out.mono ?_;rintro e w1 ⟨rfl, hb⟩;replace hb := zz hb;go_wp2_with fail;refine (HC.out _ hb.out).mono ?_;rintro e w2 ⟨rfl, hw⟩;replace hw := zz hw;go_wp2_with fail;go_ret;exact ⟨rfl, hw.out.back (Fr.only (Onl.below hb.out) (by omega))⟩
theorem c1o {w : World} {b tb to tc : Nat} {T : List Tok} {at_ d : Nat} {v : Value} {D : List Nd} {n : Nat} {ts : List Tok} (h : Sit w b tb to tc T at_ d v D n ts) {E : Pt} {N : Nat} (hq : sees [118, 97, 114] ts = true) (hE : Ef 39 n E) (hg : Gd 0 E) (hN : n <= N) : Calls prog 206 #[pR b] w (Fc b tb to tc T d D w (a14 E N d ts)) := by
 have hbl := h.rd.lt;obtain ⟨⟨kd, ln, cl, nm, tx⟩, ht⟩ : ∃ t, hd ts = t := ⟨_, rfl⟩;obtain ⟨a, cap, hv⟩ := A6 h.rd.own;obtain ⟨X, hX⟩ : ∃ X, bs tx = X := ⟨_, rfl⟩;obtain ⟨dn, hdn⟩ : ∃ dn, D.length = dn := ⟨_, rfl⟩;have HH : Hid (Calls prog 136 #[pR b] w fun e w' => e = .returned (sV kd ln cl nm X dn) ∧ Below w.heap.size w w') := zz (by have := Cj h ht dn hdn a cap (by rw [hv, hdn]); rw [hX] at this; exact this);have hk : (hd ts).kind ≠ 8 := by obtain ⟨t, l, rfl, hk, _⟩ := B0 hq; simp [hd]; omega
 have hlt : at_ < T.length := (List.getElem?_eq_some_iff.1 h.next).1;have htn := h.rd.tn;have hn : at_ < 1000000 := by omega
 replace hk := zz hk;obtain ⟨⟨kd2, ln2, cl2, nm2, tx2⟩, ht2⟩ : ∃ t, hd ts.tail = t := ⟨_, rfl⟩;obtain ⟨X2, hX2⟩ : ∃ X2, bs tx2 = X2 := ⟨_, rfl⟩;have hF := a7n kd2 ln2 cl2 nm2 X2;obtain ⟨O, hO⟩ : ∃ O, (a14 E N) d ts = O := ⟨_, rfl⟩;rw [hO];replace hO := zz hO;have hs := zz h;replace ht := zz ht;replace hX := zz hX;replace hdn := zz hdn;replace hv := zz hv;replace ht2 := zz ht2;replace hX2 := zz hX2;clear h hlt htn;go_enter func206, ntmps206;go_wp2_with fail;refine HH.out.mono ?_;rintro e w1 ⟨rfl, hb⟩;have c1 := (hs.out.rd.carry hb).c1;have fz := (hs.out.rd.carry hb).fz;have hbl1 := (hs.out.rd.carry hb).lt;have HT := (hs.out.carry hb).tail ((hs.out.carry hb).rd.bump (at_ + 1)) hk.out;rw [show ((at_ + 1 : Nat) : Int) = (at_ : Int) + 1 by omega] at HT;replace HT := zz HT;replace hb := zz hb;go_wp2_with fail;obtain ⟨W, hW⟩ : ∃ W, W = (w1.setCell ⟨b, 1, none⟩ (.int .i64 ((at_ : Int) + 1))).alloc (.cells #[.int .u8 kd, .int .i64 ln, .int .i64 cl, .int .i64 nm, .string X, .int .i64 dn] 93) := ⟨_, rfl⟩;rw [<- hW];have HS0 : Hid (Sit W b tb to tc T (at_ + 1) d v D (n - 1) ts.tail) := zz (by rw [hW]; exact HT.out.carry (Aa _ _));have HF0 : Hid (Fr b w W) := zz (by rw [hW]; exact ((Fr.only (Onl.below hb.out) (by omega)).trans (Fr.only (Onl.set _ _ _ _) (by omega))).trans (Fr.only (Onl.below (Aa _ _)) (by simp; omega)));have HM0 : Hid (SAt W w1.heap.size kd ln cl nm X dn) := zz (by rw [hW]; have := SAt.made (w1.setCell ⟨b, 1, none⟩ (.int .i64 ((at_ : Int) + 1))) kd ln cl nm X dn; simpa using this);clear hW HT c1 fz;have HN0 := zz (HS0.out.next_at ht2.out W (Below.refl _ _));rw [hX2.out] at HN0;refine HN0.out.mono ?_;rintro e wn ⟨rfl, hbn⟩;replace HF0 := zz (HF0.out.trans (Fr.only (Onl.below hbn) (by have := HS0.out.rd.lt; omega)));replace HS0 := zz (HS0.out.carry hbn);replace HM0 := zz (HM0.out.below hbn);replace hbn := zz hbn;go_wp2_with fail
 cases e1 : (Hc 1) d ts.tail with
 | bad c l k =>
  have hA := hO.out;simp only [a14, B7, Ci, Cv, Fd, Bb, Out.bind, e1] at hA;subst hA;replace e1 := zz e1;have HC1 := zz (D5 (Ft HS0.out 1 (by decide)) e1.out);refine HC1.out.mono ?_;rintro e w2 ⟨rfl, rf, fr⟩;replace rf := zz rf;replace fr := zz fr;go_wp2_with fail;go_ret
  exact ⟨rfl, rf.out, HF0.out.trans fr.out⟩
 | ok F1 r1 =>
  replace e1 := zz e1;have HC1 := zz (J1 (Ft HS0.out 1 (by decide)) e1.out);refine HC1.out.mono ?_;rintro e w2 ⟨rfl, ⟨at1, v1, dr, rd⟩, fr⟩;have HS1 := zz (HS0.out.then (s := 1) (Gg 1 (by decide) (by decide) d ts.tail F1 r1 e1.out) dr rd);have HF1 := zz (HF0.out.trans fr);have HM1 := zz (HM0.out.fr fr (by omega));clear dr rd fr;go_wp2_with fail
  cases e2 : (take [58]) d r1 with
  | bad c l k =>
   have hA := hO.out;simp only [a14, B7, Ci, Cv, Fd, Bb, Out.bind, e1.out, e2] at hA;subst hA;replace e2 := zz e2;have HC2 := zz (D5 (D9 HS1.out { data := #[58] } [58] (by rw [ByteArray.toList_eq])) e2.out);refine HC2.out.mono ?_;rintro e w3 ⟨rfl, rf, fr⟩;replace rf := zz rf;replace fr := zz fr;go_wp2_with fail;go_ret
   exact ⟨rfl, rf.out, HF1.out.trans fr.out⟩
  | ok F2 r2 =>
   replace e2 := zz e2;have HC2 := zz (J1 (D9 HS1.out { data := #[58] } [58] (by rw [ByteArray.toList_eq])) e2.out);refine HC2.out.mono ?_;rintro e w3 ⟨rfl, ⟨at2, v2, dr, rd⟩, fr⟩;have HS2 := zz (HS1.out.then (s := 1) (Ct [58] d r1 F2 r2 e2.out) dr rd);have HF2 := zz (HF1.out.trans fr);have HM2 := zz (HM1.out.fr fr (by omega));clear dr rd fr;go_wp2_with fail
   cases e3 : (Eb N) d r2 with
   | bad c l k =>
    have hA := hO.out;simp only [a14, B7, Ci, Cv, Fd, Bb, Out.bind, e1.out, e2.out, e3] at hA;subst hA;replace e3 := zz e3;have HC3 := zz (D5 ((Ih N) (HS2.out.up (by omega))) e3.out);refine HC3.out.mono ?_;rintro e w4 ⟨rfl, rf, fr⟩;replace rf := zz rf;replace fr := zz fr;go_wp2_with fail;go_ret
    exact ⟨rfl, rf.out, HF2.out.trans fr.out⟩
   | ok F3 r3 =>
    replace e3 := zz e3;have HC3 := zz (J1 ((Ih N) (HS2.out.up (by omega))) e3.out);refine HC3.out.mono ?_;rintro e w4 ⟨rfl, ⟨at3, v3, dr, rd⟩, fr⟩;have HS3 := zz (HS2.out.then (s := 0) (Jd N d r2 F3 r3 e3.out) dr rd);have HF3 := zz (HF2.out.trans fr);have HM3 := zz (HM2.out.fr fr (by omega));clear dr rd fr;go_wp2_with fail
    cases e4 : (take [61]) d r3 with
    | bad c l k =>
     have hA := hO.out;simp only [a14, B7, Ci, Cv, Fd, Bb, Out.bind, e1.out, e2.out, e3.out, e4] at hA;subst hA;replace e4 := zz e4;have HC4 := zz (D5 (D9 HS3.out { data := #[61] } [61] (by rw [ByteArray.toList_eq])) e4.out);refine HC4.out.mono ?_;rintro e w5 ⟨rfl, rf, fr⟩;replace rf := zz rf;replace fr := zz fr;go_wp2_with fail;go_ret
     exact ⟨rfl, rf.out, HF3.out.trans fr.out⟩
    | ok F4 r4 =>
     replace e4 := zz e4;have HC4 := zz (J1 (D9 HS3.out { data := #[61] } [61] (by rw [ByteArray.toList_eq])) e4.out);refine HC4.out.mono ?_;rintro e w5 ⟨rfl, ⟨at4, v4, dr, rd⟩, fr⟩;have HS4 := zz (HS3.out.then (s := 1) (Ct [61] d r3 F4 r4 e4.out) dr rd);have HF4 := zz (HF3.out.trans fr);have HM4 := zz (HM3.out.fr fr (by omega));clear dr rd fr;go_wp2_with fail
     cases e5 : (E) d r4 with
     | bad c l k =>
      have hA := hO.out;simp only [a14, B7, Ci, Cv, Fd, Bb, Out.bind, e1.out, e2.out, e3.out, e4.out, e5] at hA;subst hA;replace e5 := zz e5;have HC5 := zz (D5 (hE (HS4.out.up (by omega))) e5.out);refine HC5.out.mono ?_;rintro e w6 ⟨rfl, rf, fr⟩;replace rf := zz rf;replace fr := zz fr;go_wp2_with fail;go_ret
      exact ⟨rfl, rf.out, HF4.out.trans fr.out⟩
     | ok F5 r5 =>
      replace e5 := zz e5;have HC5 := zz (J1 (hE (HS4.out.up (by omega))) e5.out);refine HC5.out.mono ?_;rintro e w6 ⟨rfl, ⟨at5, v5, dr, rd⟩, fr⟩;have HS5 := zz (HS4.out.then (s := 0) (hg d r4 F5 r5 e5.out) dr rd);have HF5 := zz (HF4.out.trans fr);have HM5 := zz (HM4.out.fr fr (by omega));clear dr rd fr;go_wp2_with fail
      cases e6 : (take [59]) d r5 with
      | bad c l k =>
       have hA := hO.out;simp only [a14, B7, Ci, Cv, Fd, Bb, Out.bind, e1.out, e2.out, e3.out, e4.out, e5.out, e6] at hA;subst hA;replace e6 := zz e6;have HC6 := zz (D5 (D6 _ HS5.out) e6.out);refine HC6.out.mono ?_;rintro e w7 ⟨rfl, rf, fr⟩;replace rf := zz rf;replace fr := zz fr;go_wp2_with fail;go_ret
       exact ⟨rfl, rf.out, HF5.out.trans fr.out⟩
      | ok F6 r6 =>
       replace e6 := zz e6;have hA := hO.out;simp only [a14, B7, Ci, Cv, Fd, Bb, Out.bind, e1.out, e2.out, e3.out, e4.out, e5.out, e6.out] at hA;subst hA;have HC6 := zz (J1 (D6 _ HS5.out) e6.out);refine HC6.out.mono ?_;rintro e w7 ⟨rfl, ⟨at6, v6, dr, rd⟩, fr⟩;have HS6 := zz (HS5.out.then (s := 1) (Ct [59] d r5 F6 r6 e6.out) dr rd);have HF6 := zz (HF5.out.trans fr);have HM6 := zz (HM5.out.fr fr (by omega));clear dr rd fr;obtain ⟨m0, m1, m2, m3, m4, m5⟩ := HM6.out.at;go_wp2_with fail;have HA := zz (Cu HS6.out.rd kd ln cl dn nm X 7 0 0 0 0 X2 (F1.app (F2.app (F3.app (F4.app (F5.app (F6.app .nil)))))).cnt (by have := hdn.out; simp [Ao, Bx, Fo.cnt]; omega) (by have := HS6.out.rm; omega));refine HA.out.mono ?_;rintro e wa ⟨rfl, ⟨va, rda⟩, fra⟩;replace rda := zz rda;replace fra := zz fra;go_wp2_with fail;go_ret;exact ⟨rfl, ⟨at6, va, HS6.out.dr, Do rda.out (by simp [Bo, Fo.post, List.append_assoc]) (by simp [mkK, mkX, mkY, mkN, Inf.nd, ht.out, ht2.out, hX2.out]; try rfl)⟩, HF6.out.trans fra.out⟩
theorem Pw {w : World} {b tb to tc : Nat} {T : List Tok} {at_ : Nat} {d : Int} {v : Value} {D : List Nd} {F : Fo} (h : Rd w b tb to tc T at_ d v (D ++ F.post)) (h1 : a68 F) :
  ∃ g j cap, v = .slice (some ⟨g, 0, none⟩) (j + 1) cap ∧ w.cell? ⟨g, j * 6, none⟩ = some (.int .u8 (Ho F)) ∧ (D ++ F.post).length = j + 1 := by
 obtain ⟨i, k, rfl, _⟩ := h1;have hD : D ++ (Fo.cons i k .nil).post = (D ++ k.post) ++ [i.nd k.cnt] := by simp [Fo.post]
 rw [hD] at h ⊢;have ho := h.own;rcases ho.2 with ⟨_, h0⟩ | ⟨g, cap, cur, hv, hr⟩
 ·simp at h0
 ·refine ⟨g, (D ++ k.post).length, cap, by rw [hv]; simp; omega, ?_, by simp; omega⟩
  have := World.ownsRow.cells ho (g := g) (by rw [hv]; rfl) ((D ++ k.post).length * 6) (.int .u8 (i.kind : Nat)) (by
   rw [G0, List.getElem?_append_right (by rw [Dd]; omega), Dd]
   simp [Da, Bn, Inf.nd])
  rw [D7] at this;simpa [Ho] using this
theorem a2q {w : World} {b tb to tc : Nat} {T : List Tok} {at_ d : Nat} {v : Value} {D : List Nd} {n : Nat} {ts : List Tok} (h : Sit w b tb to tc T at_ d v D n ts) {E : Pt} (hE : Ef 39 n E) (hg : Gd 0 E) {F1 : Fo} {r1 : List Tok} (e1 : E d ts = .ok F1 r1) (h1 : a68 F1) {K : Nat} (hkv : Ho F1 = K) (hK : K = 26 ∨ K = 28 ∨ K = 29) : Calls prog 210 #[pR b] w (Fc b tb to tc T d D w (M2 E d ts)) := by
 rcases hK with rfl | rfl | rfl
 all_goals
  have hbl := h.rd.lt;replace h1 := zz h1;have hkv0 := hkv;replace hkv := zz hkv;obtain ⟨⟨kd, ln, cl, nm, tx⟩, ht⟩ : ∃ t, hd ts = t := ⟨_, rfl⟩;obtain ⟨a, cap, hv⟩ := A6 h.rd.own;obtain ⟨X, hX⟩ : ∃ X, bs tx = X := ⟨_, rfl⟩;obtain ⟨dn, hdn⟩ : ∃ dn, D.length = dn := ⟨_, rfl⟩;have HH : Hid (Calls prog 136 #[pR b] w fun e w' => e = .returned (sV kd ln cl nm X dn) ∧ Below w.heap.size w w') := zz (by have := Cj h ht dn hdn a cap (by rw [hv, hdn]); rw [hX] at this; exact this);obtain ⟨O, hO⟩ : ∃ O, (M2 E) d ts = O := ⟨_, rfl⟩;rw [hO];replace hO := zz hO;replace hkv0 := zz hkv0;replace e1 := zz e1;have hs := zz h;replace ht := zz ht;replace hX := zz hX;replace hdn := zz hdn;replace hv := zz hv;clear h;go_enter func210, ntmps210;go_wp2_with fail;refine HH.out.mono ?_;rintro e w1 ⟨rfl, hb⟩;have hbl1 := (hs.out.rd.carry hb).lt;replace hb := zz hb;go_wp2_with fail;obtain ⟨W, hW⟩ : ∃ W, W = w1.alloc (.cells #[.int .u8 kd, .int .i64 ln, .int .i64 cl, .int .i64 nm, .string X, .int .i64 dn] 93) := ⟨_, rfl⟩;rw [<- hW];have HS0 : Hid (Sit W b tb to tc T at_ d v D n ts) := zz (by rw [hW]; exact (hs.out.carry hb.out).carry (Aa _ _));have HF0 : Hid (Fr b w W) := zz (by rw [hW]; exact (Fr.only (Onl.below hb.out) (by omega)).trans (Fr.only (Onl.below (Aa _ _)) (by omega)));have HM0 : Hid (SAt W w1.heap.size kd ln cl nm X dn) := zz (by rw [hW]; exact SAt.made w1 kd ln cl nm X dn);clear hW;have HC1 := zz (J1 (hE (HS0.out.up (by omega))) e1.out);refine HC1.out.mono ?_;rintro e w2 ⟨rfl, ⟨at1, v1, dr, rd⟩, fr⟩;have HS1 := zz (HS0.out.then (s := 0) (hg d ts F1 r1 e1.out) dr rd);have HF1 := zz (HF0.out.trans fr);have HM1 := zz (HM0.out.fr fr (by omega));clear dr rd fr;obtain ⟨g, j, cap1, hv1, kc, hj⟩ := Pw HS1.out.rd h1.out;have c3 := HS1.out.rd.c3;rw [hv1] at c3;rw [hkv.out] at kc;have hjm := HS1.out.rm;rw [hj] at hjm;have hj1 : IntKind.i64.wrap (j : Int) = (j : Int) := IntWalk.i64_in _ (by omega);clear hj hjm hv1;go_wp2_with fail
  go_quiet (fail)
  replace HF1 := zz (HF1.out.trans (Fr.only (Onl.below (An _ nq)) (by have := HS1.out.rd.lt; omega)));replace HS1 := zz (HS1.out.carry (An _ nq));replace HM1 := zz (HM1.out.below (An _ nq));clear kc c3 hj1;go_wp2_with fail
  cases e2 : (take [61]) d r1 with
  | bad c l k =>
   have hA := hO.out;simp only [M2, Fd, Out.bind, hkv0.out, true_or, or_true, if_true, e1.out, e2] at hA;subst hA;replace e2 := zz e2;have HC2 := zz (D5 (D9 HS1.out { data := #[61] } [61] (by rw [ByteArray.toList_eq])) e2.out);refine HC2.out.mono ?_;rintro e w3 ⟨rfl, rf, fr⟩;replace rf := zz rf;replace fr := zz fr;go_wp2_with fail;go_ret
   exact ⟨rfl, rf.out, HF1.out.trans fr.out⟩
  | ok F2 r2 =>
   replace e2 := zz e2;have HC2 := zz (J1 (D9 HS1.out { data := #[61] } [61] (by rw [ByteArray.toList_eq])) e2.out);refine HC2.out.mono ?_;rintro e w3 ⟨rfl, ⟨at2, v2, dr, rd⟩, fr⟩;have HS2 := zz (HS1.out.then (s := 1) (Ct [61] d r1 F2 r2 e2.out) dr rd);have HF2 := zz (HF1.out.trans fr);have HM2 := zz (HM1.out.fr fr (by omega));clear dr rd fr;go_wp2_with fail
   cases e3 : (E) d r2 with
   | bad c l k =>
    have hA := hO.out;simp only [M2, Fd, Out.bind, hkv0.out, true_or, or_true, if_true, e1.out, e2.out, e3] at hA;subst hA;replace e3 := zz e3;have HC3 := zz (D5 (hE (HS2.out.up (by omega))) e3.out);refine HC3.out.mono ?_;rintro e w4 ⟨rfl, rf, fr⟩;replace rf := zz rf;replace fr := zz fr;go_wp2_with fail;go_ret
    exact ⟨rfl, rf.out, HF2.out.trans fr.out⟩
   | ok F3 r3 =>
    replace e3 := zz e3;have HC3 := zz (J1 (hE (HS2.out.up (by omega))) e3.out);refine HC3.out.mono ?_;rintro e w4 ⟨rfl, ⟨at3, v3, dr, rd⟩, fr⟩;have HS3 := zz (HS2.out.then (s := 0) (hg d r2 F3 r3 e3.out) dr rd);have HF3 := zz (HF2.out.trans fr);have HM3 := zz (HM2.out.fr fr (by omega));clear dr rd fr;go_wp2_with fail
    cases e4 : (take [59]) d r3 with
    | bad c l k =>
     have hA := hO.out;simp only [M2, Fd, Out.bind, hkv0.out, true_or, or_true, if_true, e1.out, e2.out, e3.out, e4] at hA;subst hA;replace e4 := zz e4;have HC4 := zz (D5 (D6 _ HS3.out) e4.out);refine HC4.out.mono ?_;rintro e w5 ⟨rfl, rf, fr⟩;replace rf := zz rf;replace fr := zz fr;go_wp2_with fail;go_ret
     exact ⟨rfl, rf.out, HF3.out.trans fr.out⟩
    | ok F4 r4 =>
     replace e4 := zz e4;have hA := hO.out;simp only [M2, Fd, Out.bind, hkv0.out, true_or, or_true, if_true, e1.out, e2.out, e3.out, e4.out] at hA;subst hA;have HC4 := zz (J1 (D6 _ HS3.out) e4.out);refine HC4.out.mono ?_;rintro e w5 ⟨rfl, ⟨at4, v4, dr, rd⟩, fr⟩;have HS4 := zz (HS3.out.then (s := 1) (Ct [59] d r3 F4 r4 e4.out) dr rd);have HF4 := zz (HF3.out.trans fr);have HM4 := zz (HM3.out.fr fr (by omega));clear dr rd fr;obtain ⟨m0, m1, m2, m3, m4, m5⟩ := HM4.out.at;go_wp2_with fail;have HA := zz (Cu HS4.out.rd kd ln cl dn nm X 8 0 0 0 0 { data := #[] } (F1.app (F2.app (F3.app F4))).cnt (by have := hdn.out; simp [Ao, Bx, Fo.cnt]; omega) (by have := HS4.out.rm; omega));refine HA.out.mono ?_;rintro e wa ⟨rfl, ⟨va, rda⟩, fra⟩;replace rda := zz rda;replace fra := zz fra;go_wp2_with fail;go_ret;exact ⟨rfl, ⟨at4, va, HS4.out.dr, Do rda.out (by simp [Bo, Fo.post, List.append_assoc]) (by simp [mkK, mkX, mkY, mkN, Inf.nd, ht.out]; try rfl)⟩, HF4.out.trans fra.out⟩
theorem b8c {w : World} {b tb to tc : Nat} {T : List Tok} {at_ d : Nat} {v : Value} {D : List Nd} {n : Nat} {ts : List Tok} (h : Sit w b tb to tc T at_ d v D n ts) {E : Pt} (hE : Ef 39 n E) (hg : Gd 0 E) {F1 : Fo} {r1 : List Tok} (e1 : E d ts = .ok F1 r1) (h1 : a68 F1) (hkv : Ho F1 = 27) : Calls prog 210 #[pR b] w (Fc b tb to tc T d D w (M2 E d ts)) := by
 have hbl := h.rd.lt;replace h1 := zz h1;have hkv0 := hkv;replace hkv := zz hkv;obtain ⟨⟨kd, ln, cl, nm, tx⟩, ht⟩ : ∃ t, hd ts = t := ⟨_, rfl⟩;obtain ⟨a, cap, hv⟩ := A6 h.rd.own;obtain ⟨X, hX⟩ : ∃ X, bs tx = X := ⟨_, rfl⟩;obtain ⟨dn, hdn⟩ : ∃ dn, D.length = dn := ⟨_, rfl⟩;have HH : Hid (Calls prog 136 #[pR b] w fun e w' => e = .returned (sV kd ln cl nm X dn) ∧ Below w.heap.size w w') := zz (by have := Cj h ht dn hdn a cap (by rw [hv, hdn]); rw [hX] at this; exact this);obtain ⟨O, hO⟩ : ∃ O, (M2 E) d ts = O := ⟨_, rfl⟩;rw [hO];replace hO := zz hO;replace hkv0 := zz hkv0;replace e1 := zz e1;have hs := zz h;replace ht := zz ht;replace hX := zz hX;replace hdn := zz hdn;replace hv := zz hv;clear h;go_enter func210, ntmps210;go_wp2_with fail;refine HH.out.mono ?_;rintro e w1 ⟨rfl, hb⟩;have hbl1 := (hs.out.rd.carry hb).lt;replace hb := zz hb;go_wp2_with fail;obtain ⟨W, hW⟩ : ∃ W, W = w1.alloc (.cells #[.int .u8 kd, .int .i64 ln, .int .i64 cl, .int .i64 nm, .string X, .int .i64 dn] 93) := ⟨_, rfl⟩;rw [<- hW];have HS0 : Hid (Sit W b tb to tc T at_ d v D n ts) := zz (by rw [hW]; exact (hs.out.carry hb.out).carry (Aa _ _));have HF0 : Hid (Fr b w W) := zz (by rw [hW]; exact (Fr.only (Onl.below hb.out) (by omega)).trans (Fr.only (Onl.below (Aa _ _)) (by omega)));have HM0 : Hid (SAt W w1.heap.size kd ln cl nm X dn) := zz (by rw [hW]; exact SAt.made w1 kd ln cl nm X dn);clear hW;have HC1 := zz (J1 (hE (HS0.out.up (by omega))) e1.out);refine HC1.out.mono ?_;rintro e w2 ⟨rfl, ⟨at1, v1, dr, rd⟩, fr⟩;have HS1 := zz (HS0.out.then (s := 0) (hg d ts F1 r1 e1.out) dr rd);have HF1 := zz (HF0.out.trans fr);have HM1 := zz (HM0.out.fr fr (by omega));clear dr rd fr;obtain ⟨g, j, cap1, hv1, kc, hj⟩ := Pw HS1.out.rd h1.out;have c3 := HS1.out.rd.c3;rw [hv1] at c3;rw [hkv.out] at kc;have hjm := HS1.out.rm;rw [hj] at hjm;have hj1 : IntKind.i64.wrap (j : Int) = (j : Int) := IntWalk.i64_in _ (by omega);clear hj hjm hv1;go_wp2_with fail
 go_quiet (fail)
 replace HF1 := zz (HF1.out.trans (Fr.only (Onl.below (An _ nq)) (by have := HS1.out.rd.lt; omega)));replace HS1 := zz (HS1.out.carry (An _ nq));replace HM1 := zz (HM1.out.below (An _ nq));clear kc c3 hj1;go_wp2_with fail
 cases e2 : (take [59]) d r1 with
 | bad c l k =>
  have hA := hO.out;simp only [M2, Out.bind, hkv0.out, Nat.reduceEqDiff, or_self, if_false, if_true, e1.out, e2] at hA;subst hA;replace e2 := zz e2;have HC2 := zz (D5 (D6 _ HS1.out) e2.out);refine HC2.out.mono ?_;rintro e w3 ⟨rfl, rf, fr⟩;replace rf := zz rf;replace fr := zz fr;go_wp2_with fail;go_ret
  exact ⟨rfl, rf.out, HF1.out.trans fr.out⟩
 | ok F2 r2 =>
  replace e2 := zz e2;have hA := hO.out;simp only [M2, Out.bind, hkv0.out, Nat.reduceEqDiff, or_self, if_false, if_true, e1.out, e2.out] at hA;subst hA;have HC2 := zz (J1 (D6 _ HS1.out) e2.out);refine HC2.out.mono ?_;rintro e w3 ⟨rfl, ⟨at2, v2, dr, rd⟩, fr⟩;have HS2 := zz (HS1.out.then (s := 1) (Ct [59] d r1 F2 r2 e2.out) dr rd);have HF2 := zz (HF1.out.trans fr);have HM2 := zz (HM1.out.fr fr (by omega));clear dr rd fr;obtain ⟨m0, m1, m2, m3, m4, m5⟩ := HM2.out.at;go_wp2_with fail;have HA := zz (Cu HS2.out.rd kd ln cl dn nm X 13 0 0 0 0 { data := #[] } (F1.app F2).cnt (by have := hdn.out; simp [Ao, Bx, Fo.cnt]; omega) (by have := HS2.out.rm; omega));refine HA.out.mono ?_;rintro e wa ⟨rfl, ⟨va, rda⟩, fra⟩;replace rda := zz rda;replace fra := zz fra;go_wp2_with fail;go_ret;exact ⟨rfl, ⟨at2, va, HS2.out.dr, Do rda.out (by simp [Bo, Fo.post, List.append_assoc]) (by simp [mkK, mkX, mkY, mkN, Inf.nd, ht.out]; try rfl)⟩, HF2.out.trans fra.out⟩
theorem a78 {w : World} {b tb to tc : Nat} {T : List Tok} {at_ d : Nat} {v : Value} {D : List Nd} {n : Nat} {ts : List Tok} (h : Sit w b tb to tc T at_ d v D n ts) {E : Pt} (hE : Ef 39 n E) (hg : Gd 0 E) {F1 : Fo} {r1 : List Tok} (e1 : E d ts = .ok F1 r1) (h1 : a68 F1) (kv : Nat) (hkv : Ho F1 = kv) (n26 : ¬ kv = 26) (n28 : ¬ kv = 28) (n29 : ¬ kv = 29) (n27 : ¬ kv = 27) : Calls prog 210 #[pR b] w (Fc b tb to tc T d D w (M2 E d ts)) := by
 have hbl := h.rd.lt;replace h1 := zz h1;have hkv0 := hkv;replace hkv := zz hkv;have k26 : ((kv : Int) == 26) = false := by rw [beq_eq_false_iff_ne]; omega
 have k27 : ((kv : Int) == 27) = false := by rw [beq_eq_false_iff_ne]; omega
 have k28 : ((kv : Int) == 28) = false := by rw [beq_eq_false_iff_ne]; omega
 have k29 : ((kv : Int) == 29) = false := by rw [beq_eq_false_iff_ne]; omega
 obtain ⟨⟨kd, ln, cl, nm, tx⟩, ht⟩ : ∃ t, hd ts = t := ⟨_, rfl⟩;obtain ⟨a, cap, hv⟩ := A6 h.rd.own;obtain ⟨X, hX⟩ : ∃ X, bs tx = X := ⟨_, rfl⟩;obtain ⟨dn, hdn⟩ : ∃ dn, D.length = dn := ⟨_, rfl⟩;have HH : Hid (Calls prog 136 #[pR b] w fun e w' => e = .returned (sV kd ln cl nm X dn) ∧ Below w.heap.size w w') := zz (by have := Cj h ht dn hdn a cap (by rw [hv, hdn]); rw [hX] at this; exact this);rw [show (M2 E) d ts = .bad 5 (hd r1).line (hd r1).col by simp only [M2, Out.bind, hkv0, n26, n27, n28, n29, or_self, if_false, N7, e1]];replace e1 := zz e1;have hs := zz h;replace ht := zz ht;replace hX := zz hX;replace hdn := zz hdn;replace hv := zz hv;clear h hkv0 n26 n27 n28 n29;go_enter func210, ntmps210;go_wp2_with fail;refine HH.out.mono ?_;rintro e w1 ⟨rfl, hb⟩;have hbl1 := (hs.out.rd.carry hb).lt;replace hb := zz hb;go_wp2_with fail;obtain ⟨W, hW⟩ : ∃ W, W = w1.alloc (.cells #[.int .u8 kd, .int .i64 ln, .int .i64 cl, .int .i64 nm, .string X, .int .i64 dn] 93) := ⟨_, rfl⟩;rw [<- hW];have HS0 : Hid (Sit W b tb to tc T at_ d v D n ts) := zz (by rw [hW]; exact (hs.out.carry hb.out).carry (Aa _ _));have HF0 : Hid (Fr b w W) := zz (by rw [hW]; exact (Fr.only (Onl.below hb.out) (by omega)).trans (Fr.only (Onl.below (Aa _ _)) (by omega)));have HM0 : Hid (SAt W w1.heap.size kd ln cl nm X dn) := zz (by rw [hW]; exact SAt.made w1 kd ln cl nm X dn);clear hW;have HC1 := zz (J1 (hE (HS0.out.up (by omega))) e1.out);refine HC1.out.mono ?_;rintro e w2 ⟨rfl, ⟨at1, v1, dr, rd⟩, fr⟩;have HS1 := zz (HS0.out.then (s := 0) (hg d ts F1 r1 e1.out) dr rd);have HF1 := zz (HF0.out.trans fr);have HM1 := zz (HM0.out.fr fr (by omega));clear dr rd fr;obtain ⟨g, j, cap1, hv1, kc, hj⟩ := Pw HS1.out.rd h1.out;have c3 := HS1.out.rd.c3;rw [hv1] at c3;rw [hkv.out] at kc;have hjm := HS1.out.rm;rw [hj] at hjm;have hj1 : IntKind.i64.wrap (j : Int) = (j : Int) := IntWalk.i64_in _ (by omega);clear hj hjm hv1;go_wp2_with fail
 go_quiet (fail)
 replace HF1 := zz (HF1.out.trans (Fr.only (Onl.below (An _ nq)) (by have := HS1.out.rd.lt; omega)));replace HS1 := zz (HS1.out.carry (An _ nq));replace HM1 := zz (HM1.out.below (An _ nq));clear kc c3 hj1;go_wp2_with fail;have HX := zz (Mr HS1.out.rd HS1.out.next 5);refine HX.out.mono ?_;rintro e wz ⟨rfl, rf, fr⟩;replace rf := zz rf;replace fr := zz fr;go_wp2_with fail;go_ret;exact ⟨rfl, rf.out, HF1.out.trans (Fr.only fr.out (by have := HS1.out.rd.lt; omega))⟩
theorem b3w {w : World} {b tb to tc : Nat} {T : List Tok} {at_ d : Nat} {v : Value} {D : List Nd} {n : Nat} {ts : List Tok} (h : Sit w b tb to tc T at_ d v D n ts) {E : Pt} (hE : Ef 39 n E) (hg : Gd 0 E) {c : Int} {l k : Nat} (e1 : E d ts = .bad c l k) : Calls prog 210 #[pR b] w (Fc b tb to tc T d D w (M2 E d ts)) := by
 have hbl := h.rd.lt;obtain ⟨⟨kd, ln, cl, nm, tx⟩, ht⟩ : ∃ t, hd ts = t := ⟨_, rfl⟩;obtain ⟨a, cap, hv⟩ := A6 h.rd.own;obtain ⟨X, hX⟩ : ∃ X, bs tx = X := ⟨_, rfl⟩;obtain ⟨dn, hdn⟩ : ∃ dn, D.length = dn := ⟨_, rfl⟩;have HH : Hid (Calls prog 136 #[pR b] w fun e w' => e = .returned (sV kd ln cl nm X dn) ∧ Below w.heap.size w w') := zz (by have := Cj h ht dn hdn a cap (by rw [hv, hdn]); rw [hX] at this; exact this);rw [show (M2 E) d ts = .bad c l k by simp only [M2, Out.bind, e1]];replace e1 := zz e1;have hs := zz h;replace ht := zz ht;replace hX := zz hX;replace hdn := zz hdn;replace hv := zz hv;clear h;go_enter func210, ntmps210;go_wp2_with fail;refine HH.out.mono ?_;rintro e w1 ⟨rfl, hb⟩;have hbl1 := (hs.out.rd.carry hb).lt;replace hb := zz hb;go_wp2_with fail;obtain ⟨W, hW⟩ : ∃ W, W = w1.alloc (.cells #[.int .u8 kd, .int .i64 ln, .int .i64 cl, .int .i64 nm, .string X, .int .i64 dn] 93) := ⟨_, rfl⟩;rw [<- hW];have HS0 : Hid (Sit W b tb to tc T at_ d v D n ts) := zz (by rw [hW]; exact (hs.out.carry hb.out).carry (Aa _ _));have HF0 : Hid (Fr b w W) := zz (by rw [hW]; exact (Fr.only (Onl.below hb.out) (by omega)).trans (Fr.only (Onl.below (Aa _ _)) (by omega)));have HM0 : Hid (SAt W w1.heap.size kd ln cl nm X dn) := zz (by rw [hW]; exact SAt.made w1 kd ln cl nm X dn);clear hW;have HC1 := zz (D5 (hE (HS0.out.up (by omega))) e1.out);refine HC1.out.mono ?_;rintro e w2 ⟨rfl, rf, fr⟩;replace rf := zz rf;replace fr := zz fr;go_wp2_with fail;go_ret;exact ⟨rfl, rf.out, HF0.out.trans fr.out⟩
theorem c16 {w : World} {b tb to tc : Nat} {T : List Tok} {at_ d : Nat} {v : Value} {D : List Nd} {n : Nat} {ts : List Tok} (h : Sit w b tb to tc T at_ d v D n ts) {E : Pt} (hE : Ef 39 n E) (hg : Gd 0 E) (hs : Qo E) : Calls prog 210 #[pR b] w (Fc b tb to tc T d D w (M2 E d ts)) := by
 cases e1 : E d ts with
 | bad c l k => exact b3w h hE hg e1
 | ok F1 r1 =>
  have h1 := hs _ _ _ _ e1;by_cases k26 : Ho F1 = 26
  ·exact a2q h hE hg e1 h1 k26 (.inl rfl)
  by_cases k28 : Ho F1 = 28
  ·exact a2q h hE hg e1 h1 k28 (.inr (.inl rfl))
  by_cases k29 : Ho F1 = 29
  ·exact a2q h hE hg e1 h1 k29 (.inr (.inr rfl))
  by_cases k27 : Ho F1 = 27
  ·exact b8c h hE hg e1 h1 k27
  exact a78 h hE hg e1 h1 _ rfl k26 k28 k29 k27
end
end
section
section
open Go.RowKit Go.Sort
def a64 (w : World) (g : Nat) (L : List (FuncId × Pt)) : Prop := w.heap[g]? = some (.cells (L.map fun q => Value.func (.func q.1) #[] #[]).toArray 82 (0, 0))
theorem a64.cell {w : World} {g : Nat} {L : List (FuncId × Pt)} (h : a64 w g L) {i : Nat} {q : FuncId × Pt} (hi : L[i]? = some q) : w.cell? ⟨g, i, none⟩ = some (.func (.func q.1) #[] #[]) := by
 rw [cell_of_row w g i _ 82 (0, 0) h];simp [hi]
theorem a64.fr {w w' : World} {b g : Nat} {L : List (FuncId × Pt)} (h : a64 w g L) (hb : Fr b w w') (hg : g ≠ b) : a64 w' g L := hb.cells _ _ _ _ h hg (by decide)
def c06 (w : World) (b tb to tc : Nat) (T : List Tok) (d : Nat) (D : List Nd) (n g S : Nat) (kd ln cl : Nat) (nm : Int) (X : ByteArray) (dn : Nat) (L : List (FuncId × Pt)) (R : Out) (j : Value) (wr : World) : Prop :=
 ∃ (i at_ : Nat) (v : Value) (A : Fo) (ts : List Tok), j = .int .i64 i ∧ i <= L.length ∧ Sit wr b tb to tc T at_ d v (D ++ A.post) n ts ∧ ((Cv ((L.drop i).map Prod.snd) d ts).bind fun G r' => .ok (A.app G) r') = R ∧ SAt wr S kd ln cl nm X dn ∧ a64 wr g L ∧ Fr b w wr
theorem N8 {w : World} {b tb to tc : Nat} {T : List Tok} {at_ d : Nat} {v : Value} {D : List Nd} {n : Nat} {ts : List Tok} (h : Sit w b tb to tc T at_ d v D n ts) (hk : (hd ts).kind ≠ 8) (kk : Nat) (L : List (FuncId × Pt)) {g : Nat} (hR : a64 w g L) (hgb : g ≠ b) (c k : Nat) (hLk : L.length = k) (hkl : k <= 10)
  (hL : ∀ q ∈ L, (∀ args w, (callFunc q.1 args).run prog w = .ok (.enter q.1 args) w) ∧ Ef q.1 (n - 1) q.2 ∧ Gd 0 q.2) :
  Calls prog 207 #[pR b, .int .u8 kk, .slice (some ⟨g, 0, none⟩) k c] w (Fc b tb to tc T d D w (C6 kk (L.map Prod.snd) d ts)) := by
 have hbl := h.rd.lt;obtain ⟨⟨kd, ln, cl, nm, tx⟩, ht⟩ : ∃ t, hd ts = t := ⟨_, rfl⟩;obtain ⟨a, cap, hv⟩ := A6 h.rd.own;obtain ⟨X, hX⟩ : ∃ X, bs tx = X := ⟨_, rfl⟩;obtain ⟨dn, hdn⟩ : ∃ dn, D.length = dn := ⟨_, rfl⟩;have HH : Hid (Calls prog 136 #[pR b] w fun e w' => e = .returned (sV kd ln cl nm X dn) ∧ Below w.heap.size w w') := zz (by have := Cj h ht dn hdn a cap (by rw [hv, hdn]); rw [hX] at this; exact this);have hlt : at_ < T.length := (List.getElem?_eq_some_iff.1 h.next).1;have htn := h.rd.tn;have hn : at_ < 1000000 := by omega
 unfold C6 B7 Ci;obtain ⟨R, hRR⟩ : ∃ R, Cv (L.map Prod.snd) d ts.tail = R := ⟨_, rfl⟩;rw [hRR];have hrm0 := h.rm;have htl : ts.tail.length + 1 <= ts.length := by obtain ⟨t, l, rfl⟩ := h.en.ne; simp
 have hs := zz h;replace hk := zz hk;replace ht := zz ht;replace hdn := zz hdn;replace hR := zz hR;replace hL := zz hL;replace hLk := zz hLk;replace hRR := zz hRR;clear h hlt htn hX hv;go_enter func207, ntmps207;go_wp2_with fail;refine HH.out.mono ?_;rintro e w1 ⟨rfl, hb⟩;have c1 := (hs.out.rd.carry hb).c1;have fz := (hs.out.rd.carry hb).fz;have hbl1 := (hs.out.rd.carry hb).lt;have HT := (hs.out.carry hb).tail ((hs.out.carry hb).rd.bump (at_ + 1)) hk.out;rw [show ((at_ + 1 : Nat) : Int) = (at_ : Int) + 1 by omega] at HT;replace HT := zz HT;replace hb := zz hb;go_wp2_with fail;obtain ⟨W, hW⟩ : ∃ W, W = (w1.setCell ⟨b, 1, none⟩ (.int .i64 ((at_ : Int) + 1))).alloc (.cells #[.int .u8 kd, .int .i64 ln, .int .i64 cl, .int .i64 nm, .string X, .int .i64 dn] 93) := ⟨_, rfl⟩;rw [<- hW];have HF0 : Hid (Fr b w W) := zz (by rw [hW]; exact ((Fr.only (Onl.below hb.out) (by omega)).trans (Fr.only (Onl.set _ _ _ _) (by omega))).trans (Fr.only (Onl.below (Aa _ _)) (by simp; omega)))
 have HI : Hid (c06 w b tb to tc T d D (n - 1) g w1.heap.size kd ln cl nm X dn L R (.int .i64 0) W) := zz ⟨0, at_ + 1, v, .nil, ts.tail, rfl, Nat.zero_le _, by rw [hW]; simpa [Fo.post] using HT.out.carry (Aa _ _), by
   rw [List.drop_zero, hRR.out]; cases R <;> rfl, by rw [hW]; have := SAt.made (w1.setCell ⟨b, 1, none⟩ (.int .i64 ((at_ : Int) + 1))) kd ln cl nm X dn; simpa using this, hR.out.fr HF0.out hgb, HF0.out⟩
 clear hW HT c1 fz
 go_loopw [21] (fun j wr => c06 w b tb to tc T d D (n - 1) g w1.heap.size kd ln cl nm X dn L R j wr) (fun j _ => k - (intOf j).toNat)
 case atStart => exact HI.out
 case round =>
  obtain ⟨i, at1, v1, A, ts1, rfl, hik, hs1, hRi, hSA, hFR, hfr⟩ := hrel;rw [hLk.out] at hik;by_cases hlt : i < k
  ·obtain ⟨⟨f, p⟩, hq⟩ : ∃ q, L[i]? = some q := ⟨L[i]'(by rw [hLk.out]; exact hlt), by simp [hLk.out, hlt]⟩;have hc := hFR.cell hq;obtain ⟨eg, hdo, hgd⟩ := hL.out _ (List.mem_of_getElem? hq);simp only at hc eg hdo hgd
   have hdrop : L.drop i = (f, p) :: L.drop (i + 1) := by
    rw [List.drop_eq_getElem_cons (by rw [hLk.out]; exact hlt)];congr 1;rw [List.getElem?_eq_getElem (by rw [hLk.out]; exact hlt)] at hq;exact Option.some.inj hq
   rw [hdrop] at hRi;obtain ⟨o, ho⟩ : ∃ o, p d ts1 = o := ⟨_, rfl⟩;have HD := zz (hdo hs1);rw [ho] at HD;have HL := zz (fun F r e => hgd d ts1 F r (ho.trans e));have HRi : Hid ((o.bind fun F r => (Cv ((L.drop (i + 1)).map Prod.snd) d r).bind fun G r' => .ok (F.app G) r').bind (fun G r' => .ok (A.app G) r') = R) := zz (by rw [<- hRi, <- ho]; rfl);replace hs1 := zz hs1;replace hSA := zz hSA;replace hFR := zz hFR;replace hfr := zz hfr;clear hq hdo hgd hdrop hRi ho;go_wp2_with fail;refine HD.out.mono ?_;rintro e w2 ⟨rfl, hw⟩
   cases o with
   | bad c' l' k' =>
    replace hw := zz hw;go_wp2_with fail;go_ret;rw [<- HRi.out]
    exact ⟨rfl, hw.out.1, hfr.out.trans hw.out.2⟩
   | ok F r =>
    obtain ⟨⟨at', v', hdr, hrd⟩, hf2⟩ := hw;have hs2 := zz (hs1.out.then (s := 0) (HL.out F r rfl) hdr hrd);replace hSA := zz (hSA.out.fr hf2 (by omega));replace hFR := zz (hFR.out.fr hf2 hgb);replace hf2 := zz hf2;clear hdr hrd hc;go_wp2_with fail
    go_roundw
    case rel =>
     refine ⟨i + 1, at', v', A.app F, r, by go_num, by rw [hLk.out]; exact hlt, by rw [Bo, <- List.append_assoc]; exact hs2.out, ?_, hSA.out, hFR.out, hfr.out.trans hf2.out⟩;rw [<- HRi.out];show _ = (((Cv ((L.drop (i + 1)).map Prod.snd) d r).bind fun G r' => .ok (F.app G) r').bind fun G r' => .ok (A.app G) r')
     cases Cv ((L.drop (i + 1)).map Prod.snd) d r with
     | ok G r' => simp [Out.bind, Mx]
     | bad c l k => rfl
    case measure => simp [intOf]; omega
  ·obtain rfl : i = k := by omega
   have HR : Hid (R = .ok A ts1) := zz (by rw [<- hRi, <- hLk.out, List.drop_length]; simp [Cv, Bb, Out.bind, Nl]);obtain ⟨m0, m1, m2, m3, m4, m5⟩ := hSA.at;have hrm := hs1.rm;have HA := zz (Cu hs1.rd kd ln cl dn nm X kk 0 0 0 0 { data := #[] } A.cnt (by simp [Ao, hdn.out]) (by omega));replace hs1 := zz hs1;replace hfr := zz hfr;clear hRi hSA hFR;go_wp2_with fail;refine HA.out.mono ?_;rintro e w3 ⟨rfl, ⟨v3, rd3⟩, fr3⟩;replace rd3 := zz rd3;replace fr3 := zz fr3;go_wp2_with fail;go_ret;rw [HR.out];exact ⟨rfl, ⟨at1, v3, hs1.out.dr, Do rd3.out rfl (by simp [mkK, Inf.nd, ht.out]; rfl)⟩, hfr.out.trans fr3.out⟩
end
end
section
section
open Go.RowKit Go.Sort
theorem Wl {w : World} {b tb to tc : Nat} {T : List Tok} {at_ d : Nat} {v : Value} {D : List Nd} {n : Nat} {ts : List Tok} (h : Sit w b tb to tc T at_ d v D n ts) {E B : Pt} {N : Nat} (hE : Ef 39 n E) (hg : Gd 0 E) (hs : Qo E) (hB : Ef 144 (n - 1) B) (gB : Gd 0 B) (hN : n <= N) : Calls prog 197 #[pR b] w (Fc b tb to tc T d D w ((Ik E B N) d ts)) := by
 have hbl := h.rd.lt
 cases q0 : sees [118, 97, 114] ts with
 | true =>
  have HS := zz h;have Q0 := zz (fun w' hb => Ah (h.rd.carry (w' := w') hb) h.next { data := #[118, 97, 114] } [118, 97, 114] (by rw [ByteArray.toList_eq]) true q0);simp only [Ik, Hp];rw [if_pos q0];have HCALL := zz (fun (w' : World) (hb : Below w.heap.size w w') => c1o (h.carry hb) q0 hE hg hN);clear h;go_enter func197, ntmps197;go_wp2_with fail;refine (Q0.out _ (Below.refl _ _)).mono ?_;rintro e w1 ⟨rfl, hb1⟩;replace hb1 := zz hb1;go_wp2_with fail;refine (HCALL.out _ (hb1.out)).mono ?_;rintro e wz ⟨rfl, hw⟩;replace hw := zz hw;go_wp2_with fail;go_ret
  exact ⟨rfl, hw.out.back (Fr.only (Onl.below (hb1.out)) (by omega))⟩
 | false =>
  cases q1 : sees [105, 102] ts with
  | true =>
   have HS := zz h;have Q0 := zz (fun w' hb => Ah (h.rd.carry (w' := w') hb) h.next { data := #[118, 97, 114] } [118, 97, 114] (by rw [ByteArray.toList_eq]) false q0);have Q1 := zz (fun w' hb => Ah (h.rd.carry (w' := w') hb) h.next { data := #[105, 102] } [105, 102] (by rw [ByteArray.toList_eq]) true q1);simp only [Ik, Hp];rw [if_neg (show ¬ sees [118, 97, 114] ts = true by rw [q0]; simp), if_pos q1]
   have HCALL := zz (fun (w' : World) (hb : Below w.heap.size w w') => (show Calls prog 207 #[pR b, .int .u8 9, .slice (some ⟨w'.heap.size, 0, none⟩) 3 3] (w'.alloc (.cells #[Value.func (.func 39) #[] #[], Value.func (.func 144) #[] #[], Value.func (.func 208) #[] #[]] 82)) (Fc b tb to tc T d D (w'.alloc (.cells #[Value.func (.func 39) #[] #[], Value.func (.func 144) #[] #[], Value.func (.func 208) #[] #[]] 82)) (C6 9 [E, B, S8 B] d ts)) from N8 ((h.carry hb).carry (Aa w' _)) (by obtain ⟨t, l, rfl, hk, _⟩ := B0 q1; simp [hd]; omega) 9 [(39, E), (144, B), (208, S8 B)] (show a64 _ _ _ from heap_alloc_new w' _) (by have := (h.carry hb).rd.lt; omega) 3 3 rfl (by decide) (by
    intro q hq;simp only [List.mem_cons, List.not_mem_nil, or_false] at hq;rcases hq with rfl | rfl | rfl
    ·exact ⟨(by intro args w; simp [go_sem]), hE.mono (by omega), hg⟩
    ·exact ⟨(by intro args w; simp [go_sem]), hB, gB⟩
    ·exact ⟨(by intro args w; simp [go_sem]), (fun w b tb to tc T at_ d v D ts h => c0m h (hB.mono (by omega))), Jq (fun d ts h F r e => (K6 h gB F r e).mono (by omega)) C1⟩
    )))
   clear h;go_enter func197, ntmps197;go_wp2_with fail;refine (Q0.out _ (Below.refl _ _)).mono ?_;rintro e w1 ⟨rfl, hb1⟩;replace hb1 := zz hb1;go_wp2_with fail;refine (Q1.out _ (hb1.out)).mono ?_;rintro e w2 ⟨rfl, hb2⟩;replace hb2 := zz (Ab hb1.out hb2);go_wp2_with fail;refine (HCALL.out _ (hb2.out)).mono ?_;rintro e wz ⟨rfl, hw⟩;replace hw := zz hw;go_wp2_with fail;go_ret
   exact ⟨rfl, hw.out.back (Fr.only (Onl.below (Ab (hb2.out) (Aa _ _))) (by omega))⟩
  | false =>
   cases q2 : sees [119, 104, 105, 108, 101] ts with
   | true =>
    have HS := zz h;have Q0 := zz (fun w' hb => Ah (h.rd.carry (w' := w') hb) h.next { data := #[118, 97, 114] } [118, 97, 114] (by rw [ByteArray.toList_eq]) false q0);have Q1 := zz (fun w' hb => Ah (h.rd.carry (w' := w') hb) h.next { data := #[105, 102] } [105, 102] (by rw [ByteArray.toList_eq]) false q1);have Q2 := zz (fun w' hb => Ah (h.rd.carry (w' := w') hb) h.next { data := #[119, 104, 105, 108, 101] } [119, 104, 105, 108, 101] (by rw [ByteArray.toList_eq]) true q2);simp only [Ik, Hp];rw [if_neg (show ¬ sees [118, 97, 114] ts = true by rw [q0]; simp), if_neg (show ¬ sees [105, 102] ts = true by rw [q1]; simp), if_pos q2]
    have HCALL := zz (fun (w' : World) (hb : Below w.heap.size w w') => (show Calls prog 207 #[pR b, .int .u8 10, .slice (some ⟨w'.heap.size, 0, none⟩) 2 2] (w'.alloc (.cells #[Value.func (.func 39) #[] #[], Value.func (.func 144) #[] #[]] 82)) (Fc b tb to tc T d D (w'.alloc (.cells #[Value.func (.func 39) #[] #[], Value.func (.func 144) #[] #[]] 82)) (C6 10 [E, B] d ts)) from N8 ((h.carry hb).carry (Aa w' _)) (by obtain ⟨t, l, rfl, hk, _⟩ := B0 q2; simp [hd]; omega) 10 [(39, E), (144, B)] (show a64 _ _ _ from heap_alloc_new w' _) (by have := (h.carry hb).rd.lt; omega) 2 2 rfl (by decide) (by
    intro q hq;simp only [List.mem_cons, List.not_mem_nil, or_false] at hq;rcases hq with rfl | rfl
    ·exact ⟨(by intro args w; simp [go_sem]), hE.mono (by omega), hg⟩
    ·exact ⟨(by intro args w; simp [go_sem]), hB, gB⟩
    )))
    clear h;go_enter func197, ntmps197;go_wp2_with fail;refine (Q0.out _ (Below.refl _ _)).mono ?_;rintro e w1 ⟨rfl, hb1⟩;replace hb1 := zz hb1;go_wp2_with fail;refine (Q1.out _ (hb1.out)).mono ?_;rintro e w2 ⟨rfl, hb2⟩;replace hb2 := zz (Ab hb1.out hb2);go_wp2_with fail;refine (Q2.out _ (hb2.out)).mono ?_;rintro e w3 ⟨rfl, hb3⟩;replace hb3 := zz (Ab hb2.out hb3);go_wp2_with fail;refine (HCALL.out _ (hb3.out)).mono ?_;rintro e wz ⟨rfl, hw⟩;replace hw := zz hw;go_wp2_with fail;go_ret
    exact ⟨rfl, hw.out.back (Fr.only (Onl.below (Ab (hb3.out) (Aa _ _))) (by omega))⟩
   | false =>
    cases q3 : sees [114, 101, 116, 117, 114, 110] ts with
    | true =>
     have HS := zz h;have Q0 := zz (fun w' hb => Ah (h.rd.carry (w' := w') hb) h.next { data := #[118, 97, 114] } [118, 97, 114] (by rw [ByteArray.toList_eq]) false q0);have Q1 := zz (fun w' hb => Ah (h.rd.carry (w' := w') hb) h.next { data := #[105, 102] } [105, 102] (by rw [ByteArray.toList_eq]) false q1);have Q2 := zz (fun w' hb => Ah (h.rd.carry (w' := w') hb) h.next { data := #[119, 104, 105, 108, 101] } [119, 104, 105, 108, 101] (by rw [ByteArray.toList_eq]) false q2);have Q3 := zz (fun w' hb => Ah (h.rd.carry (w' := w') hb) h.next { data := #[114, 101, 116, 117, 114, 110] } [114, 101, 116, 117, 114, 110] (by rw [ByteArray.toList_eq]) true q3);simp only [Ik, Hp];rw [if_neg (show ¬ sees [118, 97, 114] ts = true by rw [q0]; simp), if_neg (show ¬ sees [105, 102] ts = true by rw [q1]; simp), if_neg (show ¬ sees [119, 104, 105, 108, 101] ts = true by rw [q2]; simp), if_pos q3]
     have HCALL := zz (fun (w' : World) (hb : Below w.heap.size w w') => (show Calls prog 207 #[pR b, .int .u8 11, .slice (some ⟨w'.heap.size, 0, none⟩) 2 2] (w'.alloc (.cells #[Value.func (.func 209) #[] #[], Value.func (.func 194) #[] #[]] 82)) (Fc b tb to tc T d D (w'.alloc (.cells #[Value.func (.func 209) #[] #[], Value.func (.func 194) #[] #[]] 82)) (C6 11 [Jj E, take [59]] d ts)) from N8 ((h.carry hb).carry (Aa w' _)) (by obtain ⟨t, l, rfl, hk, _⟩ := B0 q3; simp [hd]; omega) 11 [(209, Jj E), (194, take [59])] (show a64 _ _ _ from heap_alloc_new w' _) (by have := (h.carry hb).rd.lt; omega) 2 2 rfl (by decide) (by
    intro q hq;simp only [List.mem_cons, List.not_mem_nil, or_false] at hq;rcases hq with rfl | rfl
    ·exact ⟨(by intro args w; simp [go_sem]), (fun w b tb to tc T at_ d v D ts h => b1o h (hE.mono (by omega))), Jq (fun d ts _ => C1 d ts) hg⟩
    ·exact ⟨(by intro args w; simp [go_sem]), D6 _, (Ct [59]).mono (by omega)⟩
    )))
     clear h;go_enter func197, ntmps197;go_wp2_with fail;refine (Q0.out _ (Below.refl _ _)).mono ?_;rintro e w1 ⟨rfl, hb1⟩;replace hb1 := zz hb1;go_wp2_with fail;refine (Q1.out _ (hb1.out)).mono ?_;rintro e w2 ⟨rfl, hb2⟩;replace hb2 := zz (Ab hb1.out hb2);go_wp2_with fail;refine (Q2.out _ (hb2.out)).mono ?_;rintro e w3 ⟨rfl, hb3⟩;replace hb3 := zz (Ab hb2.out hb3);go_wp2_with fail;refine (Q3.out _ (hb3.out)).mono ?_;rintro e w4 ⟨rfl, hb4⟩;replace hb4 := zz (Ab hb3.out hb4);go_wp2_with fail;refine (HCALL.out _ (hb4.out)).mono ?_;rintro e wz ⟨rfl, hw⟩;replace hw := zz hw;go_wp2_with fail;go_ret
     exact ⟨rfl, hw.out.back (Fr.only (Onl.below (Ab (hb4.out) (Aa _ _))) (by omega))⟩
    | false =>
     cases q4 : sees [112, 114, 105, 110, 116] ts with
     | true =>
      have HS := zz h;have Q0 := zz (fun w' hb => Ah (h.rd.carry (w' := w') hb) h.next { data := #[118, 97, 114] } [118, 97, 114] (by rw [ByteArray.toList_eq]) false q0);have Q1 := zz (fun w' hb => Ah (h.rd.carry (w' := w') hb) h.next { data := #[105, 102] } [105, 102] (by rw [ByteArray.toList_eq]) false q1);have Q2 := zz (fun w' hb => Ah (h.rd.carry (w' := w') hb) h.next { data := #[119, 104, 105, 108, 101] } [119, 104, 105, 108, 101] (by rw [ByteArray.toList_eq]) false q2);have Q3 := zz (fun w' hb => Ah (h.rd.carry (w' := w') hb) h.next { data := #[114, 101, 116, 117, 114, 110] } [114, 101, 116, 117, 114, 110] (by rw [ByteArray.toList_eq]) false q3);have Q4 := zz (fun w' hb => Ah (h.rd.carry (w' := w') hb) h.next { data := #[112, 114, 105, 110, 116] } [112, 114, 105, 110, 116] (by rw [ByteArray.toList_eq]) true q4);simp only [Ik, Hp];rw [if_neg (show ¬ sees [118, 97, 114] ts = true by rw [q0]; simp), if_neg (show ¬ sees [105, 102] ts = true by rw [q1]; simp), if_neg (show ¬ sees [119, 104, 105, 108, 101] ts = true by rw [q2]; simp), if_neg (show ¬ sees [114, 101, 116, 117, 114, 110] ts = true by rw [q3]; simp), if_pos q4]
      have HCALL := zz (fun (w' : World) (hb : Below w.heap.size w w') => (show Calls prog 207 #[pR b, .int .u8 12, .slice (some ⟨w'.heap.size, 0, none⟩) 2 2] (w'.alloc (.cells #[Value.func (.func 39) #[] #[], Value.func (.func 194) #[] #[]] 82)) (Fc b tb to tc T d D (w'.alloc (.cells #[Value.func (.func 39) #[] #[], Value.func (.func 194) #[] #[]] 82)) (C6 12 [E, take [59]] d ts)) from N8 ((h.carry hb).carry (Aa w' _)) (by obtain ⟨t, l, rfl, hk, _⟩ := B0 q4; simp [hd]; omega) 12 [(39, E), (194, take [59])] (show a64 _ _ _ from heap_alloc_new w' _) (by have := (h.carry hb).rd.lt; omega) 2 2 rfl (by decide) (by
    intro q hq;simp only [List.mem_cons, List.not_mem_nil, or_false] at hq;rcases hq with rfl | rfl
    ·exact ⟨(by intro args w; simp [go_sem]), hE.mono (by omega), hg⟩
    ·exact ⟨(by intro args w; simp [go_sem]), D6 _, (Ct [59]).mono (by omega)⟩
    )))
      clear h;go_enter func197, ntmps197;go_wp2_with fail;refine (Q0.out _ (Below.refl _ _)).mono ?_;rintro e w1 ⟨rfl, hb1⟩;replace hb1 := zz hb1;go_wp2_with fail;refine (Q1.out _ (hb1.out)).mono ?_;rintro e w2 ⟨rfl, hb2⟩;replace hb2 := zz (Ab hb1.out hb2);go_wp2_with fail;refine (Q2.out _ (hb2.out)).mono ?_;rintro e w3 ⟨rfl, hb3⟩;replace hb3 := zz (Ab hb2.out hb3);go_wp2_with fail;refine (Q3.out _ (hb3.out)).mono ?_;rintro e w4 ⟨rfl, hb4⟩;replace hb4 := zz (Ab hb3.out hb4);go_wp2_with fail;refine (Q4.out _ (hb4.out)).mono ?_;rintro e w5 ⟨rfl, hb5⟩;replace hb5 := zz (Ab hb4.out hb5);go_wp2_with fail;refine (HCALL.out _ (hb5.out)).mono ?_;rintro e wz ⟨rfl, hw⟩;replace hw := zz hw;go_wp2_with fail;go_ret
      exact ⟨rfl, hw.out.back (Fr.only (Onl.below (Ab (hb5.out) (Aa _ _))) (by omega))⟩
     | false =>
      have HS := zz h;have Q0 := zz (fun w' hb => Ah (h.rd.carry (w' := w') hb) h.next { data := #[118, 97, 114] } [118, 97, 114] (by rw [ByteArray.toList_eq]) false q0);have Q1 := zz (fun w' hb => Ah (h.rd.carry (w' := w') hb) h.next { data := #[105, 102] } [105, 102] (by rw [ByteArray.toList_eq]) false q1);have Q2 := zz (fun w' hb => Ah (h.rd.carry (w' := w') hb) h.next { data := #[119, 104, 105, 108, 101] } [119, 104, 105, 108, 101] (by rw [ByteArray.toList_eq]) false q2);have Q3 := zz (fun w' hb => Ah (h.rd.carry (w' := w') hb) h.next { data := #[114, 101, 116, 117, 114, 110] } [114, 101, 116, 117, 114, 110] (by rw [ByteArray.toList_eq]) false q3);have Q4 := zz (fun w' hb => Ah (h.rd.carry (w' := w') hb) h.next { data := #[112, 114, 105, 110, 116] } [112, 114, 105, 110, 116] (by rw [ByteArray.toList_eq]) false q4);simp only [Ik, Hp];rw [if_neg (show ¬ sees [118, 97, 114] ts = true by rw [q0]; simp), if_neg (show ¬ sees [105, 102] ts = true by rw [q1]; simp), if_neg (show ¬ sees [119, 104, 105, 108, 101] ts = true by rw [q2]; simp), if_neg (show ¬ sees [114, 101, 116, 117, 114, 110] ts = true by rw [q3]; simp), if_neg (show ¬ sees [112, 114, 105, 110, 116] ts = true by rw [q4]; simp)];have HCALL := zz (fun (w' : World) (hb : Below w.heap.size w w') => c16 (h.carry hb) hE hg hs);clear h;go_enter func197, ntmps197;go_wp2_with fail;refine (Q0.out _ (Below.refl _ _)).mono ?_;rintro e w1 ⟨rfl, hb1⟩;replace hb1 := zz hb1;go_wp2_with fail;refine (Q1.out _ (hb1.out)).mono ?_;rintro e w2 ⟨rfl, hb2⟩;replace hb2 := zz (Ab hb1.out hb2);go_wp2_with fail;refine (Q2.out _ (hb2.out)).mono ?_;rintro e w3 ⟨rfl, hb3⟩;replace hb3 := zz (Ab hb2.out hb3);go_wp2_with fail;refine (Q3.out _ (hb3.out)).mono ?_;rintro e w4 ⟨rfl, hb4⟩;replace hb4 := zz (Ab hb3.out hb4);go_wp2_with fail;refine (Q4.out _ (hb4.out)).mono ?_;rintro e w5 ⟨rfl, hb5⟩;replace hb5 := zz (Ab hb4.out hb5);go_wp2_with fail;refine (HCALL.out _ (hb5.out)).mono ?_;rintro e wz ⟨rfl, hw⟩;replace hw := zz hw;go_wp2_with fail;go_ret;exact ⟨rfl, hw.out.back (Fr.only (Onl.below (hb5.out)) (by omega))⟩
theorem Nk {n m : Nat} (hp : Ef 197 (n - 1) (L7 m)) (hm : n <= m + 1) : Ef 144 n (Fb (L7 m) m) := fun w b tb to tc T at_ d v D ts h =>
 b53 h (O5 hp (P3 m) (fun d ts F r e => a84 m e) m (by omega)) (P3 m)
theorem Ty (n : Nat) : Ef 197 n (L7 n) := by
 induction n with
 | zero => intro w b tb to tc T at_ d v D ts h; exact (R9 h).elim
 | succ n ih =>
  intro w b tb to tc T at_ d v D ts h;exact Wl h (Vo (n + 1)) (S4 (n + 1)) (a2n (n + 1)) (Nk (n := n) (ih.mono (by omega)) (by omega)) ((Om (P3 n) n).mono (by omega)) (Nat.le_refl _)
end
end
section
section
open Go.RowKit Go.Sort
def a6y (w : World) (a : Option Addr) (l : List Nd) : Prop := ∀ i, i < l.length -> ∃ g o, a = some ⟨g, o, none⟩ ∧ At w g (o + i * 6) (nd l i)
theorem a6y.carry {w w' : World} {a : Option Addr} {l : List Nd} (h : a6y w a l) (hb : Below w.heap.size w w') : a6y w' a l := fun i hi => by
 obtain ⟨g, o, h1, h2⟩ := h i hi;exact ⟨g, o, h1, h2.carry hb⟩
theorem b14 {w : World} {B g cap n : Nat} {D : List Nd} (h : Ov w B (.slice (some ⟨g, 0, none⟩) n cap) D) {i : Nat} {t : Nd} (hi : D[i]? = some t) : At w g (i * 6) t := by
 have hlt : i < D.length := (List.getElem?_eq_some_iff.1 hi).1
 have hc : ∀ j u, j < 6 -> (Bn t)[j]? = some u -> w.cell? ⟨g, i * 6 + j, none⟩ = some u := fun j u hj hu => by
  have := World.ownsRow.cells h (g := g) rfl (i * 6 + j) u (by
   have hD : D = D.take i ++ t :: D.drop (i + 1) := by
    rw [List.getElem?_eq_getElem hlt] at hi;rw [<- Option.some.inj hi];simp
   rw [hD, G0, List.getElem?_append_right (by rw [Dd, List.length_take]; omega), Dd, List.length_take, show i * 6 + j - min i D.length * 6 = j by rw [Nat.min_eq_left (by omega)]; omega];unfold Da;rw [List.flatMap_cons, List.getElem?_append_left (by simp [Bn]; omega)]
   exact hu)
  rwa [D7] at this
 exact ⟨by simpa using hc 0 _ (by decide) rfl, hc 1 _ (by decide) rfl, hc 2 _ (by decide) rfl, hc 3 _ (by decide) rfl, hc 4 _ (by decide) rfl, hc 5 _ (by decide) rfl⟩
theorem Tryz.elem23 : Tryz.prog.elem 22 = 37 := by kernel_rfl
theorem Tryz.size32 (w : World) : (sizeOf 37).run Tryz.prog w = .ok 6 w := by kernel_rfl
theorem a50 {w : World} {b tb to tc : Nat} {T : List Tok} {at_ : Nat} {d : Int} {v : Value} {D : List Nd} {F : Fo} (h : Rd w b tb to tc T at_ d v (D ++ F.post)) (dn : Nat) (hdn : D.length = dn) :
  ∃ a m cap a' cap', v = .slice a m cap ∧ (∀ w, (Instr.slice 22 (.slice a m cap) (some (.int .i64 dn)) none none).run prog w = .ok (.slice a' F.cnt cap') w) ∧ a6y w a' F.post ∧ (dn : Int) <= m := by
 have ho := h.own;have hlen : (D ++ F.post).length = dn + F.cnt := by rw [List.length_append, Ao, hdn]
 rcases ho.2 with ⟨hv, h0⟩ | ⟨g, cap, cur, hv, hg, hh, hc1, hc2, hr⟩
 ·refine ⟨none, 0, 0, none, 0, hv, fun w => ?_, fun i hi => ?_, by omega⟩
  ·rw [run_slice_l w 22 none 0 0 underlying22 .i64 dn (by omega) (by omega), Tryz.elem23, Tryz.size32];have : F.cnt = 0 := by omega
   simp [sliced, Result.andThen, this]
  ·rw [Ao] at hi; omega
 ·rw [hlen] at hv hc1;refine ⟨some ⟨g, 0, none⟩, dn + F.cnt, cap, if cap = dn then some ⟨g, 0, none⟩ else some ⟨g, dn * 6, none⟩, cap - dn, hv, fun w => ?_, fun i hi => ?_, by omega⟩
  ·rw [run_slice_l w 22 _ _ cap underlying22 .i64 dn (by omega) (by omega), Tryz.elem23, Tryz.size32];simp only [Result.andThen, sliced];by_cases hcd : cap = dn
   ·simp [hcd]
   ·simp [hcd, Addr.add]
    try omega
  ·rw [Ao] at hi;have hcd : ¬ cap = dn := by omega
   refine ⟨g, dn * 6, by rw [if_neg hcd], ?_⟩;rw [hv] at ho
   have := b14 ho (i := dn + i) (t := nd F.post i) (by
    rw [List.getElem?_append_right (by omega), hdn, show dn + i - dn = i by omega];unfold nd
    simp [List.getD, Ao, hi])
   rwa [Nat.add_mul] at this
theorem a52 {w : World} {a : Option Addr} {n cap : Nat} {l : List Nd} (hn : Hid (l.length = n)) (hl : n <= 600000) (hr : Hid (a6y w a l)) (k : Nat) :
  Calls prog 142 #[.slice a n cap, .int .u8 k] w fun e w' => e = .returned (.int .i64 (Lm k l : Nat)) ∧ Below w.heap.size w w' := by
 go_enter func142, ntmps142;go_wp2_with fail
 go_loopw [5, 10] (fun c j wr => ∃ i : Nat, i <= n ∧ j = .int .i64 i ∧ c = .int .i64 (Lm k (l.take i) : Nat) ∧ Below w.heap.size w wr) (fun _ j _ => n - (intOf j).toNat)
 case atStart => exact ⟨0, Nat.zero_le _, rfl, by simp [Lm], Below.refl _ _⟩
 case round =>
  obtain ⟨i, hi, rfl, rfl, hb⟩ := hrel
  have hcle : Lm k (l.take i) <= i := by
   unfold Lm;refine Nat.le_trans (List.length_filter_le _ _) ?_;rw [List.length_take]; omega
  by_cases hlt : i < n
  ·obtain ⟨g, o, rfl, hat⟩ := (hr.out.carry hb) i (by rw [hn.out]; exact hlt);obtain ⟨t0, t1, t2, t3, t4, t5⟩ := hat;have hgl := block_lt_of_cell t0
   have htk : l.take (i + 1) = l.take i ++ [nd l i] := by
    rw [List.take_succ_eq_append_getElem (by rw [hn.out]; exact hlt)];unfold nd;simp [List.getD, hn.out, hlt]
   obtain ⟨⟨kd, ln, cl, sz, nm, tx⟩, hnd⟩ : ∃ t, nd l i = t := ⟨_, rfl⟩;rw [hnd] at htk t0 t1 t2 t3 t4 t5;obtain ⟨c, hc⟩ : ∃ c, Lm k (l.take i) = c := ⟨_, rfl⟩;rw [hc] at hcle;rw [hc];simp only at t0 t1 t2 t3 t4 t5;by_cases hkk : kd = k
   ·have e1 : ((kd : Int) == (k : Int)) = true := by rw [hkk]; simp
    have HC : Hid (Lm k (l.take (i + 1)) = c + 1) := zz (by rw [htk]; unfold Lm at hc ⊢; rw [List.filter_append, List.length_append, hc]; simp [hkk]);replace hb := zz hb;clear htk hc hkk hnd;go_wp2_with fail
    go_roundw
    case rel => exact ⟨i + 1, hlt, by go_num, by rw [HC.out]; go_num, Ab hb.out (by go_grown)⟩
    case measure => simp [intOf]; omega
   ·have e1 : ((kd : Int) == (k : Int)) = false := by rw [beq_eq_false_iff_ne]; omega
    have HC : Hid (Lm k (l.take (i + 1)) = c) := zz (by rw [htk]; unfold Lm at hc ⊢; rw [List.filter_append, List.length_append, hc]; simp [hkk]);replace hb := zz hb;clear htk hc hkk hnd;go_wp2_with fail
    go_roundw
    case rel => exact ⟨i + 1, hlt, by go_num, by rw [HC.out], Ab hb.out (by go_grown)⟩
    case measure => simp [intOf]; omega
  ·obtain rfl : i = n := by omega
   have hq : Lm k (l.take i) = Lm k l := by rw [<- hn.out, List.take_length]
   rw [hq] at hcle;rw [hq];replace hb := zz hb;go_wp2_with fail;go_ret;exact ⟨rfl, hb.out⟩
end
end
section
section
open Go.RowKit Go.Sort
theorem Rx (N n : Nat) (hN : n <= N) : Ef 176 n (Jr N) := fun w b tb to tc T at_ d v D ts h => b5f h (fun h => a2a h 3 ((Ih N).mono hN))
theorem Lj (N n : Nat) (hN : n <= N) : Ef 178 n (Er 5 N) := by
 intro w b tb to tc T at_ d v D ts h;have H := zz (a2a h 5 ((Ih N).mono hN));clear h;go_enter func178, ntmps178;go_wp2_with fail;refine H.out.mono ?_;rintro e w1 ⟨rfl, hw⟩;replace hw := zz hw;go_wp2_with fail;go_ret;exact ⟨rfl, hw.out⟩
theorem a8m {w : World} {b tb to tc : Nat} {T : List Tok} {at_ d : Nat} {v : Value} {D : List Nd} {n : Nat} {ts : List Tok} (h : Sit w b tb to tc T at_ d v D n ts) {N : Nat} (hq : sees [114, 101, 99] ts = true) (hN : n <= N) : Calls prog 99 #[pR b] w (Fc b tb to tc T d D w (a8n N d ts)) := by
 have hbl := h.rd.lt;obtain ⟨⟨kd, ln, cl, nm, tx⟩, ht⟩ : ∃ t, hd ts = t := ⟨_, rfl⟩;obtain ⟨a, cap, hv⟩ := A6 h.rd.own;obtain ⟨X, hX⟩ : ∃ X, bs tx = X := ⟨_, rfl⟩;obtain ⟨dn, hdn⟩ : ∃ dn, D.length = dn := ⟨_, rfl⟩;have HH : Hid (Calls prog 136 #[pR b] w fun e w' => e = .returned (sV kd ln cl nm X dn) ∧ Below w.heap.size w w') := zz (by have := Cj h ht dn hdn a cap (by rw [hv, hdn]); rw [hX] at this; exact this);have hk : (hd ts).kind ≠ 8 := by obtain ⟨t, l, rfl, hk, _⟩ := B0 hq; simp [hd]; omega
 have hlt : at_ < T.length := (List.getElem?_eq_some_iff.1 h.next).1;have htn := h.rd.tn;have hn : at_ < 1000000 := by omega
 replace hk := zz hk;obtain ⟨⟨kd2, ln2, cl2, nm2, tx2⟩, ht2⟩ : ∃ t, hd ts.tail = t := ⟨_, rfl⟩;obtain ⟨X2, hX2⟩ : ∃ X2, bs tx2 = X2 := ⟨_, rfl⟩;have hF := a7n kd2 ln2 cl2 nm2 X2;obtain ⟨O, hO⟩ : ∃ O, (a8n N) d ts = O := ⟨_, rfl⟩;rw [hO];replace hO := zz hO;have hs := zz h;replace ht := zz ht;replace hX := zz hX;replace hdn := zz hdn;replace hv := zz hv;replace ht2 := zz ht2;replace hX2 := zz hX2;clear h hlt htn;go_enter func99, ntmps99;go_wp2_with fail;refine HH.out.mono ?_;rintro e w1 ⟨rfl, hb⟩;have c1 := (hs.out.rd.carry hb).c1;have fz := (hs.out.rd.carry hb).fz;have hbl1 := (hs.out.rd.carry hb).lt;have HT := (hs.out.carry hb).tail ((hs.out.carry hb).rd.bump (at_ + 1)) hk.out;rw [show ((at_ + 1 : Nat) : Int) = (at_ : Int) + 1 by omega] at HT;replace HT := zz HT;replace hb := zz hb;go_wp2_with fail;obtain ⟨W, hW⟩ : ∃ W, W = (w1.setCell ⟨b, 1, none⟩ (.int .i64 ((at_ : Int) + 1))).alloc (.cells #[.int .u8 kd, .int .i64 ln, .int .i64 cl, .int .i64 nm, .string X, .int .i64 dn] 93) := ⟨_, rfl⟩;rw [<- hW];have HS0 : Hid (Sit W b tb to tc T (at_ + 1) d v D (n - 1) ts.tail) := zz (by rw [hW]; exact HT.out.carry (Aa _ _));have HF0 : Hid (Fr b w W) := zz (by rw [hW]; exact ((Fr.only (Onl.below hb.out) (by omega)).trans (Fr.only (Onl.set _ _ _ _) (by omega))).trans (Fr.only (Onl.below (Aa _ _)) (by simp; omega)));have HM0 : Hid (SAt W w1.heap.size kd ln cl nm X dn) := zz (by rw [hW]; have := SAt.made (w1.setCell ⟨b, 1, none⟩ (.int .i64 ((at_ : Int) + 1))) kd ln cl nm X dn; simpa using this);clear hW HT c1 fz;have HN0 := zz (HS0.out.next_at ht2.out W (Below.refl _ _));rw [hX2.out] at HN0;refine HN0.out.mono ?_;rintro e wn ⟨rfl, hbn⟩;replace HF0 := zz (HF0.out.trans (Fr.only (Onl.below hbn) (by have := HS0.out.rd.lt; omega)));replace HS0 := zz (HS0.out.carry hbn);replace HM0 := zz (HM0.out.below hbn);replace hbn := zz hbn;go_wp2_with fail
 cases e1 : (Hc 2) d ts.tail with
 | bad c l k =>
  have hA := hO.out;simp only [a8n, B7, Ci, Fd, Out.bind, e1] at hA;subst hA;replace e1 := zz e1;have HC1 := zz (D5 (Ft HS0.out 2 (by decide)) e1.out);refine HC1.out.mono ?_;rintro e w2 ⟨rfl, rf, fr⟩;replace rf := zz rf;replace fr := zz fr;go_wp2_with fail;go_ret
  exact ⟨rfl, rf.out, HF0.out.trans fr.out⟩
 | ok F1 r1 =>
  replace e1 := zz e1;have HC1 := zz (J1 (Ft HS0.out 2 (by decide)) e1.out);refine HC1.out.mono ?_;rintro e w2 ⟨rfl, ⟨at1, v1, dr, rd⟩, fr⟩;have HS1 := zz (HS0.out.then (s := 1) (Gg 2 (by decide) (by decide) d ts.tail F1 r1 e1.out) dr rd);have HF1 := zz (HF0.out.trans fr);have HM1 := zz (HM0.out.fr fr (by omega));clear dr rd fr;go_wp2_with fail
  cases e2 : (Az [123] [125] (Cx [125] (Jr N) N)) d r1 with
  | bad c l k =>
   have hA := hO.out;simp only [a8n, B7, Ci, Fd, Out.bind, e1.out, e2] at hA;subst hA;replace e2 := zz e2;have HC2 := zz (D5 (Cw (HS1.out) { data := #[123] } { data := #[125] } [123] [125] (by rw [ByteArray.toList_eq]) (by rw [ByteArray.toList_eq]) (Fe (P5 (Rx N _ (by omega)) ((K5 N).mono (by omega)) (fun d ts F r e => Uv e) N (by omega)) (by intro args w; simp [go_sem])) (Hu ((K5 N).mono (by omega)) N)) e2.out);refine HC2.out.mono ?_;rintro e w3 ⟨rfl, rf, fr⟩;replace rf := zz rf;replace fr := zz fr;go_wp2_with fail;go_ret
   exact ⟨rfl, rf.out, HF1.out.trans fr.out⟩
  | ok F2 r2 =>
   replace e2 := zz e2;have hA := hO.out;simp only [a8n, B7, Ci, Fd, Out.bind, e1.out, e2.out] at hA;subst hA;have HC2 := zz (J1 (Cw (HS1.out) { data := #[123] } { data := #[125] } [123] [125] (by rw [ByteArray.toList_eq]) (by rw [ByteArray.toList_eq]) (Fe (P5 (Rx N _ (by omega)) ((K5 N).mono (by omega)) (fun d ts F r e => Uv e) N (by omega)) (by intro args w; simp [go_sem])) (Hu ((K5 N).mono (by omega)) N)) e2.out);refine HC2.out.mono ?_;rintro e w3 ⟨rfl, ⟨at2, v2, dr, rd⟩, fr⟩;have HS2 := zz (HS1.out.then (s := 2) (Bs (o := [123]) (c := [125]) (Hu ((K5 N).mono (by omega)) N) d r1 F2 r2 e2.out) dr rd);have HF2 := zz (HF1.out.trans fr);have HM2 := zz (HM1.out.fr fr (by omega));clear dr rd fr;obtain ⟨m0, m1, m2, m3, m4, m5⟩ := HM2.out.at;go_wp2_with fail;have HA := zz (Cu HS2.out.rd kd ln cl dn nm X 2 0 0 0 0 X2 (F1.app F2).cnt (by have := hdn.out; simp [Ao, Bx, Fo.cnt]; omega) (by have := HS2.out.rm; omega));refine HA.out.mono ?_;rintro e wa ⟨rfl, ⟨va, rda⟩, fra⟩;replace rda := zz rda;replace fra := zz fra;go_wp2_with fail;go_ret;exact ⟨rfl, ⟨at2, va, HS2.out.dr, Do rda.out (by simp [Bo, Fo.post, List.append_assoc]) (by simp [mkK, mkX, mkY, mkN, Inf.nd, ht.out, ht2.out, hX2.out]; try rfl)⟩, HF2.out.trans fra.out⟩
theorem Yt {w : World} {b tb to tc : Nat} {T : List Tok} {at_ d : Nat} {v : Value} {D : List Nd} {n : Nat} {ts : List Tok} (h : Sit w b tb to tc T at_ d v D n ts) (N : Nat) (hN : n <= N) : Calls prog 143 #[pR b] w (Fc b tb to tc T d D w (Gb N d ts)) := by
 have hbl := h.rd.lt;unfold Gb
 cases q0 : sees [58] ts with
 | false =>
  have Q0 := zz (Ah h.rd h.next { data := #[58] } [58] (by rw [ByteArray.toList_eq]) false q0);rw [if_neg (by simp)];obtain ⟨a, cap, hv⟩ := A6 h.rd.own;obtain ⟨dn, hdn⟩ : ∃ dn, D.length = dn := ⟨_, rfl⟩;have hrm := h.rm;replace h := zz h;replace hdn := zz hdn;replace hv := zz hv;go_enter func143, ntmps143;go_wp2_with fail;refine Q0.out.mono ?_;rintro e w1 ⟨rfl, hb⟩;have c3 := (h.out.rd.carry hb).c3;rw [hv.out, hdn.out] at c3;have HA := zz (Cu (h.out.rd.carry hb) 0 0 0 dn 0 { data := #[] } 14 0 0 0 0 { data := #[] } 0 (by rw [hdn.out]; rfl) (by omega));replace hb := zz hb;go_wp2_with fail;refine HA.out.mono ?_;rintro e w2 ⟨rfl, ⟨v2, rd2⟩, fr2⟩;replace rd2 := zz rd2;replace fr2 := zz fr2;go_wp2_with fail;go_ret
  exact ⟨rfl, ⟨at_, v2, h.out.dr, by have := rd2.out; simpa [Fo.post, Fo.cnt, Inf.nd, bs] using this⟩, (Fr.only (Onl.below hb.out) (by omega)).trans fr2.out⟩
 | true =>
  have Q0 := zz (Ah h.rd h.next { data := #[58] } [58] (by rw [ByteArray.toList_eq]) true q0)
  have hk : (hd ts).kind ≠ 8 := by
   obtain ⟨t, l, rfl, hk, _⟩ := B0 q0;simp [hd]; omega
  have hlt : at_ < T.length := (List.getElem?_eq_some_iff.1 h.next).1;have htn := h.rd.tn;have hn : at_ < 1000000 := by omega
  rw [if_pos rfl];replace hk := zz hk;replace h := zz h;clear q0 hlt htn;go_enter func143, ntmps143;go_wp2_with fail;refine Q0.out.mono ?_;rintro e w1 ⟨rfl, hb⟩;have c1 := (h.out.rd.carry hb).c1;have fz := (h.out.rd.carry hb).fz;have HT := (h.out.carry hb).tail ((h.out.carry hb).rd.bump (at_ + 1)) hk.out;rw [show ((at_ + 1 : Nat) : Int) = (at_ : Int) + 1 by omega] at HT;have HC := zz (Ih N (HT.up (by omega)));have HF := zz ((Fr.only (Onl.below hb) (by omega)).trans (Fr.only (Onl.set b w1 1 (.int .i64 ((at_ : Int) + 1))) (by have := (h.out.rd.carry hb).lt; omega)));replace hb := zz hb;clear HT;go_wp2_with fail;refine HC.out.mono ?_;rintro e w2 ⟨rfl, hw⟩;replace hw := zz hw;go_wp2_with fail;go_ret;exact ⟨rfl, hw.out.back HF.out⟩
theorem a1c {w : World} {b tb to tc : Nat} {T : List Tok} {at_ d : Nat} {v : Value} {D : List Nd} {n : Nat} {ts : List Tok} (h : Sit w b tb to tc T at_ d v D n ts) {N : Nat} (hN : n <= N) : Calls prog 100 #[pR b] w (Fc b tb to tc T d D w (fnP N d ts)) := by
 have hbl := h.rd.lt;obtain ⟨⟨kd, ln, cl, nm, tx⟩, ht⟩ : ∃ t, hd ts = t := ⟨_, rfl⟩;obtain ⟨a, cap, hv⟩ := A6 h.rd.own;obtain ⟨X, hX⟩ : ∃ X, bs tx = X := ⟨_, rfl⟩;obtain ⟨dn, hdn⟩ : ∃ dn, D.length = dn := ⟨_, rfl⟩;have HH : Hid (Calls prog 136 #[pR b] w fun e w' => e = .returned (sV kd ln cl nm X dn) ∧ Below w.heap.size w w') := zz (by have := Cj h ht dn hdn a cap (by rw [hv, hdn]); rw [hX] at this; exact this);obtain ⟨O, hO⟩ : ∃ O, (fnP N) d ts = O := ⟨_, rfl⟩;rw [hO];replace hO := zz hO;have hs := zz h;replace ht := zz ht;replace hX := zz hX;replace hdn := zz hdn;replace hv := zz hv;clear h;go_enter func100, ntmps100;go_wp2_with fail;refine HH.out.mono ?_;rintro e w1 ⟨rfl, hb⟩;have hbl1 := (hs.out.rd.carry hb).lt;replace hb := zz hb;go_wp2_with fail;obtain ⟨W, hW⟩ : ∃ W, W = w1.alloc (.cells #[.int .u8 kd, .int .i64 ln, .int .i64 cl, .int .i64 nm, .string X, .int .i64 dn] 93) := ⟨_, rfl⟩;rw [<- hW];have HS0 : Hid (Sit W b tb to tc T at_ d v D n ts) := zz (by rw [hW]; exact (hs.out.carry hb.out).carry (Aa _ _));have HF0 : Hid (Fr b w W) := zz (by rw [hW]; exact (Fr.only (Onl.below hb.out) (by omega)).trans (Fr.only (Onl.below (Aa _ _)) (by omega)));have HM0 : Hid (SAt W w1.heap.size kd ln cl nm X dn) := zz (by rw [hW]; exact SAt.made w1 kd ln cl nm X dn);clear hW
 cases e1 : (take [102, 110]) d ts with
 | bad c l k =>
  have hA := hO.out;simp only [fnP, Fd, Out.bind, e1] at hA;subst hA;replace e1 := zz e1;have HC1 := zz (D5 (D9 HS0.out { data := #[102, 110] } [102, 110] (by rw [ByteArray.toList_eq])) e1.out);refine HC1.out.mono ?_;rintro e w2 ⟨rfl, rf, fr⟩;replace rf := zz rf;replace fr := zz fr;go_wp2_with fail;go_ret
  exact ⟨rfl, rf.out, HF0.out.trans fr.out⟩
 | ok F1 r1 =>
  replace e1 := zz e1;have HC1 := zz (J1 (D9 HS0.out { data := #[102, 110] } [102, 110] (by rw [ByteArray.toList_eq])) e1.out);refine HC1.out.mono ?_;rintro e w2 ⟨rfl, ⟨at1, v1, dr, rd⟩, fr⟩;have HS1 := zz (HS0.out.then (s := 1) (Ct [102, 110] d ts F1 r1 e1.out) dr rd);have HF1 := zz (HF0.out.trans fr);have HM1 := zz (HM0.out.fr fr (by omega));clear dr rd fr;have z1 : F1.cnt = 0 := by rw [Sm e1.out]; rfl
  have y1 : F1.post = [] := by rw [Sm e1.out]; rfl
  obtain ⟨⟨kd2, ln2, cl2, nm2, tx2⟩, ht2⟩ : ∃ t, hd r1 = t := ⟨_, rfl⟩;obtain ⟨X2, hX2⟩ : ∃ X2, bs tx2 = X2 := ⟨_, rfl⟩;have hF := a7n kd2 ln2 cl2 nm2 X2;have HN0 := zz (HS1.out.next_at ht2 w2 (Below.refl _ _));rw [hX2] at HN0;replace ht2 := zz ht2;replace hX2 := zz hX2;replace z1 := zz z1;replace y1 := zz y1;go_wp2_with fail;refine HN0.out.mono ?_;rintro e wn ⟨rfl, hbn⟩;replace HF1 := zz (HF1.out.trans (Fr.only (Onl.below hbn) (by have := HS1.out.rd.lt; omega)));replace HS1 := zz (HS1.out.carry hbn);replace HM1 := zz (HM1.out.below hbn);replace hbn := zz hbn;go_wp2_with fail
  cases e2 : (Hc 1) d r1 with
  | bad c l k =>
   have hA := hO.out;simp only [fnP, Fd, Out.bind, e1.out, e2] at hA;subst hA;replace e2 := zz e2;have HC2 := zz (D5 (Ft HS1.out 1 (by decide)) e2.out);refine HC2.out.mono ?_;rintro e w3 ⟨rfl, rf, fr⟩;replace rf := zz rf;replace fr := zz fr;go_wp2_with fail;go_ret
   exact ⟨rfl, rf.out, HF1.out.trans fr.out⟩
  | ok F2 r2 =>
   replace e2 := zz e2;have HC2 := zz (J1 (Ft HS1.out 1 (by decide)) e2.out);refine HC2.out.mono ?_;rintro e w3 ⟨rfl, ⟨at2, v2, dr, rd⟩, fr⟩;have HS2 := zz (HS1.out.then (s := 1) (Gg 1 (by decide) (by decide) d r1 F2 r2 e2.out) dr rd);have HF2 := zz (HF1.out.trans fr);have HM2 := zz (HM1.out.fr fr (by omega));clear dr rd fr;go_wp2_with fail
   cases e3 : (Az [40] [41] (Ee (Er 5 N) N)) d r2 with
   | bad c l k =>
    have hA := hO.out;simp only [fnP, Fd, Out.bind, e1.out, e2.out, e3] at hA;subst hA;replace e3 := zz e3;have HC3 := zz (D5 (Cw (HS2.out) { data := #[40] } { data := #[41] } [40] [41] (by rw [ByteArray.toList_eq]) (by rw [ByteArray.toList_eq]) (Fe (Kd (Lj N _ (by omega)) ((Fu 5 N).mono (by omega)) N (by omega)) (by intro args w; simp [go_sem])) (D8 ((Fu 5 N).mono (by omega)) N)) e3.out);refine HC3.out.mono ?_;rintro e w4 ⟨rfl, rf, fr⟩;replace rf := zz rf;replace fr := zz fr;go_wp2_with fail;go_ret
    exact ⟨rfl, rf.out, HF2.out.trans fr.out⟩
   | ok F3 r3 =>
    replace e3 := zz e3;have HC3 := zz (J1 (Cw (HS2.out) { data := #[40] } { data := #[41] } [40] [41] (by rw [ByteArray.toList_eq]) (by rw [ByteArray.toList_eq]) (Fe (Kd (Lj N _ (by omega)) ((Fu 5 N).mono (by omega)) N (by omega)) (by intro args w; simp [go_sem])) (D8 ((Fu 5 N).mono (by omega)) N)) e3.out);refine HC3.out.mono ?_;rintro e w4 ⟨rfl, ⟨at3, v3, dr, rd⟩, fr⟩;have HS3 := zz (HS2.out.then (s := 2) (Bs (o := [40]) (c := [41]) (D8 ((Fu 5 N).mono (by omega)) N) d r2 F3 r3 e3.out) dr rd);have HF3 := zz (HF2.out.trans fr);have HM3 := zz (HM2.out.fr fr (by omega));clear dr rd fr;have hrd3 : Rd w4 b tb to tc T at3 d v3 (D ++ (F2.app F3).post) := by have := HS3.out.rd; simpa [Bo, y1.out, List.append_assoc] using this
    obtain ⟨a3, m3, cap3, a4, cap4, hv3, hcut, hrow, hle3⟩ := a50 hrd3 dn hdn.out;obtain ⟨cn, hcn⟩ : ∃ cn, (F2.app F3).cnt = cn := ⟨_, rfl⟩;rw [hcn] at hcut;obtain ⟨np, hnp⟩ : ∃ np, Lm 5 (F2.app F3).post = np := ⟨_, rfl⟩;have c3 := hrd3.c3;rw [hv3] at c3;have hcn2 : cn <= 600000 := by have h1 := HS3.out.rm; have h2 := z1.out; simp [Ao] at h1; rw [Bx] at hcn; omega
    have HCN := zz (fun (w' : World) (hb : Below w4.heap.size w4 w') => a52 (cap := cap4) (zz (show (F2.app F3).post.length = cn by rw [Ao]; exact hcn)) hcn2 (zz (hrow.carry hb)) 5);rw [hnp] at HCN;obtain ⟨m0, m1, m2, m3', m4, m5⟩ := HM3.out.at;have k3 := fun D os => cell_regrown (w := w4) (a := ⟨b, 3, none⟩) (v := .slice a3 m3 cap3) c3 D os
    have k5 := fun D os => cell_regrown (w := w4) (a := ⟨w1.heap.size, 5, none⟩) (v := .int .i64 dn) m5 D os
    have cc : ∀ D os, Calls prog 142 #[.slice a4 cn cap4, .int .u8 5] (grow (redrawn w4 D) os) fun e w'' => e = .returned (.int .i64 np) ∧ ∃ p : Regrown, w'' = grow (redrawn w4 p.d) p.os := fun D os => Calls.regrown_of (HCN.out _ (below_regrown _ _ _))
    replace hnp := zz hnp;clear hrd3 hv3 hrow hcn m0 m1 m2 m3' m4 m5 c3;go_wp2_with fail;refine wp_region_quiet_below (by kernel_rfl) (by kernel_rfl) ?_
    repeat (quiet_step (first | with_reducible exact cc _ _))
    refine wpQuiet_nil ?_;rintro _ ⟨⟨dq, osq⟩, rfl⟩;have hbq := below_regrown w4 dq osq;clear k3 k5 cc;generalize grow (redrawn w4 dq) osq = wq at *;replace HF3 := zz (HF3.out.trans (Fr.only (Onl.below hbq) (by have := HS3.out.rd.lt; omega)));replace HS3 := zz (HS3.out.carry hbq);replace HM3 := zz (HM3.out.below hbq);replace hbq := zz hbq;clear hcut;go_wp2_with fail
    cases e4 : (Gb N) d r3 with
    | bad c l k =>
     have hA := hO.out;simp only [fnP, Fd, Out.bind, e1.out, e2.out, e3.out, e4] at hA;subst hA;replace e4 := zz e4;have HC4 := zz (D5 (Yt (HS3.out) N (by omega)) e4.out);refine HC4.out.mono ?_;rintro e w5 ⟨rfl, rf, fr⟩;replace rf := zz rf;replace fr := zz fr;go_wp2_with fail;go_ret
     exact ⟨rfl, rf.out, HF3.out.trans fr.out⟩
    | ok F4 r4 =>
     replace e4 := zz e4;have HC4 := zz (J1 (Yt (HS3.out) N (by omega)) e4.out);refine HC4.out.mono ?_;rintro e w5 ⟨rfl, ⟨at4, v4, dr, rd⟩, fr⟩;have HS4 := zz ((⟨rd, dr, (Ku N e4.out).2.1 HS3.out.en, by have h1 := (Ku N e4.out).1; have h2 := HS3.out.ln; omega, by have l1 := (Ct [102, 110] d ts F1 r1 e1.out).1; have l2 := (Gg 1 (by decide) (by decide) d r1 F2 r2 e2.out).1; have l3 := (Bs (o := [40]) (c := [41]) (D8 ((Fu 5 N).mono (by omega)) N) d r2 F3 r3 e3.out).1; have l4 := (Ku N e4.out).1; have l0 := hs.out.rm; simp [Ao]; omega, HS3.out.dp⟩ : Sit w5 b tb to tc T at4 d v4 (D ++ F1.post ++ F2.post ++ F3.post ++ F4.post) (n - 1 - 1 - 2) r4));have HF4 := zz (HF3.out.trans fr);have HM4 := zz (HM3.out.fr fr (by omega));clear dr rd fr;go_wp2_with fail
     cases e5 : (Fb (L7 N) N) d r4 with
     | bad c l k =>
      have hA := hO.out;simp only [fnP, Fd, Out.bind, e1.out, e2.out, e3.out, e4.out, e5] at hA;subst hA;replace e5 := zz e5;have HC5 := zz (D5 ((Nk (n := N) (m := N) ((Ty N).mono (by omega)) (by omega)) (HS4.out.up (by omega))) e5.out);refine HC5.out.mono ?_;rintro e w6 ⟨rfl, rf, fr⟩;replace rf := zz rf;replace fr := zz fr;go_wp2_with fail;go_ret
      exact ⟨rfl, rf.out, HF4.out.trans fr.out⟩
     | ok F5 r5 =>
      replace e5 := zz e5;have hA := hO.out;simp only [fnP, Fd, Out.bind, e1.out, e2.out, e3.out, e4.out, e5.out] at hA;subst hA;have HC5 := zz (J1 ((Nk (n := N) (m := N) ((Ty N).mono (by omega)) (by omega)) (HS4.out.up (by omega))) e5.out);refine HC5.out.mono ?_;rintro e w6 ⟨rfl, ⟨at5, v5, dr, rd⟩, fr⟩;have HS5 := zz (HS4.out.then (s := 1) (Om (P3 N) N d r4 F5 r5 e5.out) dr rd);have HF5 := zz (HF4.out.trans fr);have HM5 := zz (HM4.out.fr fr (by omega));clear dr rd fr;obtain ⟨m0, m1, m2, m3, m4, m5⟩ := HM5.out.at;go_wp2_with fail;have HA := zz (Cu HS5.out.rd kd ln cl dn nm X 4 0 0 0 (np : Int) X2 ((F2.app F3).app (F4.app F5)).cnt (by have := hdn.out; have := z1.out; simp [Ao, Bx, Fo.cnt]; omega) (by have := HS5.out.rm; omega));refine HA.out.mono ?_;rintro e wa ⟨rfl, ⟨va, rda⟩, fra⟩;replace rda := zz rda;replace fra := zz fra;go_wp2_with fail;go_ret;exact ⟨rfl, ⟨at5, va, HS5.out.dr, Do rda.out (by simp [Bo, Fo.post, List.append_assoc, y1.out]) (by simp [mkK, mkX, mkY, mkN, Inf.nd, ht.out, ht2.out, hX2.out, hnp.out]; try rfl)⟩, HF5.out.trans fra.out⟩
theorem S9 {w : World} {b tb to tc : Nat} {T : List Tok} {at_ d : Nat} {v : Value} {D : List Nd} {n : Nat} {ts : List Tok} (h : Sit w b tb to tc T at_ d v D n ts) {N : Nat} (hN : n <= N) : Calls prog 66 #[pR b] w (Fc b tb to tc T d D w ((Ia N) d ts)) := by
 have hbl := h.rd.lt
 cases q0 : sees [114, 101, 99] ts with
 | true =>
  have HS := zz h;have Q0 := zz (fun w' hb => Ah (h.rd.carry (w' := w') hb) h.next { data := #[114, 101, 99] } [114, 101, 99] (by rw [ByteArray.toList_eq]) true q0);simp only [Ia, Hp];rw [if_pos q0];have HCALL := zz (fun (w' : World) (hb : Below w.heap.size w w') => a8m (h.carry hb) q0 hN);clear h;go_enter func66, ntmps66;go_wp2_with fail;refine (Q0.out _ (Below.refl _ _)).mono ?_;rintro e w1 ⟨rfl, hb1⟩;replace hb1 := zz hb1;go_wp2_with fail;refine (HCALL.out _ (hb1.out)).mono ?_;rintro e wz ⟨rfl, hw⟩;replace hw := zz hw;go_wp2_with fail;go_ret
  exact ⟨rfl, hw.out.back (Fr.only (Onl.below (hb1.out)) (by omega))⟩
 | false =>
  have HS := zz h;have Q0 := zz (fun w' hb => Ah (h.rd.carry (w' := w') hb) h.next { data := #[114, 101, 99] } [114, 101, 99] (by rw [ByteArray.toList_eq]) false q0);simp only [Ia, Hp];rw [if_neg (show ¬ sees [114, 101, 99] ts = true by rw [q0]; simp)];have HCALL := zz (fun (w' : World) (hb : Below w.heap.size w w') => a1c (h.carry hb) hN);clear h;go_enter func66, ntmps66;go_wp2_with fail;refine (Q0.out _ (Below.refl _ _)).mono ?_;rintro e w1 ⟨rfl, hb1⟩;replace hb1 := zz hb1;go_wp2_with fail;refine (HCALL.out _ (hb1.out)).mono ?_;rintro e wz ⟨rfl, hw⟩;replace hw := zz hw;go_wp2_with fail;go_ret;exact ⟨rfl, hw.out.back (Fr.only (Onl.below (hb1.out)) (by omega))⟩
end
end
section
section
open Go.RowKit Go.Sort
theorem b5n {w : World} {b tb to tc : Nat} {T : List Tok} {at_ d : Nat} {v : Value} {D : List Nd} {n : Nat} {ts : List Tok} (h : Sit w b tb to tc T at_ d v D n ts) (hk : (hd ts).kind = 8) : Calls prog 63 #[pR b] w fun e w' => e = .returned (.bool true) ∧ Below w.heap.size w w' := by
 obtain ⟨⟨kd, ln, cl, nm, tx⟩, ht⟩ : ∃ t, hd ts = t := ⟨_, rfl⟩;have H := zz (h.next_at ht w (Below.refl _ _));have hF := Wi kd ln cl nm (bs tx);have k8 : ((kd : Int) == 8) = true := by rw [ht] at hk; simp at hk; rw [hk]; rfl
 clear h hk ht;go_enter func63, ntmps63;go_wp2_with fail;refine H.out.mono ?_;rintro e w1 ⟨rfl, hb⟩;replace hb := zz hb;go_wp2_with fail;go_ret;exact ⟨rfl, hb.out⟩
theorem c0k {w : World} {b tb to tc : Nat} {T : List Tok} {at_ d : Nat} {v : Value} {D : List Nd} {n : Nat} {ts : List Tok} (h : Sit w b tb to tc T at_ d v D n ts) (hk : ¬ (hd ts).kind = 8) : Calls prog 63 #[pR b] w (c26 b w 5 (hd ts).line (hd ts).col) := by
 obtain ⟨⟨kd, ln, cl, nm, tx⟩, ht⟩ : ∃ t, hd ts = t := ⟨_, rfl⟩;have H := zz (h.next_at ht w (Below.refl _ _));have HN := zz (fun (w' : World) (hb : Below w.heap.size w w') => Mr (h.rd.carry hb) h.next 5);have hF := Wi kd ln cl nm (bs tx);have k8 : ((kd : Int) == 8) = false := by rw [ht] at hk; simp at hk; rw [beq_eq_false_iff_ne]; omega
 clear h hk ht;go_enter func63, ntmps63;go_wp2_with fail;refine H.out.mono ?_;rintro e w1 ⟨rfl, hb⟩;replace hb := zz hb;go_wp2_with fail;refine (HN.out _ hb.out).mono ?_;rintro e w2 ⟨rfl, h1, h2⟩;replace h1 := zz h1;replace h2 := zz h2;go_wp2_with fail;go_ret;exact ⟨rfl, h1.out, (Onl.below hb.out).trans h2.out⟩
theorem a3o {w : World} {b tb to tc : Nat} {T : List Tok} {at_ d : Nat} {v : Value} {n : Nat} {ts : List Tok} (h : Sit w b tb to tc T at_ d v [] n ts) (N : Nat) (hN : n <= N) :
  Calls prog 38 #[pR b] w (Fc b tb to tc T d [] w (Ju N d ts)) := by
 have hbl := h.rd.lt;unfold Ju;obtain ⟨R, hR⟩ : ∃ R, Ip (Ia N) N d ts = R := ⟨_, rfl⟩;rw [hR];have HS : Hid (a1r w b tb to tc T d [] n (Ip (Ia N)) R w) := zz ⟨at_, v, .nil, ts, N, by simpa [Fo.post] using h, by rw [<- hR]; cases Ip (Ia N) N d ts <;> rfl, by have := h.ln; omega, Fr.refl _ _⟩;have hdo : Hid (Ef 66 n (Ia N)) := zz fun w b tb to tc T at_ d v D ts h => S9 h hN
 have hg := zz (Xs N);clear h hR;go_enter func38, ntmps38;go_wp2_with fail
 go_loopw [2] (fun v wr => v = .bool false ∧ a1r w b tb to tc T d [] n (Ip (Ia N)) R wr) (fun _ wr => left T b wr)
 case atStart => exact ⟨rfl, HS.out⟩
 case round =>
  obtain ⟨rfl, at1, v1, A, ts1, m, hs, hRR, hm, hfr⟩ := hrel;obtain ⟨t, l, hts⟩ := hs.en.ne;obtain ⟨m, rfl⟩ : ∃ m', m = m' + 1 := ⟨m - 1, by rw [hts] at hm; simp at hm; omega⟩;obtain ⟨⟨kd, ln, cl, nm, tx⟩, ht⟩ : ∃ t, hd ts1 = t := ⟨_, rfl⟩;have H := zz (hs.next_at ht wr (Below.refl _ _));have hF := Wi kd ln cl nm (bs tx);by_cases hk : (hd ts1).kind = 8
  ·have HR : Hid (R = .ok A ts1) := zz (by rw [<- hRR]; unfold Ip; rw [if_pos hk]; simp [Out.bind, Nl]);have k8 : ((kd : Int) != 8) = false := by rw [ht] at hk; simp at hk; rw [hk]; rfl
   replace hs := zz hs;replace hfr := zz hfr;clear hRR hts hk hm ht;go_wp2_with fail;refine H.out.mono ?_;rintro e w1 ⟨rfl, hb⟩;have HA := zz (Cu (hs.out.rd.carry hb) 0 1 1 0 0 { data := #[] } 1 0 0 0 0 { data := #[] } A.cnt (by simp [Ao]) (by have := hs.out.rm; omega));replace hb := zz hb;go_wp2_with fail;refine HA.out.mono ?_;rintro e w2 ⟨rfl, ⟨v2, rd2⟩, fr2⟩;replace rd2 := zz rd2;replace fr2 := zz fr2;go_wp2_with fail;go_ret;rw [HR.out];exact ⟨rfl, ⟨at1, v2, hs.out.dr, Do rd2.out rfl (by simp [Inf.nd]; rfl)⟩, (hfr.out.trans (Fr.only (Onl.below hb.out) (by have := hs.out.rd.lt; omega))).trans fr2.out⟩
  ·have k8 : ((kd : Int) != 8) = true := b2i (by rw [ht] at hk; simp at hk; omega);have HD := zz (fun (w' : World) (hb : Below wr.heap.size wr w') => hdo.out (hs.carry hb));obtain ⟨o, ho⟩ : ∃ o, Ia N d ts1 = o := ⟨_, rfl⟩;have HRR : Hid ((o.bind fun F r => (Ip (Ia N) m d r).bind fun G r' => .ok (F.app G) r').bind (fun G r' => .ok (A.app G) r') = R) := zz (by rw [<- hRR, <- ho]; conv => rhs; unfold Ip; rw [if_neg hk]);rw [ho] at HD;have HL := zz (fun F r e => hg.out d ts1 F r (ho.trans e));have H1 := zz (fun F r e => a87 N (d := d) (ts := ts1) (F := F) (r := r) (ho.trans e));replace hs := zz hs;replace hfr := zz hfr;clear hRR hts hk ho ht;go_wp2_with fail;refine H.out.mono ?_;rintro e w1 ⟨rfl, hb⟩;replace hb := zz hb;go_wp2_with fail;refine (HD.out _ hb.out).mono ?_;rintro e w2 ⟨rfl, hw⟩
   cases o with
   | bad c l k =>
    replace hw := zz hw;go_wp2_with fail;go_ret;rw [<- HRR.out]
    exact ⟨rfl, hw.out.1, (hfr.out.trans (Fr.only (Onl.below hb.out) (by have := hs.out.rd.lt; omega))).trans hw.out.2⟩
   | ok F r =>
    obtain ⟨⟨at', v', hdr, hrd⟩, hf2⟩ := hw;have hS2 := zz (hs.out.then (s := 0) (HL.out F r rfl) hdr hrd);replace hf2 := zz hf2;clear hdr hrd;go_wp2_with fail
    go_roundw
    case rel =>
     refine ⟨rfl, at', v', A.app F, r, m, by rw [Bo, <- List.append_assoc]; exact hS2.out, ?_, ?_, (hfr.out.trans (Fr.only (Onl.below hb.out) (by have := hs.out.rd.lt; omega))).trans hf2.out⟩
     ·rw [<- HRR.out];show _ = (((Ip (Ia N) m d r).bind fun G r' => .ok (F.app G) r').bind fun G r' => .ok (A.app G) r')
      cases Ip (Ia N) m d r with
      | ok G r' => simp [Out.bind, Mx]
      | bad c l k => rfl
     ·have := (HL.out F r rfl).1;have := H1.out F r rfl;omega
    case measure =>
     rw [Gc hs.out, Gc hS2.out];have := (HL.out F r rfl).1;have := H1.out F r rfl;omega
end
end
end Go.Proofs.YtoaplbljflhheaaGreat
