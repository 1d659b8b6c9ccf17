/-
  Contracts of parse.reader's dot and postfix, and with them of expressions of any number of tokens. Conditions: as said.
-/
import Derived.Test.YtbknflaooemigaaRea
namespace Go.Proofs.Ytbknflaooemigaa
open Go.RowKit Go.Sort
set_option linter.unusedVariables false
set_option linter.unusedSimpArgs false

def dotP (F : Fo) : Pt := fun d ts => (kindP 1 d ts.tail).bind fun _ r => .ok (.cons (mkY 29 ts) F .nil) r

set_option maxHeartbeats 1000000 in
theorem dot_r {w : World} {b tb to tc : Nat} {T : List Tok} {at_ d : Nat} {v : Value} {D : List Nd} {F : Fo} {n : Nat} {ts : List Tok} (h : Sit w b tb to tc T at_ d v (D ++ F.post) n ts) (hk : (hd ts).kind ≠ 8) {kd ln cl : Nat} {nm : Int} {tx : List UInt8} (ht : hd ts = ⟨kd, ln, cl, nm, tx⟩) (X : ByteArray) (dn : Nat) (hdn : D.length = dn) :
    Calls Try.prog 92 #[pR b, sV kd ln cl nm X dn] w (Post b tb to tc T d D w (dotP F d ts)) := by
  have hbl := h.rd.lt
  have hlt : at_ < T.length := (List.getElem?_eq_some_iff.1 h.next).1
  have htn := h.rd.tn
  have hn : at_ < 1000000 := by omega
  obtain ⟨⟨kd2, ln2, cl2, nm2, tx2⟩, ht2⟩ : ∃ t, hd ts.tail = t := ⟨_, rfl⟩
  obtain ⟨X2, hX2⟩ : ∃ X2, bs tx2 = X2 := ⟨_, rfl⟩
  have hF := tokF4 kd2 ln2 cl2 nm2 X2
  have c1 := h.rd.c1
  have fz := h.rd.fz
  have hsz := h.rm
  have HT := h.tail (h.rd.bump (at_ + 1)) hk
  rw [show ((at_ + 1 : Nat) : Int) = (at_ : Int) + 1 by omega] at HT
  obtain ⟨W, hW⟩ : ∃ W, W = (w.setCell ⟨b, 1, none⟩ (.int .i64 ((at_ : Int) + 1))).alloc (.cells #[.int .u8 kd, .int .i64 ln, .int .i64 cl, .int .i64 nm, .string X, .int .i64 dn] 50) := ⟨_, rfl⟩
  have HS0 : Hid (Sit W b tb to tc T (at_ + 1) d v (D ++ F.post) (n - 1) ts.tail) := Lib.hid (by rw [hW]; exact HT.carry (below_alloc _ _))
  have HF0 : Hid (Fr b w W) := Lib.hid (by rw [hW]; exact (Fr.only (Onl.set _ _ _ _) (by omega)).trans (Fr.only (Onl.below (below_alloc _ _)) (by simp; omega)))
  have HM0 : Hid (SAt W w.heap.size kd ln cl nm X dn) := Lib.hid (by rw [hW]; have := SAt.made (w.setCell ⟨b, 1, none⟩ (.int .i64 ((at_ : Int) + 1))) kd ln cl nm X dn; simpa using this)
  have HN := Lib.hid (HS0.out.next_at ht2 W (Below.refl _ _))
  rw [hX2] at HN
  unfold dotP
  cases e1 : kindP 1 d ts.tail with
  | bad c l k =>
    replace e1 := Lib.hid e1
    clear h HT hlt htn hk ht hX2 ht2
    go_enter Try.func92, Try.ntmps92
    go_wp2_with fail
    rw [← hW]
    clear hW
    refine HN.out.mono ?_
    rintro e w1 ⟨rfl, hb⟩
    have HC := Lib.hid (badOf (kind_any (HS0.out.carry hb) 1 (by decide)) e1.out)
    replace HF0 := Lib.hid (HF0.out.trans (Fr.only (Onl.below hb) (by have := HS0.out.rd.lt; omega)))
    replace hb := Lib.hid hb
    go_wp2_with fail
    refine HC.out.mono ?_
    rintro e w2 ⟨rfl, rf, fr⟩
    replace rf := Lib.hid rf
    replace fr := Lib.hid fr
    go_wp2_with fail
    go_ret
    exact ⟨rfl, rf.out, HF0.out.trans fr.out⟩
  | ok F1 r1 =>
    have hF1 : F1 = .nil := by
      unfold kindP passP at e1
      split at e1
      · cases e1; rfl
      · cases e1
    subst hF1
    replace e1 := Lib.hid e1
    replace ht := Lib.hid ht
    replace ht2 := Lib.hid ht2
    replace hX2 := Lib.hid hX2
    clear h HT hlt htn hk
    go_enter Try.func92, Try.ntmps92
    go_wp2_with fail
    rw [← hW]
    clear hW
    refine HN.out.mono ?_
    rintro e w1 ⟨rfl, hb⟩
    have HC := Lib.hid (okOf (kind_any (HS0.out.carry hb) 1 (by decide)) e1.out)
    replace HF0 := Lib.hid (HF0.out.trans (Fr.only (Onl.below hb) (by have := HS0.out.rd.lt; omega)))
    replace HM0 := Lib.hid (HM0.out.below hb)
    replace hb := Lib.hid hb
    go_wp2_with fail
    refine HC.out.mono ?_
    rintro e w2 ⟨rfl, ⟨at1, v1, dr, rd⟩, fr⟩
    obtain ⟨m0, m1, m2, m3, m4, m5⟩ := (HM0.out.fr fr (by omega)).at
    have HA := Lib.hid (add_any rd kd ln cl dn nm X 29 0 0 0 0 X2 F.cnt (by simp [post_len, Fo.post, hdn]) (by simp [Fo.post] at *; omega))
    replace dr := Lib.hid dr
    replace fr := Lib.hid fr
    clear rd
    go_wp2_with fail
    refine HA.out.mono ?_
    rintro e w3 ⟨rfl, ⟨v3, rd3⟩, fr3⟩
    replace rd3 := Lib.hid rd3
    replace fr3 := Lib.hid fr3
    go_wp2_with fail
    go_ret
    exact ⟨rfl, ⟨at1, v3, dr.out, rd_node rd3.out (by simp [Fo.post]) (by simp [mkY, Inf.nd, ht.out, ht2.out, hX2.out])⟩, (HF0.out.trans fr.out).trans fr3.out⟩

def PLoop (w : World) (b tb to tc : Nat) (T : List Tok) (d : Nat) (D : List Nd) (n : Nat) (E : Pt) (R : Out) (v : Value) (wr : World) : Prop :=
  (v = .bool true ∧ ∃ (at_ : Nat) (v : Value) (F : Fo) (ts : List Tok) (m : Nat), Sit wr b tb to tc T at_ d v (D ++ F.post) n ts ∧ postL E m F d ts = R ∧ ts.length ≤ m ∧ Fr b w wr) ∨
  (v = .bool false ∧ ∃ c l k, R = .bad c l k ∧ Rf wr b c l k ∧ Fr b w wr)

theorem grown_sit {w w' : World} {b tb to tc : Nat} {T : List Tok} {at_ d : Nat} {v : Value} {D : List Nd} {n m : Nat} {F G : Fo} {ts r : List Tok} (h : Sit w b tb to tc T at_ d v (D ++ F.post) n ts) (hl : Lft m ts r) (hc : G.cnt = F.cnt + m) {at' : Nat} {v' : Value} (hdr : T.drop at' = r) (hr : Rd w' b tb to tc T at' d v' (D ++ G.post)) : Sit w' b tb to tc T at' d v' (D ++ G.post) n r := by
  have h1 := hl.1
  have h2 := h.ln
  have h3 := h.rm
  rw [List.length_append, post_len] at h3
  exact ⟨hr, hdr, hl.2.1 h.en, by omega, by rw [List.length_append, post_len]; omega, h.dp⟩

set_option maxHeartbeats 2000000 in
theorem post_r {w : World} {b tb to tc : Nat} {T : List Tok} {at_ d : Nat} {v : Value} {D : List Nd} {n : Nat} {ts : List Tok} (h : Sit w b tb to tc T at_ d v D n ts) {E : Pt} (hE : Does 10 (n - 1) E) (hg : Gd 0 E) (N : Nat) (hN : n ≤ N) :
    Calls Try.prog 90 #[pR b] w (Post b tb to tc T d D w (postP E N d ts)) := by
  have hbl := h.rd.lt
  have HA := Lib.hid (atom_r h (N := N) hE hg (by omega))
  obtain ⟨a, cap, hv⟩ := own_slice h.rd.own
  obtain ⟨dn, hdn⟩ : ∃ dn, D.length = dn := ⟨_, rfl⟩
  have c3 := h.rd.c3
  rw [hv, hdn] at c3
  unfold postP
  obtain ⟨o, ho⟩ : ∃ o, atomP E N d ts = o := ⟨_, rfl⟩
  rw [ho] at HA ⊢
  have HL := Lib.hid (fun F r e => gd_atom hg N d ts F r (ho.trans e))
  have hs := Lib.hid h
  replace hg := Lib.hid hg
  replace hE := Lib.hid hE
  replace hdn := Lib.hid hdn
  clear h ho hv
  cases o with
  | bad c l k =>
    go_enter Try.func90, Try.ntmps90
    go_wp2_with fail
    refine HA.out.mono ?_
    rintro e w1 ⟨rfl, hw⟩
    replace hw := Lib.hid hw
    go_wp2_with fail
    refine wp_loop_rounds 1 ?_
    rw [rounds_succ]
    go_wp2_with fail
    go_ret
    exact ⟨rfl, hw.out⟩
  | ok F r =>
    obtain ⟨R, hR⟩ : ∃ R, postL E N F d r = R := ⟨_, rfl⟩
    rw [show (Out.bind (Out.ok F r) fun F r => postL E N F d r) = R from hR]
    have HS2 : Hid (∀ w1, (PostW b tb to tc T d D w (.ok F r) w1) → PLoop w b tb to tc T d D n E R (.bool true) w1) := Lib.hid (by
      rintro w1 ⟨⟨at', v', hdr, hrd⟩, hfr⟩
      have h2 := hs.out.then (s := 0) (HL.out F r rfl) hdr hrd
      exact .inl ⟨rfl, at', v', F, r, N, h2.up (by omega), hR, by have := h2.ln; omega, hfr⟩)
    clear hR
    go_enter Try.func90, Try.ntmps90
    go_wp2_with fail
    refine HA.out.mono ?_
    rintro e w1 ⟨rfl, hw⟩
    replace hw := Lib.hid (HS2.out w1 hw)
    go_wp2_with fail
    go_loopw [4] (fun v wr => PLoop w b tb to tc T d D n E R v wr) (fun v wr => okM v (left T b wr))
    case atStart => exact hw.out
    case round =>
      clear hw HA HS2 HL
      rcases hrel with ⟨rfl, at1, v1, F1, ts1, m, hs1, hRR, hm, hfr⟩ | ⟨rfl, c', l', k', hRR, hrf, hfr⟩
      · obtain ⟨t, l, hts⟩ := hs1.en.ne
        obtain ⟨m, rfl⟩ : ∃ m', m = m' + 1 := ⟨m - 1, by rw [hts] at hm; simp at hm; omega⟩
        obtain ⟨⟨kd, ln, cl, nm, tx⟩, ht⟩ : ∃ t, hd ts1 = t := ⟨_, rfl⟩
        have HN := Lib.hid (hs1.next_at ht wr (Below.refl _ _))
        obtain ⟨X, hX⟩ : ∃ X, bs tx = X := ⟨_, rfl⟩
        rw [hX] at HN
        clear hX hts
        cases q0 : sees [91] ts1 with
        | true =>
          obtain ⟨o, ho⟩ : ∃ o, withinP [91] [93] E d ts1 = o := ⟨_, rfl⟩
          have HRR : Hid ((o.bind fun G r => postL E m (.cons (mkK 28 ts1) (F1.app G) .nil) d r) = R) := Lib.hid (by rw [← hRR, ← ho]; conv => rhs; unfold postL; rw [if_pos q0])
          have HC := Lib.hid (fun (w' : World) (hb : Below wr.heap.size wr w') => within_r (hs1.carry hb) { data := #[91] } { data := #[93] } [91] [93] (by rw [ByteArray.toList_eq]) (by rw [ByteArray.toList_eq]) (fn_of hE.out (by intro args w; simp [go_sem])) hg.out)
          rw [ho] at HC
          have HL2 := Lib.hid (fun G r e => gd_within (o := [91]) (c := [93]) hg.out d ts1 G r (ho.trans e))
          have HQ := Lib.hid (fun (w' : World) (hb : Below wr.heap.size wr w') => sees_any (hs1.rd.carry hb) hs1.next { data := #[91] } [91] (by rw [ByteArray.toList_eq]) true q0)
          replace hs1 := Lib.hid hs1
          replace hfr := Lib.hid hfr
          replace ht := Lib.hid ht
          clear hRR ho q0
          go_wp2_with fail
          refine HN.out.mono ?_
          rintro e w2 ⟨rfl, hb2⟩
          have HM := Lib.hid (SAt.made w2 kd ln cl nm X dn)
          have hbw2 : b < w2.heap.size := (hs1.out.rd.carry hb2).lt
          replace hb2 := Lib.hid (below_step hb2 (below_alloc w2 (.cells #[.int .u8 kd, .int .i64 ln, .int .i64 cl, .int .i64 nm, .string X, .int .i64 dn] 50)))
          go_wp2_with fail
          refine (HQ.out _ hb2.out).mono ?_
          rintro e w3 ⟨rfl, hb3⟩
          replace HM := Lib.hid (HM.out.below hb3)
          replace hb3 := Lib.hid (below_step hb2.out hb3)
          go_wp2_with fail
          refine (HC.out _ hb3.out).mono ?_
          rintro e w4 ⟨rfl, hw4⟩
          have HF := Lib.hid (hfr.out.trans (Fr.only (Onl.below hb3.out) (by have := hs1.out.rd.lt; omega)))
          cases o with
          | bad c2 l2 k2 =>
            replace hw4 := Lib.hid hw4
            go_wp2_with fail
            go_roundw
            case rel => exact .inr ⟨rfl, c2, l2, k2, HRR.out.symm, hw4.out.1, HF.out.trans hw4.out.2⟩
            case measure => simp [okM, Out.good]
          | ok G r2 =>
            obtain ⟨⟨at', v', hdr, hrd⟩, hf4⟩ := hw4
            obtain ⟨m0, m1, m2, m3, m4, m5⟩ := (HM.out.fr hf4 (by omega)).at
            have hl2 := (HL2.out G r2 rfl).1
            have hrm := hs1.out.rm
            have HA := Lib.hid (add_any hrd kd ln cl dn nm X 28 0 0 0 0 { data := #[] } (F1.app G).cnt (by have := hdn.out; simp [post_len, cnt_app]; omega) (by simp [post_len] at *; omega))
            replace hf4 := Lib.hid (HF.out.trans hf4)
            replace hdr := Lib.hid hdr
            clear hrd
            go_wp2_with fail
            refine HA.out.mono ?_
            rintro e w5 ⟨rfl, ⟨v5, rd5⟩, fr5⟩
            have hr5 : Rd w5 b tb to tc T at' d v5 (D ++ (Fo.cons (mkK 28 ts1) (F1.app G) .nil).post) := rd_node rd5 (by simp [post_app]) (by simp [mkK, Inf.nd, ht.out]; rfl)
            have hs5 := Lib.hid (grown_sit (G := .cons (mkK 28 ts1) (F1.app G) .nil) (m := G.cnt + 1) hs1.out ((HL2.out G r2 rfl).mono (by omega)) (by simp [Fo.cnt, cnt_app]; omega) hdr.out hr5)
            replace fr5 := Lib.hid fr5
            clear rd5 hr5
            go_wp2_with fail
            go_roundw
            case rel => exact .inl ⟨rfl, at', v5, _, r2, m, hs5.out, HRR.out, by omega, hf4.out.trans fr5.out⟩
            case measure =>
              rw [left_at hs5.out, left_at hs1.out]
              simp [okM]
              omega
        | false =>
          have HQ := Lib.hid (fun (w' : World) (hb : Below wr.heap.size wr w') => sees_any (hs1.rd.carry hb) hs1.next { data := #[91] } [91] (by rw [ByteArray.toList_eq]) false q0)
          cases q1 : sees [46] ts1 with
          | true =>
            obtain ⟨o, ho⟩ : ∃ o, dotP F1 d ts1 = o := ⟨_, rfl⟩
            have hk1 : (hd ts1).kind ≠ 8 := by
              obtain ⟨t, l, rfl, hk, _⟩ := sees_cons q1
              simp [hd]; omega
            have HRR : Hid ((o.bind fun G r => postL E m G d r) = R) := Lib.hid (by
              rw [← hRR, ← ho]
              conv => rhs; unfold postL; rw [if_neg (show ¬ sees [91] ts1 = true by rw [q0]; simp), if_pos q1]
              unfold dotP
              cases kindP 1 d ts1.tail <;> rfl)
            have HQ2 := Lib.hid (fun (w' : World) (hb : Below wr.heap.size wr w') => sees_any (hs1.rd.carry hb) hs1.next { data := #[46] } [46] (by rw [ByteArray.toList_eq]) true q1)
            have HC := Lib.hid (fun (w' : World) (hb : Below wr.heap.size wr w') => dot_r (hs1.carry hb) hk1 ht X dn hdn.out)
            rw [ho] at HC
            have HL2 : Hid (∀ G r, o = .ok G r → ∃ k, Lft (k + 1) ts1 r ∧ G.cnt = F1.cnt + (k + 1)) := Lib.hid fun G r e => by
              rw [e] at ho
              obtain ⟨F2, r2, e1, e2⟩ := bind_ok ho
              cases e2
              exact ⟨0, ((lft_sees q1).trans (gd_kind 1 (by decide) (by decide) _ _ _ _ e1)).mono (by omega), by simp [Fo.cnt]⟩
            replace hs1 := Lib.hid hs1
            replace hfr := Lib.hid hfr
            replace ht := Lib.hid ht
            clear hRR ho q0 q1 hk1
            go_wp2_with fail
            refine HN.out.mono ?_
            rintro e w2 ⟨rfl, hb2⟩
            have HM := Lib.hid (SAt.made w2 kd ln cl nm X dn)
            have hbw2 : b < w2.heap.size := (hs1.out.rd.carry hb2).lt
            replace hb2 := Lib.hid (below_step hb2 (below_alloc w2 (.cells #[.int .u8 kd, .int .i64 ln, .int .i64 cl, .int .i64 nm, .string X, .int .i64 dn] 50)))
            go_wp2_with fail
            refine (HQ.out _ hb2.out).mono ?_
            rintro e w3 ⟨rfl, hb3⟩
            replace HM := Lib.hid (HM.out.below hb3)
            replace hb3 := Lib.hid (below_step hb2.out hb3)
            go_wp2_with fail
            refine (HQ2.out _ hb3.out).mono ?_
            rintro e w4 ⟨rfl, hb4⟩
            obtain ⟨m0, m1, m2, m3, m4, m5⟩ := (HM.out.below hb4).at
            replace hb4 := Lib.hid (below_step hb3.out hb4)
            go_wp2_with fail
            refine (HC.out _ hb4.out).mono ?_
            rintro e w5 ⟨rfl, hw5⟩
            have HF := Lib.hid (hfr.out.trans (Fr.only (Onl.below hb4.out) (by have := hs1.out.rd.lt; omega)))
            cases o with
            | bad c2 l2 k2 =>
              replace hw5 := Lib.hid hw5
              go_wp2_with fail
              go_roundw
              case rel => exact .inr ⟨rfl, c2, l2, k2, HRR.out.symm, hw5.out.1, HF.out.trans hw5.out.2⟩
              case measure => simp [okM, Out.good]
            | ok G r2 =>
              obtain ⟨⟨at', v', hdr, hrd⟩, hf5⟩ := hw5
              obtain ⟨k2, hl2, hc2⟩ := HL2.out G r2 rfl
              have hs5 := Lib.hid (grown_sit hs1.out hl2 hc2 hdr hrd)
              have hl3 := hl2.1
              replace hf5 := Lib.hid hf5
              clear hdr hrd hl2
              go_wp2_with fail
              go_roundw
              case rel => exact .inl ⟨rfl, at', v', G, r2, m, hs5.out, HRR.out, by omega, HF.out.trans hf5.out⟩
              case measure =>
                rw [left_at hs5.out, left_at hs1.out]
                simp [okM, Out.good]
                omega
          | false =>
            have HR : Hid (R = .ok F1 ts1) := Lib.hid (by rw [← hRR]; unfold postL; rw [if_neg (show ¬ sees [91] ts1 = true by rw [q0]; simp), if_neg (show ¬ sees [46] ts1 = true by rw [q1]; simp)])
            have HQ2 := Lib.hid (fun (w' : World) (hb : Below wr.heap.size wr w') => sees_any (hs1.rd.carry hb) hs1.next { data := #[46] } [46] (by rw [ByteArray.toList_eq]) false q1)
            replace hs1 := Lib.hid hs1
            replace hfr := Lib.hid hfr
            clear hRR q0 q1 ht
            go_wp2_with fail
            refine HN.out.mono ?_
            rintro e w2 ⟨rfl, hb2⟩
            replace hb2 := Lib.hid (below_step hb2 (below_alloc w2 (.cells #[.int .u8 kd, .int .i64 ln, .int .i64 cl, .int .i64 nm, .string X, .int .i64 dn] 50)))
            go_wp2_with fail
            refine (HQ.out _ hb2.out).mono ?_
            rintro e w3 ⟨rfl, hb3⟩
            replace hb3 := Lib.hid (below_step hb2.out hb3)
            go_wp2_with fail
            refine (HQ2.out _ hb3.out).mono ?_
            rintro e w4 ⟨rfl, hb4⟩
            replace hb4 := Lib.hid (below_step hb3.out hb4)
            go_wp2_with fail
            go_ret
            rw [HR.out]
            exact ⟨rfl, ⟨at1, v1, hs1.out.dr, hs1.out.rd.carry hb4.out⟩, hfr.out.trans (Fr.only (Onl.below hb4.out) (by have := hs1.out.rd.lt; omega))⟩
      · replace hRR := Lib.hid hRR
        replace hrf := Lib.hid hrf
        replace hfr := Lib.hid hfr
        go_wp2_with fail
        go_ret
        rw [hRR.out]
        exact ⟨rfl, hrf.out, hfr.out⟩

theorem eu_does (n : Nat) : Does 10 n (exprP n) ∧ Does 81 n (unP n) := by
  induction n with
  | zero => exact ⟨fun w b tb to tc T at_ d v D ts h => (sit_pos h).elim, fun w b tb to tc T at_ d v D ts h => (sit_pos h).elim⟩
  | succ n ih =>
    have hp : Does 90 (n + 1) (postP (exprP n) (n + 1)) := fun w b tb to tc T at_ d v D ts h => post_r h ih.1 (gd_expr n) (n + 1) (Nat.le_refl _)
    have hu : Does 81 (n + 1) (unP (n + 1)) := fun w b tb to tc T at_ d v D ts h => unary_r h ih.2 (gd_un n) hp
    have gu := gd_un (n + 1)
    have gt : Gd 0 (termP (unP (n + 1)) (n + 1)) := gd_chain gu _ _
    have gs : Gd 0 (sumP (unP (n + 1)) (n + 1)) := gd_chain gt _ _
    have gl : Gd 0 (lessP (unP (n + 1)) (n + 1)) := gd_pair gs _
    have ge : Gd 0 (equalP (unP (n + 1)) (n + 1)) := gd_pair gl _
    have ga : Gd 0 (andP (unP (n + 1)) (n + 1)) := gd_chain ge _ _
    exact ⟨or_does (and_does (equal_does (less_does (sum_does (term_does hu gu (n + 1) (Nat.le_refl _)) gt (n + 1) (Nat.le_refl _)) gs) gl) ge (n + 1) (Nat.le_refl _)) ga (n + 1) (Nat.le_refl _), hu⟩
theorem expr_does (n : Nat) : Does 10 n (exprP n) := (eu_does n).1

end Go.Proofs.Ytbknflaooemigaa
