/-
  Contracts of parse.reader's chain and pair: operands with signs between them. Conditions: as said.
-/
import Derived.Test.YtbknflaooemigaaRdj
namespace Go.Proofs.Ytbknflaooemigaa
open Go.RowKit Go.Sort
set_option linter.unusedVariables false

def CLoop (w : World) (b tb to tc : Nat) (T : List Tok) (d : Nat) (D : List Nd) (n g : Nat) (S : List (List UInt8)) (p : Pt) (R : Out) (v : Value) (wr : World) : Prop :=
  (v = .bool true ∧ ∃ (at_ : Nat) (v : Value) (F : Fo) (ts : List Tok) (m : Nat), Sit wr b tb to tc T at_ d v (D ++ F.post) n ts ∧ chainL p S m F d ts = R ∧ ts.length ≤ m ∧ SRow wr g S ∧ Fr b w wr) ∨
  (v = .bool false ∧ ∃ c l k, R = .bad c l k ∧ Rf wr b c l k ∧ Fr b w wr)
def okM (v : Value) (k : Nat) : Nat := match v with
  | .bool true => k + 1
  | _ => 0

theorem joined_sit {w w' : World} {b tb to tc : Nat} {T : List Tok} {at_ d : Nat} {v : Value} {D : List Nd} {n : Nat} {F G : Fo} {S : List (List UInt8)} {ts r : List Tok} {p : Pt} (h : Sit w b tb to tc T at_ d v (D ++ F.post) n ts) (hg : Gd 0 p) (hs : anyS S ts = true) (e : joinedP p F d ts = .ok G r)
    {at' : Nat} {v' : Value} (hdr : T.drop at' = r) (hr : Rd w' b tb to tc T at' d v' (D ++ G.post)) : Sit w' b tb to tc T at' d v' (D ++ G.post) n r ∧ r.length + 1 ≤ ts.length := by
  obtain ⟨F1, r1, e1, e2⟩ := bind_ok e
  cases e2
  have hl := (lft_any hs).trans (hg _ _ _ _ e1)
  have h1 := hl.1
  have h2 := h.ln
  have h3 := h.rm
  rw [List.length_append, post_len] at h3
  refine ⟨⟨hr, hdr, hl.2.1 h.en, by omega, ?_, h.dp⟩, by omega⟩
  rw [List.length_append, post_len]
  simp [Fo.cnt, cnt_app]
  omega

set_option maxHeartbeats 1000000 in
theorem chain_r {w : World} {b tb to tc : Nat} {T : List Tok} {at_ d : Nat} {v : Value} {D : List Nd} {n : Nat} {ts : List Tok} (h : Sit w b tb to tc T at_ d v D n ts) {u : Value} {p : Pt} (hf : Fn u n p) (hg : Gd 0 p) {g : Nat} {S : List (List UInt8)} (hS : SRow w g S) (hgb : g ≠ b) (c k : Nat) (hk : S.length = k) (hkl : k ≤ 1000) (N : Nat) (hN : n ≤ N) :
    Calls Try.prog 15 #[pR b, u, .slice (some ⟨g, 0, none⟩) k c] w (Post b tb to tc T d D w (chainP p S N d ts)) := by
  have hbl := h.rd.lt
  have HJ := Lib.hid (fun (w1 : World) (at1 : Nat) (v1 : Value) (F : Fo) (ts1 : List Tok) (h1 : Sit w1 b tb to tc T at1 d v1 (D ++ F.post) n ts1) (hk1 : (hd ts1).kind ≠ 8) => joined_r h1 hk1 (hf.mono (m := n - 1) (by omega)) hg D.length rfl)
  obtain ⟨f, rfl, eg, hdo⟩ := hf
  obtain ⟨a, cap, hv⟩ := own_slice h.rd.own
  obtain ⟨dn, hdn⟩ : ∃ dn, D.length = dn := ⟨_, rfl⟩
  have c3 := h.rd.c3
  rw [hv, hdn] at c3
  rw [hdn] at HJ
  have HD := Lib.hid (hdo h)
  unfold chainP
  obtain ⟨o, ho⟩ : ∃ o, p d ts = o := ⟨_, rfl⟩
  rw [ho] at HD ⊢
  have HL := Lib.hid (fun F r e => hg d ts F r (ho.trans e))
  have hs := Lib.hid h
  replace hS := Lib.hid hS
  replace hk := Lib.hid hk
  replace hg := Lib.hid hg
  clear h hdo ho hdn hv
  cases o with
  | bad c l k =>
    go_enter Try.func15, Try.ntmps15
    go_wp2_with fail
    refine HD.out.mono ?_
    rintro e w1 ⟨rfl, hw⟩
    replace hw := Lib.hid hw
    go_wp2_with fail
    refine wp_loop_rounds 1 ?_
    rw [rounds_succ]
    go_wp2_with fail
    go_ret
    exact ⟨rfl, hw.out⟩
  | ok F r =>
    obtain ⟨R, hR⟩ : ∃ R, chainL p S N F d r = R := ⟨_, rfl⟩
    rw [show (Out.bind (Out.ok F r) fun F r => chainL p S N F d r) = R from hR]
    have HS2 : Hid (∀ w1, (PostW b tb to tc T d D w (.ok F r) w1) → CLoop w b tb to tc T d D n g S p R (.bool true) w1) := Lib.hid (by
      rintro w1 ⟨⟨at', v', hdr, hrd⟩, hfr⟩
      have h2 := hs.out.then (s := 0) (HL.out F r rfl) hdr hrd
      exact .inl ⟨rfl, at', v', F, r, N, h2.up (by omega), hR, by have := h2.ln; omega, hS.out.fr hfr hgb, hfr⟩)
    clear hR
    go_enter Try.func15, Try.ntmps15
    go_wp2_with fail
    refine HD.out.mono ?_
    rintro e w1 ⟨rfl, hw⟩
    replace hw := Lib.hid (HS2.out w1 hw)
    go_wp2_with fail
    go_loopw [8] (fun v wr => CLoop w b tb to tc T d D n g S p R v wr) (fun v wr => okM v (left T b wr))
    case atStart => exact hw.out
    case round =>
      clear hw HD HS2 HL
      rcases hrel with ⟨rfl, at1, v1, F1, ts1, m, hs1, hRR, hm, hS1, hfr⟩ | ⟨rfl, c', l', k', hRR, hrf, hfr⟩
      · obtain ⟨t, l, hts⟩ := hs1.en.ne
        obtain ⟨m, rfl⟩ : ∃ m', m = m' + 1 := ⟨m - 1, by rw [hts] at hm; simp at hm; omega⟩
        obtain ⟨q, hq⟩ : ∃ q, anyS S ts1 = q := ⟨_, rfl⟩
        have HC := Lib.hid (contains_r hs1 hS1 c k hk.out hkl q hq)
        cases q with
        | false =>
          have HR : Hid (R = .ok F1 ts1) := Lib.hid (by rw [← hRR]; unfold chainL; rw [if_neg (by rw [hq]; simp)])
          replace hs1 := Lib.hid hs1
          replace hfr := Lib.hid hfr
          clear hRR hts hq hm hS1
          go_wp2_with fail
          refine HC.out.mono ?_
          rintro e w2 ⟨rfl, hb⟩
          replace hb := Lib.hid hb
          go_wp2_with fail
          go_ret
          rw [HR.out]
          exact ⟨rfl, ⟨at1, v1, hs1.out.dr, hs1.out.rd.carry hb.out⟩, hfr.out.trans (Fr.only (Onl.below hb.out) (by have := hs1.out.rd.lt; omega))⟩
        | true =>
          have hk1 : (hd ts1).kind ≠ 8 := by
            obtain ⟨t, l, rfl, hk⟩ := anyS_cons hq
            simp [hd]; omega
          have HJ1 := Lib.hid (fun w2 hb => HJ.out w2 at1 v1 F1 ts1 (hs1.carry hb) hk1)
          obtain ⟨o, ho⟩ : ∃ o, joinedP p F1 d ts1 = o := ⟨_, rfl⟩
          have HRR : Hid ((o.bind fun G r => chainL p S m G d r) = R) := Lib.hid (by rw [← hRR, ← ho]; conv => rhs; unfold chainL; rw [if_pos hq])
          rw [ho] at HJ1
          replace hs1 := Lib.hid hs1
          replace hfr := Lib.hid hfr
          replace hS1 := Lib.hid hS1
          replace hq := Lib.hid hq
          replace ho := Lib.hid ho
          clear hRR hts
          go_wp2_with fail
          refine HC.out.mono ?_
          rintro e w2 ⟨rfl, hb⟩
          replace hb := Lib.hid hb
          go_wp2_with fail
          refine (HJ1.out _ hb.out).mono ?_
          rintro e w3 ⟨rfl, hw3⟩
          replace hw3 := Lib.hid hw3
          have HF := Lib.hid (hfr.out.trans (Fr.only (Onl.below hb.out) (by have := hs1.out.rd.lt; omega)))
          cases o with
          | bad c2 l2 k2 =>
            go_wp2_with fail
            go_roundw
            case rel => exact .inr ⟨rfl, c2, l2, k2, HRR.out.symm, hw3.out.1, HF.out.trans hw3.out.2⟩
            case measure => simp [okM, Out.good]
          | ok G r2 =>
            obtain ⟨⟨at', v', hdr, hrd⟩, hf2⟩ := hw3.out
            obtain ⟨hs3, hl3⟩ := joined_sit (hs1.out.carry hb.out) hg.out hq.out ho.out hdr hrd
            have HS3 : Hid (SRow w3 g S) := Lib.hid ((hS1.out.below hb.out).fr hf2 hgb)
            replace hs3 := Lib.hid hs3
            replace hf2 := Lib.hid hf2
            clear hdr hrd
            go_wp2_with fail
            go_roundw
            case rel => exact .inl ⟨rfl, at', v', G, r2, m, hs3.out, HRR.out, by omega, HS3.out, HF.out.trans hf2.out⟩
            case measure => 
              rw [left_at hs3.out, left_at hs1.out]
              simp [okM, Out.good]
              omega
      · replace hRR := Lib.hid hRR
        replace hrf := Lib.hid hrf
        replace hfr := Lib.hid hfr
        go_wp2_with fail
        go_ret
        rw [hRR.out]
        exact ⟨rfl, hrf.out, hfr.out⟩

set_option maxHeartbeats 1000000 in
theorem pair_r {w : World} {b tb to tc : Nat} {T : List Tok} {at_ d : Nat} {v : Value} {D : List Nd} {n : Nat} {ts : List Tok} (h : Sit w b tb to tc T at_ d v D n ts) {u : Value} {p : Pt} (hf : Fn u n p) (hg : Gd 0 p) {g : Nat} {S : List (List UInt8)} (hS : SRow w g S) (hgb : g ≠ b) (c k : Nat) (hk : S.length = k) (hkl : k ≤ 1000) :
    Calls Try.prog 41 #[pR b, u, .slice (some ⟨g, 0, none⟩) k c] w (Post b tb to tc T d D w (pairP p S d ts)) := by
  have hbl := h.rd.lt
  have HJ := Lib.hid (fun (w1 : World) (at1 : Nat) (v1 : Value) (F : Fo) (ts1 : List Tok) (h1 : Sit w1 b tb to tc T at1 d v1 (D ++ F.post) n ts1) (hk1 : (hd ts1).kind ≠ 8) => joined_r h1 hk1 (hf.mono (m := n - 1) (by omega)) hg D.length rfl)
  obtain ⟨f, rfl, eg, hdo⟩ := hf
  obtain ⟨a, cap, hv⟩ := own_slice h.rd.own
  obtain ⟨dn, hdn⟩ : ∃ dn, D.length = dn := ⟨_, rfl⟩
  have c3 := h.rd.c3
  rw [hv, hdn] at c3
  rw [hdn] at HJ
  have HD := Lib.hid (hdo h)
  unfold pairP
  obtain ⟨o, ho⟩ : ∃ o, p d ts = o := ⟨_, rfl⟩
  rw [ho] at HD ⊢
  have HL := Lib.hid (fun F r e => hg d ts F r (ho.trans e))
  have hs := Lib.hid h
  replace hS := Lib.hid hS
  replace hk := Lib.hid hk
  clear h hdo ho hdn hv
  cases o with
  | bad c l k =>
    go_enter Try.func41, Try.ntmps41
    go_wp2_with fail
    refine HD.out.mono ?_
    rintro e w1 ⟨rfl, hw⟩
    replace hw := Lib.hid hw
    go_wp2_with fail
    go_ret
    exact ⟨rfl, hw.out⟩
  | ok F r =>
    obtain ⟨q, hq⟩ : ∃ q, anyS S r = q := ⟨_, rfl⟩
    cases q with
    | false =>
      rw [show (Out.bind (Out.ok F r) fun F r => if anyS S r = true then joinedP p F d r else .ok F r) = .ok F r by simp [Out.bind, hq]]
      replace hq := Lib.hid hq
      go_enter Try.func41, Try.ntmps41
      go_wp2_with fail
      refine HD.out.mono ?_
      rintro e w1 ⟨rfl, ⟨at', v', hdr, hrd⟩, hfr⟩
      have hs2 := hs.out.then (s := 0) (HL.out F r rfl) hdr hrd
      have HC := Lib.hid (contains_r hs2 (hS.out.fr hfr hgb) c k hk.out hkl false hq.out)
      replace hs2 := Lib.hid hs2
      replace hfr := Lib.hid hfr
      clear hdr hrd
      go_wp2_with fail
      refine HC.out.mono ?_
      rintro e w2 ⟨rfl, hb⟩
      replace hb := Lib.hid hb
      go_wp2_with fail
      go_ret
      exact ⟨rfl, ⟨at', v', hs2.out.dr, hs2.out.rd.carry hb.out⟩, hfr.out.trans (Fr.only (Onl.below hb.out) (by have := hs2.out.rd.lt; omega))⟩
    | true =>
      rw [show (Out.bind (Out.ok F r) fun F r => if anyS S r = true then joinedP p F d r else .ok F r) = joinedP p F d r by simp [Out.bind, hq]]
      have hk1 : (hd r).kind ≠ 8 := by
        obtain ⟨t, l, rfl, hk⟩ := anyS_cons hq
        simp [hd]; omega
      replace hq := Lib.hid hq
      replace hk1 := Lib.hid hk1
      go_enter Try.func41, Try.ntmps41
      go_wp2_with fail
      refine HD.out.mono ?_
      rintro e w1 ⟨rfl, ⟨at', v', hdr, hrd⟩, hfr⟩
      have hs2 := hs.out.then (s := 0) (HL.out F r rfl) hdr hrd
      have HC := Lib.hid (contains_r hs2 (hS.out.fr hfr hgb) c k hk.out hkl true hq.out)
      have HJ1 := Lib.hid (fun w2 hb => HJ.out w2 at' v' F r (hs2.carry hb) hk1.out)
      replace hs2 := Lib.hid hs2
      replace hfr := Lib.hid hfr
      clear hdr hrd
      go_wp2_with fail
      refine HC.out.mono ?_
      rintro e w2 ⟨rfl, hb⟩
      replace hb := Lib.hid hb
      go_wp2_with fail
      refine (HJ1.out _ hb.out).mono ?_
      rintro e w3 ⟨rfl, hw3⟩
      replace hw3 := Lib.hid hw3
      go_wp2_with fail
      go_ret
      exact ⟨rfl, hw3.out.back (hfr.out.trans (Fr.only (Onl.below hb.out) (by have := hs2.out.rd.lt; omega)))⟩

end Go.Proofs.Ytbknflaooemigaa
