/-
  Contracts of parse.reader's end and program. Conditions: as said.
-/
import Derived.Test.YtbknflaooemigaaReg
namespace Go.Proofs.Ytbknflaooemigaa
open Go.RowKit Go.Sort
set_option linter.unusedVariables false
set_option linter.unusedSimpArgs false

theorem end_yes {w : World} {b tb to tc : Nat} {T : List Tok} {at_ d : Nat} {v : Value} {D : List Nd} {n : Nat} {ts : List Tok} (h : Sit w b tb to tc T at_ d v D n ts) (hk : (hd ts).kind = 8) : Calls Try.prog 13 #[pR b] w fun e w' => e = .returned (.bool true) ∧ Below w.heap.size w w' := by
  obtain ⟨⟨kd, ln, cl, nm, tx⟩, ht⟩ : ∃ t, hd ts = t := ⟨_, rfl⟩
  have H := Lib.hid (h.next_at ht w (Below.refl _ _))
  have hF := tokF0 kd ln cl nm (bs tx)
  have k8 : ((kd : Int) == 8) = true := by rw [ht] at hk; simp at hk; rw [hk]; rfl
  clear h hk ht
  go_enter Try.func13, Try.ntmps13
  go_wp2_with fail
  refine H.out.mono ?_
  rintro e w1 ⟨rfl, hb⟩
  replace hb := Lib.hid hb
  go_wp2_with fail
  go_ret
  exact ⟨rfl, hb.out⟩

theorem end_no {w : World} {b tb to tc : Nat} {T : List Tok} {at_ d : Nat} {v : Value} {D : List Nd} {n : Nat} {ts : List Tok} (h : Sit w b tb to tc T at_ d v D n ts) (hk : ¬ (hd ts).kind = 8) : Calls Try.prog 13 #[pR b] w (BadP b w 5 (hd ts).line (hd ts).col) := by
  obtain ⟨⟨kd, ln, cl, nm, tx⟩, ht⟩ : ∃ t, hd ts = t := ⟨_, rfl⟩
  have H := Lib.hid (h.next_at ht w (Below.refl _ _))
  have HN := Lib.hid (fun (w' : World) (hb : Below w.heap.size w w') => fail_any (h.rd.carry hb) h.next 5)
  have hF := tokF0 kd ln cl nm (bs tx)
  have k8 : ((kd : Int) == 8) = false := by rw [ht] at hk; simp at hk; rw [beq_eq_false_iff_ne]; omega
  clear h hk ht
  go_enter Try.func13, Try.ntmps13
  go_wp2_with fail
  refine H.out.mono ?_
  rintro e w1 ⟨rfl, hb⟩
  replace hb := Lib.hid hb
  go_wp2_with fail
  refine (HN.out _ hb.out).mono ?_
  rintro e w2 ⟨rfl, h1, h2⟩
  replace h1 := Lib.hid h1
  replace h2 := Lib.hid h2
  go_wp2_with fail
  go_ret
  exact ⟨rfl, h1.out, (Onl.below hb.out).trans h2.out⟩

set_option maxHeartbeats 1000000 in
theorem program_r {w : World} {b tb to tc : Nat} {T : List Tok} {at_ d : Nat} {v : Value} {n : Nat} {ts : List Tok} (h : Sit w b tb to tc T at_ d v [] n ts) (N : Nat) (hN : n ≤ N) :
    Calls Try.prog 11 #[pR b] w (Post b tb to tc T d [] w (progP N d ts)) := by
  have hbl := h.rd.lt
  unfold progP
  obtain ⟨R, hR⟩ : ∃ R, progL (declP N) N d ts = R := ⟨_, rfl⟩
  rw [hR]
  have HS : Hid (ULoop w b tb to tc T d [] n (progL (declP N)) R w) := Lib.hid ⟨at_, v, .nil, ts, N, by simpa [Fo.post] using h, by rw [← hR]; cases progL (declP N) N d ts <;> rfl, by have := h.ln; omega, Fr.refl _ _⟩
  have hdo : Hid (Does 18 n (declP N)) := Lib.hid fun w b tb to tc T at_ d v D ts h => declaration_r h hN
  have hg := Lib.hid (gd_decl N)
  clear h hR
  go_enter Try.func11, Try.ntmps11
  go_wp2_with fail
  go_loopw [2] (fun v wr => v = .bool false ∧ ULoop w b tb to tc T d [] n (progL (declP N)) R wr) (fun _ wr => left T b wr)
  case atStart => exact ⟨rfl, HS.out⟩
  case round =>
    obtain ⟨rfl, at1, v1, A, ts1, m, hs, hRR, hm, hfr⟩ := hrel
    obtain ⟨t, l, hts⟩ := hs.en.ne
    obtain ⟨m, rfl⟩ : ∃ m', m = m' + 1 := ⟨m - 1, by rw [hts] at hm; simp at hm; omega⟩
    obtain ⟨⟨kd, ln, cl, nm, tx⟩, ht⟩ : ∃ t, hd ts1 = t := ⟨_, rfl⟩
    have H := Lib.hid (hs.next_at ht wr (Below.refl _ _))
    have hF := tokF0 kd ln cl nm (bs tx)
    by_cases hk : (hd ts1).kind = 8
    · have HR : Hid (R = .ok A ts1) := Lib.hid (by rw [← hRR]; unfold progL; rw [if_pos hk]; simp [Out.bind, app_nil])
      have k8 : ((kd : Int) != 8) = false := by rw [ht] at hk; simp at hk; rw [hk]; rfl
      replace hs := Lib.hid hs
      replace hfr := Lib.hid hfr
      clear hRR hts hk hm ht
      go_wp2_with fail
      refine H.out.mono ?_
      rintro e w1 ⟨rfl, hb⟩
      have HA := Lib.hid (add_any (hs.out.rd.carry hb) 0 1 1 0 0 { data := #[] } 1 0 0 0 0 { data := #[] } A.cnt (by simp [post_len]) (by have := hs.out.rm; omega))
      replace hb := Lib.hid hb
      go_wp2_with fail
      refine HA.out.mono ?_
      rintro e w2 ⟨rfl, ⟨v2, rd2⟩, fr2⟩
      replace rd2 := Lib.hid rd2
      replace fr2 := Lib.hid fr2
      go_wp2_with fail
      go_ret
      rw [HR.out]
      exact ⟨rfl, ⟨at1, v2, hs.out.dr, rd_node rd2.out rfl (by simp [Inf.nd]; rfl)⟩, (hfr.out.trans (Fr.only (Onl.below hb.out) (by have := hs.out.rd.lt; omega))).trans fr2.out⟩
    · have k8 : ((kd : Int) != 8) = true := bne_of (by rw [ht] at hk; simp at hk; omega)
      have HD := Lib.hid (fun (w' : World) (hb : Below wr.heap.size wr w') => hdo.out (hs.carry hb))
      obtain ⟨o, ho⟩ : ∃ o, declP N d ts1 = o := ⟨_, rfl⟩
      have HRR : Hid ((o.bind fun F r => (progL (declP N) m d r).bind fun G r' => .ok (F.app G) r').bind (fun G r' => .ok (A.app G) r') = R) := Lib.hid (by rw [← hRR, ← ho]; conv => rhs; unfold progL; rw [if_neg hk])
      rw [ho] at HD
      have HL := Lib.hid (fun F r e => hg.out d ts1 F r (ho.trans e))
      have H1 := Lib.hid (fun F r e => one_decl N (d := d) (ts := ts1) (F := F) (r := r) (ho.trans e))
      replace hs := Lib.hid hs
      replace hfr := Lib.hid hfr
      clear hRR hts hk ho ht
      go_wp2_with fail
      refine H.out.mono ?_
      rintro e w1 ⟨rfl, hb⟩
      replace hb := Lib.hid hb
      go_wp2_with fail
      refine (HD.out _ hb.out).mono ?_
      rintro e w2 ⟨rfl, hw⟩
      cases o with
      | bad c l k =>
        replace hw := Lib.hid hw
        go_wp2_with fail
        go_ret
        rw [← HRR.out]
        exact ⟨rfl, hw.out.1, (hfr.out.trans (Fr.only (Onl.below hb.out) (by have := hs.out.rd.lt; omega))).trans hw.out.2⟩
      | ok F r =>
        obtain ⟨⟨at', v', hdr, hrd⟩, hf2⟩ := hw
        have hS2 := Lib.hid (hs.out.then (s := 0) (HL.out F r rfl) hdr hrd)
        replace hf2 := Lib.hid hf2
        clear hdr hrd
        go_wp2_with fail
        go_roundw
        case rel =>
          refine ⟨rfl, at', v', A.app F, r, m, by rw [post_app, ← List.append_assoc]; exact hS2.out, ?_, ?_, (hfr.out.trans (Fr.only (Onl.below hb.out) (by have := hs.out.rd.lt; omega))).trans hf2.out⟩
          · rw [← HRR.out]
            show _ = (((progL (declP N) m d r).bind fun G r' => .ok (F.app G) r').bind fun G r' => .ok (A.app G) r')
            cases progL (declP N) m d r with
            | ok G r' => simp [Out.bind, app_assoc]
            | bad c l k => rfl
          · have := (HL.out F r rfl).1
            have := H1.out F r rfl
            omega
        case measure =>
          rw [left_at hs.out, left_at hS2.out]
          have := (HL.out F r rfl).1
          have := H1.out F r rfl
          omega

end Go.Proofs.Ytbknflaooemigaa
