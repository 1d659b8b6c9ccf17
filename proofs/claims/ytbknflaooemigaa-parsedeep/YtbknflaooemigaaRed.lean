/-
  Contract of parse.reader's worded: a statement that begins with a word of its own. Conditions: as said.
-/
import Derived.Test.YtbknflaooemigaaRec
namespace Go.Proofs.Ytbknflaooemigaa
open Go.RowKit Go.Sort
set_option linter.unusedVariables false
set_option linter.unusedSimpArgs false

/-- Functions in a row in memory. -/
def FRow (w : World) (g : Nat) (L : List (FuncId × Pt)) : Prop := w.heap[g]? = some (.cells (L.map fun q => Value.func (.func q.1) #[] #[]).toArray 37 (0, 0))
theorem FRow.cell {w : World} {g : Nat} {L : List (FuncId × Pt)} (h : FRow w g L) {i : Nat} {q : FuncId × Pt} (hi : L[i]? = some q) : w.cell? ⟨g, i, none⟩ = some (.func (.func q.1) #[] #[]) := by
  rw [cell_of_row w g i _ 37 (0, 0) h]
  simp [hi]
theorem FRow.fr {w w' : World} {b g : Nat} {L : List (FuncId × Pt)} (h : FRow w g L) (hb : Fr b w w') (hg : g ≠ b) : FRow w' g L := hb.cells _ _ _ _ h hg (by decide)

def WLoop (w : World) (b tb to tc : Nat) (T : List Tok) (d : Nat) (D : List Nd) (n g S : Nat) (kd ln cl : Nat) (nm : Int) (X : ByteArray) (dn : Nat) (L : List (FuncId × Pt)) (R : Out) (j : Value) (wr : World) : Prop :=
  ∃ (i at_ : Nat) (v : Value) (A : Fo) (ts : List Tok), j = .int .i64 i ∧ i ≤ L.length ∧ Sit wr b tb to tc T at_ d v (D ++ A.post) n ts ∧ ((seqAll ((L.drop i).map Prod.snd) d ts).bind fun G r' => .ok (A.app G) r') = R ∧ SAt wr S kd ln cl nm X dn ∧ FRow wr g L ∧ Fr b w wr

set_option maxHeartbeats 2000000 in
theorem worded_r {w : World} {b tb to tc : Nat} {T : List Tok} {at_ d : Nat} {v : Value} {D : List Nd} {n : Nat} {ts : List Tok} (h : Sit w b tb to tc T at_ d v D n ts) (hk : (hd ts).kind ≠ 8) (kk : Nat) (L : List (FuncId × Pt)) {g : Nat} (hR : FRow w g L) (hgb : g ≠ b) (c k : Nat) (hLk : L.length = k) (hkl : k ≤ 10)
    (hL : ∀ q ∈ L, (∀ args w, (callFunc q.1 args).run Try.prog w = .ok (.enter q.1 args) w) ∧ Does q.1 (n - 1) q.2 ∧ Gd 0 q.2) :
    Calls Try.prog 84 #[pR b, .int .u8 kk, .slice (some ⟨g, 0, none⟩) k c] w (Post b tb to tc T d D w (wordedP kk (L.map Prod.snd) d ts)) := by
  have hbl := h.rd.lt
  obtain ⟨⟨kd, ln, cl, nm, tx⟩, ht⟩ : ∃ t, hd ts = t := ⟨_, rfl⟩
  obtain ⟨a, cap, hv⟩ := own_slice h.rd.own
  obtain ⟨X, hX⟩ : ∃ X, bs tx = X := ⟨_, rfl⟩
  obtain ⟨dn, hdn⟩ : ∃ dn, D.length = dn := ⟨_, rfl⟩
  have HH : Hid (Calls Try.prog 43 #[pR b] w fun e w' => e = .returned (sV kd ln cl nm X dn) ∧ Below w.heap.size w w') := Lib.hid (by have := here_any h ht dn hdn a cap (by rw [hv, hdn]); rw [hX] at this; exact this)
  have hlt : at_ < T.length := (List.getElem?_eq_some_iff.1 h.next).1
  have htn := h.rd.tn
  have hn : at_ < 1000000 := by omega
  unfold wordedP nodeP afterP
  obtain ⟨R, hRR⟩ : ∃ R, seqAll (L.map Prod.snd) d ts.tail = R := ⟨_, rfl⟩
  rw [hRR]
  have hrm0 := h.rm
  have htl : ts.tail.length + 1 ≤ ts.length := by obtain ⟨t, l, rfl⟩ := h.en.ne; simp
  have hs := Lib.hid h
  replace hk := Lib.hid hk
  replace ht := Lib.hid ht
  replace hdn := Lib.hid hdn
  replace hR := Lib.hid hR
  replace hL := Lib.hid hL
  replace hLk := Lib.hid hLk
  replace hRR := Lib.hid hRR
  clear h hlt htn hX hv
  go_enter Try.func84, Try.ntmps84
  go_wp2_with fail
  refine HH.out.mono ?_
  rintro e w1 ⟨rfl, hb⟩
  have c1 := (hs.out.rd.carry hb).c1
  have fz := (hs.out.rd.carry hb).fz
  have hbl1 := (hs.out.rd.carry hb).lt
  have HT := (hs.out.carry hb).tail ((hs.out.carry hb).rd.bump (at_ + 1)) hk.out
  rw [show ((at_ + 1 : Nat) : Int) = (at_ : Int) + 1 by omega] at HT
  replace HT := Lib.hid HT
  replace hb := Lib.hid hb
  go_wp2_with fail
  obtain ⟨W, hW⟩ : ∃ W, W = (w1.setCell ⟨b, 1, none⟩ (.int .i64 ((at_ : Int) + 1))).alloc (.cells #[.int .u8 kd, .int .i64 ln, .int .i64 cl, .int .i64 nm, .string X, .int .i64 dn] 50) := ⟨_, rfl⟩
  rw [← hW]
  have HF0 : Hid (Fr b w W) := Lib.hid (by rw [hW]; exact ((Fr.only (Onl.below hb.out) (by omega)).trans (Fr.only (Onl.set _ _ _ _) (by omega))).trans (Fr.only (Onl.below (below_alloc _ _)) (by simp; omega)))
  have HI : Hid (WLoop w b tb to tc T d D (n - 1) g w1.heap.size kd ln cl nm X dn L R (.int .i64 0) W) := Lib.hid ⟨0, at_ + 1, v, .nil, ts.tail, rfl, Nat.zero_le _, by rw [hW]; simpa [Fo.post] using HT.out.carry (below_alloc _ _), by
      rw [List.drop_zero, hRR.out]; cases R <;> rfl, by rw [hW]; have := SAt.made (w1.setCell ⟨b, 1, none⟩ (.int .i64 ((at_ : Int) + 1))) kd ln cl nm X dn; simpa using this, hR.out.fr HF0.out hgb, HF0.out⟩
  clear hW HT c1 fz
  go_loopw [21] (fun j wr => WLoop w b tb to tc T d D (n - 1) g w1.heap.size kd ln cl nm X dn L R j wr) (fun j _ => k - (intOf j).toNat)
  case atStart => exact HI.out
  case round =>
    obtain ⟨i, at1, v1, A, ts1, rfl, hik, hs1, hRi, hSA, hFR, hfr⟩ := hrel
    rw [hLk.out] at hik
    by_cases hlt : i < k
    · obtain ⟨⟨f, p⟩, hq⟩ : ∃ q, L[i]? = some q := ⟨L[i]'(by rw [hLk.out]; exact hlt), by simp [hLk.out, hlt]⟩
      have hc := hFR.cell hq
      obtain ⟨eg, hdo, hgd⟩ := hL.out _ (List.mem_of_getElem? hq)
      simp only at hc eg hdo hgd
      have hdrop : L.drop i = (f, p) :: L.drop (i + 1) := by
        rw [List.drop_eq_getElem_cons (by rw [hLk.out]; exact hlt)]
        congr 1
        rw [List.getElem?_eq_getElem (by rw [hLk.out]; exact hlt)] at hq
        exact Option.some.inj hq
      rw [hdrop] at hRi
      obtain ⟨o, ho⟩ : ∃ o, p d ts1 = o := ⟨_, rfl⟩
      have HD := Lib.hid (hdo hs1)
      rw [ho] at HD
      have HL := Lib.hid (fun F r e => hgd d ts1 F r (ho.trans e))
      have HRi : Hid ((o.bind fun F r => (seqAll ((L.drop (i + 1)).map Prod.snd) d r).bind fun G r' => .ok (F.app G) r').bind (fun G r' => .ok (A.app G) r') = R) := Lib.hid (by rw [← hRi, ← ho]; rfl)
      replace hs1 := Lib.hid hs1
      replace hSA := Lib.hid hSA
      replace hFR := Lib.hid hFR
      replace hfr := Lib.hid hfr
      clear hq hdo hgd hdrop hRi ho
      go_wp2_with fail
      refine HD.out.mono ?_
      rintro e w2 ⟨rfl, hw⟩
      cases o with
      | bad c' l' k' =>
        replace hw := Lib.hid hw
        go_wp2_with fail
        go_ret
        rw [← HRi.out]
        exact ⟨rfl, hw.out.1, hfr.out.trans hw.out.2⟩
      | ok F r =>
        obtain ⟨⟨at', v', hdr, hrd⟩, hf2⟩ := hw
        have hs2 := Lib.hid (hs1.out.then (s := 0) (HL.out F r rfl) hdr hrd)
        replace hSA := Lib.hid (hSA.out.fr hf2 (by omega))
        replace hFR := Lib.hid (hFR.out.fr hf2 hgb)
        replace hf2 := Lib.hid hf2
        clear hdr hrd hc
        go_wp2_with fail
        go_roundw
        case rel =>
          refine ⟨i + 1, at', v', A.app F, r, by go_num, by rw [hLk.out]; exact hlt, by rw [post_app, ← List.append_assoc]; exact hs2.out, ?_, hSA.out, hFR.out, hfr.out.trans hf2.out⟩
          rw [← HRi.out]
          show _ = (((seqAll ((L.drop (i + 1)).map Prod.snd) d r).bind fun G r' => .ok (F.app G) r').bind fun G r' => .ok (A.app G) r')
          cases seqAll ((L.drop (i + 1)).map Prod.snd) d r with
          | ok G r' => simp [Out.bind, app_assoc]
          | bad c l k => rfl
        case measure => simp [intOf]; omega
    · obtain rfl : i = k := by omega
      have HR : Hid (R = .ok A ts1) := Lib.hid (by rw [← hRi, ← hLk.out, List.drop_length]; simp [seqAll, nothingP, Out.bind, app_nil])
      obtain ⟨m0, m1, m2, m3, m4, m5⟩ := hSA.at
      have hrm := hs1.rm
      have HA := Lib.hid (add_any hs1.rd kd ln cl dn nm X kk 0 0 0 0 { data := #[] } A.cnt (by simp [post_len, hdn.out]) (by omega))
      replace hs1 := Lib.hid hs1
      replace hfr := Lib.hid hfr
      clear hRi hSA hFR
      go_wp2_with fail
      refine HA.out.mono ?_
      rintro e w3 ⟨rfl, ⟨v3, rd3⟩, fr3⟩
      replace rd3 := Lib.hid rd3
      replace fr3 := Lib.hid fr3
      go_wp2_with fail
      go_ret
      rw [HR.out]
      exact ⟨rfl, ⟨at1, v3, hs1.out.dr, rd_node rd3.out rfl (by simp [mkK, Inf.nd, ht.out]; rfl)⟩, hfr.out.trans fr3.out⟩

end Go.Proofs.Ytbknflaooemigaa
