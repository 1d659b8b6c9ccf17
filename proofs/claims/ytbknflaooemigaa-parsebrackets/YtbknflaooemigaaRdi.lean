/-
  Contracts of parse.reader's listed, and of slices.IndexFunc and slices.ContainsFunc at signs. Conditions: as said.
-/
import Derived.Test.YtbknflaooemigaaRop
namespace Go.Proofs.Ytbknflaooemigaa
open Go.RowKit Go.Sort
set_option linter.unusedVariables false

theorem listed_r {w : World} {b tb to tc : Nat} {T : List Tok} {at_ d : Nat} {v : Value} {D : List Nd} {n : Nat} {ts : List Tok} (h : Sit w b tb to tc T at_ d v D n ts) {u : Value} {p : Pt} (hf : Fn u n p) (hg : Gd 0 p) (N : Nat) (hN : n ≤ N) :
    Calls Try.prog 63 #[pR b, u] w (Post b tb to tc T d D w (listedP p N d ts)) := by
  obtain ⟨f, rfl, eg, hdo⟩ := hf
  have hbl := h.rd.lt
  obtain ⟨q, hq⟩ : ∃ q, sees [41] ts = q := ⟨_, rfl⟩
  have H0 := Lib.hid (sees_any h.rd h.next { data := #[41] } [41] (by rw [ByteArray.toList_eq]) q hq)
  cases q with
  | true =>
    unfold listedP iteP
    rw [if_pos hq]
    replace h := Lib.hid h
    clear hdo eg hq
    go_enter Try.func63, Try.ntmps63
    go_wp2_with fail
    refine H0.out.mono ?_
    rintro e w1 ⟨rfl, hb⟩
    replace hb := Lib.hid hb
    go_wp2_with fail
    go_ret
    exact ⟨rfl, ⟨at_, v, h.out.dr, by simpa [Fo.post] using h.out.rd.carry hb.out⟩, Fr.only (Onl.below hb.out) (by omega)⟩
  | false =>
    unfold listedP iteP
    rw [if_neg (by rw [hq]; simp)]
    obtain ⟨R, hR⟩ : ∃ R, listL p N d ts = R := ⟨_, rfl⟩
    rw [hR]
    have HS : Hid (∀ w1, Below w.heap.size w w1 → ULoop w b tb to tc T d D n (listL p) R w1) := Lib.hid fun w1 hb => ⟨at_, v, .nil, ts, N, by simpa [Fo.post] using h.carry hb, by rw [← hR]; cases listL p N d ts <;> rfl, by have := h.ln; omega, Fr.only (Onl.below hb) (by omega)⟩
    replace hdo := Lib.hid hdo
    replace hg := Lib.hid hg
    clear h hR hq
    go_enter Try.func63, Try.ntmps63
    go_wp2_with fail
    refine H0.out.mono ?_
    rintro e w0 ⟨rfl, hb0⟩
    replace hb0 := Lib.hid hb0
    go_wp2_with fail
    go_loopw [4] (fun v wr => v = .bool false ∧ ULoop w b tb to tc T d D n (listL p) R wr) (fun _ wr => left T b wr)
    case atStart => exact ⟨rfl, HS.out _ hb0.out⟩
    case round =>
      obtain ⟨rfl, at1, v1, A, ts1, m, hs, hRR, hm, hfr⟩ := hrel
      obtain ⟨t, l, hts⟩ := hs.en.ne
      obtain ⟨m, rfl⟩ : ∃ m', m = m' + 1 := ⟨m - 1, by rw [hts] at hm; simp at hm; omega⟩
      have HD := Lib.hid (hdo.out hs)
      obtain ⟨o, ho⟩ : ∃ o, p d ts1 = o := ⟨_, rfl⟩
      have HRR : Hid ((o.bind fun F r => if sees [44] r = true then (listL p m d r.tail).bind fun G r' => .ok (F.app G) r' else .ok F r).bind (fun G r' => .ok (A.app G) r') = R) := Lib.hid (by rw [← hRR, ← ho]; rfl)
      rw [ho] at HD
      have HL := Lib.hid (fun F r e => hg.out d ts1 F r (ho.trans e))
      replace hs := Lib.hid hs
      replace hfr := Lib.hid hfr
      clear hRR hts ho
      go_wp2_with fail
      refine HD.out.mono ?_
      rintro e w2 ⟨rfl, hw⟩
      cases o with
      | bad c l k =>
        replace hw := Lib.hid hw
        go_wp2_with fail
        go_ret
        rw [← HRR.out]
        exact ⟨rfl, hw.out.1, hfr.out.trans hw.out.2⟩
      | ok F r =>
        obtain ⟨⟨at', v', hdr, hrd⟩, hf2⟩ := hw
        have hS2 := hs.out.then (s := 0) (HL.out F r rfl) hdr hrd
        obtain ⟨q, hq⟩ : ∃ q, sees [44] r = q := ⟨_, rfl⟩
        have H2 := Lib.hid (sees_any hS2.rd hS2.next { data := #[44] } [44] (by rw [ByteArray.toList_eq]) q hq)
        replace hf2 := Lib.hid (hfr.out.trans hf2)
        cases q with
        | false =>
          have HR : Hid (R = .ok (A.app F) r) := Lib.hid (by rw [← HRR.out]; simp [Out.bind, hq])
          replace hS2 := Lib.hid hS2
          clear hdr hrd hq
          go_wp2_with fail
          refine H2.out.mono ?_
          rintro e w3 ⟨rfl, hb⟩
          replace hb := Lib.hid hb
          go_wp2_with fail
          go_ret
          rw [HR.out]
          exact ⟨rfl, ⟨at', v', hS2.out.dr, by rw [post_app, ← List.append_assoc]; exact hS2.out.rd.carry hb.out⟩, hf2.out.trans (Fr.only (Onl.below hb.out) (by have := hS2.out.rd.lt; omega))⟩
        | true =>
          have hk : (hd r).kind ≠ 8 := by
            obtain ⟨t, l, rfl, hk, _⟩ := sees_cons hq
            simp [hd]; omega
          have HT := Lib.hid (lft_sees hq)
          have hlt : at' < T.length := (List.getElem?_eq_some_iff.1 hS2.next).1
          have htn := hS2.rd.tn
          have hn : at' < 1000000 := by omega
          have HRR2 : Hid ((((listL p m d r.tail).bind fun G r' => .ok (F.app G) r').bind fun G r' => .ok (A.app G) r') = R) := Lib.hid (by rw [← HRR.out]; simp [Out.bind, hq])
          have hS2' := Lib.hid hS2
          clear hdr hrd hq hlt htn hS2
          go_wp2_with fail
          refine H2.out.mono ?_
          rintro e w3 ⟨rfl, hb⟩
          have c1 := (hS2'.out.rd.carry hb).c1
          have fz := (hS2'.out.rd.carry hb).fz
          replace hb := Lib.hid hb
          go_wp2_with fail
          have hS3 := (hS2'.out.carry hb.out).tail ((hS2'.out.carry hb.out).rd.bump (at' + 1)) hk
          rw [show ((at' + 1 : Nat) : Int) = (at' : Int) + 1 by omega] at hS3
          go_roundw
          case rel =>
            refine ⟨rfl, at' + 1, v', A.app F, r.tail, m, by rw [post_app, ← List.append_assoc]; exact hS3.up (by omega), ?_, ?_, (hf2.out.trans (Fr.only (Onl.below hb.out) (by have := hS2'.out.rd.lt; omega))).trans (Fr.only (Onl.set _ _ _ _) (by have := (hS2'.out.carry hb.out).rd.lt; omega))⟩
            · rw [← HRR2.out]
              cases listL p m d r.tail with
              | ok G r' => simp [Out.bind, app_assoc]
              | bad c l k => rfl
            · have := (HL.out F r rfl).1
              have := HT.out.1
              omega
          case measure =>
            rw [left_at hs.out, left_at hS3]
            have := (HL.out F r rfl).1
            have := HT.out.1
            omega

/-- Signs in a row in memory. -/
def SRow (w : World) (g : Nat) (S : List (List UInt8)) : Prop := w.heap[g]? = some (.cells (S.map fun x => Value.string (bs x)).toArray 9 (0, 0))
theorem SRow.cell {w : World} {g : Nat} {S : List (List UInt8)} (h : SRow w g S) {i : Nat} {x : List UInt8} (hi : S[i]? = some x) : w.cell? ⟨g, i, none⟩ = some (.string (bs x)) := by
  rw [cell_of_row w g i _ 9 (0, 0) h]
  simp [hi]
theorem SRow.below {w w' : World} {g : Nat} {S : List (List UInt8)} (h : SRow w g S) (hb : Below w.heap.size w w') : SRow w' g S := (hb.block g (lt_of_heap h)).trans h
theorem SRow.fr {w w' : World} {b g : Nat} {S : List (List UInt8)} (h : SRow w g S) (hb : Fr b w w') (hg : g ≠ b) : SRow w' g S := hb.cells _ _ _ _ h hg (by decide)

set_option maxHeartbeats 1000000 in
theorem index_r {w : World} {b tb to tc : Nat} {T : List Tok} {at_ d : Nat} {v : Value} {D : List Nd} {n : Nat} {ts : List Tok} (h : Sit w b tb to tc T at_ d v D n ts) {g : Nat} {S : List (List UInt8)} (hS : SRow w g S) (c k : Nat) (hk : S.length = k) (hl : k ≤ 1000) (q : Bool) (hq : anyS S ts = q) :
    Calls Try.prog 39 #[.slice (some ⟨g, 0, none⟩) k c, .func (.func 25) #[pR b] #[]] w fun e w' => (∃ z : Int, e = .returned (.int .i64 z) ∧ decide (0 ≤ z) = q) ∧ Below w.heap.size w w' := by
  replace h := Lib.hid h
  replace hS := Lib.hid hS
  replace hq := Lib.hid hq
  replace hk := Lib.hid hk
  go_enter Try.func39, Try.ntmps39
  go_wp2_with fail
  go_loopw [8] (fun j wr => ∃ i : Nat, i ≤ k ∧ j = .int .i64 i ∧ Below w.heap.size w wr ∧ ∀ i' x, i' < i → S[i']? = some x → sees x ts = false) (fun j _ => k - (intOf j).toNat)
  case atStart => exact ⟨0, Nat.zero_le _, rfl, Below.refl _ _, fun i' x h => absurd h (by omega)⟩
  case round =>
    obtain ⟨i, hi, rfl, hb, hno⟩ := hrel
    replace hno := Lib.hid hno
    by_cases hlt : i < k
    · obtain ⟨x, hx⟩ : ∃ x, S[i]? = some x := ⟨S[i]'(by rw [hk.out]; exact hlt), by simp [hk.out, hlt]⟩
      have hc := (hS.out.below hb).cell hx
      obtain ⟨X, hX⟩ : ∃ X, bs x = X := ⟨_, rfl⟩
      rw [hX] at hc
      obtain ⟨q2, hq2⟩ : ∃ q2, sees x ts = q2 := ⟨_, rfl⟩
      have HC := Lib.hid (sees_any (h.out.carry hb).rd (h.out.carry hb).next X x (by rw [← hX, bs_toList]) q2 hq2)
      replace hb := Lib.hid hb
      cases q2 with
      | true =>
        obtain rfl : q = true := by
          rw [← hq.out]
          exact List.any_eq_true.2 ⟨x, List.mem_of_getElem? hx, hq2⟩
        clear hx hX hq2
        go_wp2_with fail
        refine HC.out.mono ?_
        rintro e w1 ⟨rfl, hb1⟩
        replace hb1 := Lib.hid hb1
        go_wp2_with fail
        go_ret
        exact ⟨⟨_, rfl, by simp⟩, below_step hb.out hb1.out⟩
      | false =>
        have HN := Lib.hid (show ∀ i' x, i' < i + 1 → S[i']? = some x → sees x ts = false from fun i' y h hy => by
          by_cases e : i' = i
          · subst e; rw [hx] at hy; cases hy; exact hq2
          · exact hno.out i' y (by omega) hy)
        clear hx hX hq2
        go_wp2_with fail
        refine HC.out.mono ?_
        rintro e w1 ⟨rfl, hb1⟩
        replace hb1 := Lib.hid hb1
        go_wp2_with fail
        go_roundw
        case rel => exact ⟨i + 1, hlt, by go_num, below_step hb.out hb1.out, HN.out⟩
        case measure => simp [intOf]; omega
    · obtain rfl : q = false := by
        rw [← hq.out, Bool.eq_false_iff]
        intro hy
        obtain ⟨x, hx, hs⟩ := List.any_eq_true.1 hy
        obtain ⟨j, hj, rfl⟩ := List.getElem_of_mem hx
        rw [hno.out j _ (by rw [hk.out] at hj; omega) (List.getElem?_eq_getElem hj)] at hs
        cases hs
      replace hb := Lib.hid hb
      go_wp2_with fail
      go_ret
      exact ⟨⟨_, rfl, by decide⟩, hb.out⟩

theorem contains_r {w : World} {b tb to tc : Nat} {T : List Tok} {at_ d : Nat} {v : Value} {D : List Nd} {n : Nat} {ts : List Tok} (h : Sit w b tb to tc T at_ d v D n ts) {g : Nat} {S : List (List UInt8)} (hS : SRow w g S) (c k : Nat) (hk : S.length = k) (hl : k ≤ 1000) (q : Bool) (hq : anyS S ts = q) :
    Calls Try.prog 24 #[.slice (some ⟨g, 0, none⟩) k c, .func (.func 25) #[pR b] #[]] w fun e w' => e = .returned (.bool q) ∧ Below w.heap.size w w' := by
  have H := Lib.hid (index_r h hS c k hk hl q hq)
  clear h hS hq
  go_enter Try.func24, Try.ntmps24
  go_wp2_with fail
  refine H.out.mono ?_
  rintro e w' ⟨⟨z, rfl, hz⟩, hb⟩
  replace hb := Lib.hid hb
  go_wp2_with fail
  go_ret
  exact ⟨rfl, hb.out⟩

end Go.Proofs.Ytbknflaooemigaa
