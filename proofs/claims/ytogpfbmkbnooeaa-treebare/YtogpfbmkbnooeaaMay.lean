/-
  Contract of tree.May. Conditions: rows of at most 1000000 nodes.
-/
import Derived.Test.YtogpfbmkbnooeaaTx
import Derived.Test.YtogpfbmkbnooeaaKof
namespace Go.Proofs.Ytogpfbmkbnooeaa
open Go.RowKit
set_option linter.unusedVariables false

/-- A node's fields and its children are as they may be. -/
def fieldOk (l : List Nd) (j : Nat) : Bool := textB (kindAt l j) (nd l j).text.data.toList && numB (kindAt l j) (nd l j).num
def kidsOk (l : List Nd) (j : Nat) : Bool := askB (kindAt l j) (nd l j).num ((kidsOf (sz l) j).map (kindAt l))
noncomputable def mayB (l : List Nd) : Bool := rightB (sz l) l.length && decide (kindAt l 0 = 1) && (List.range l.length).all fun j => fieldOk l j && kidsOk l j

theorem boxAt {w w' : World} {v0 v1 v2 v3 v4 v5 : Value} (hb : Below (w.alloc (.cells #[v0, v1, v2, v3, v4, v5] 31)).heap.size (w.alloc (.cells #[v0, v1, v2, v3, v4, v5] 31)) w') :
    w'.cell? ⟨w.heap.size, 0, none⟩ = some v0 ∧ w'.cell? ⟨w.heap.size, 1, none⟩ = some v1 ∧ w'.cell? ⟨w.heap.size, 2, none⟩ = some v2 ∧ w'.cell? ⟨w.heap.size, 3, none⟩ = some v3 ∧ w'.cell? ⟨w.heap.size, 4, none⟩ = some v4 ∧ w'.cell? ⟨w.heap.size, 5, none⟩ = some v5 :=
  ⟨cell_carry hb (by simp [go_sem]), cell_carry hb (by simp [go_sem]), cell_carry hb (by simp [go_sem]), cell_carry hb (by simp [go_sem]), cell_carry hb (by simp [go_sem]), cell_carry hb (by simp [go_sem])⟩

set_option maxHeartbeats 2000000 in
theorem may_in (b o n cap : Nat) (l : List Nd) (w : World) (hn : Hid (l.length = n)) (hl : n ≤ 1000000) (hr : Hid (RowB w b o l)) (hpos : 0 < n) (hR : Hid (Right (sz l) n)) (h1 : Hid (kindAt l 0 = 1)) (p : Bool) (hp : Hid (((List.range n).all fun j => fieldOk l j && kidsOk l j) = p)) :
    Calls Try.prog 12 #[.slice (some ⟨b, o, none⟩) n cap] w fun e w' => e = .returned (.bool p) ∧ Below w.heap.size w w' := by
  have HRi := Lib.hid (right_row b o n cap l w hn hl hr hpos true (Lib.hid (rightB_true hR.out)))
  have HC0 := Lib.hid (fun w2 (h : Below w.heap.size w w2) => show w2.cell? ⟨b, o, none⟩ = some (.int .u8 1) by
    have := ((hr.out.carry h) 0 (by rw [hn.out]; exact hpos)).1.c0
    rw [Nat.zero_mul, Nat.add_zero, show (nd l 0).kind = 1 from h1.out] at this
    exact this)
  go_enter Try.func12, Try.ntmps12
  go_wp2_with (go_at_call 10; refine HRi.out.mono ?_; rintro e w1 ⟨rfl, hb1⟩; have c0 := HC0.out w1 hb1; replace hb1 := Lib.hid hb1)
  clear HC0 HRi c0
  go_loopw [19] (fun j wr => ∃ k : Nat, k ≤ n ∧ j = .int .i64 k ∧ (∀ j, j < k → (fieldOk l j && kidsOk l j) = true) ∧ Below w.heap.size w wr) (fun j _ => n - (intOf j).toNat)
  case atStart => exact ⟨0, Nat.zero_le _, rfl, fun j hj => absurd hj (by omega), hb1.out⟩
  case round =>
    obtain ⟨k, hk, rfl, hok, hbel⟩ := hrel
    replace hok := Lib.hid hok
    by_cases hlt : k < n
    · obtain ⟨hat, hwf⟩ := (hr.out.carry hbel) k (by rw [hn.out]; exact hlt)
      obtain ⟨c0, c1, c2, c3, c4, c5⟩ := hat
      obtain ⟨kd, ln, cl, s, num, tx, hN⟩ : ∃ kd ln cl s num tx, nd l k = ⟨kd, ln, cl, s, num, tx⟩ := ⟨_, _, _, _, _, _, rfl⟩
      rw [hN] at c0 c1 c2 c3 c4 c5 hwf
      have HW := Lib.hid hwf
      simp only at c0 c1 c2 c3 c4 c5
      clear hwf
      have hkd : kindAt l k = kd := by rw [kindAt, hN]
      have hF : fieldOk l k = (textB kd tx.data.toList && numB kd num) := by rw [fieldOk, hkd, hN]
      obtain ⟨ks, hks⟩ : ∃ ks, (kidsOf (sz l) k).map (kindAt l) = ks := ⟨_, rfl⟩
      have hK : kidsOk l k = askB kd num ks := by rw [kidsOk, hkd, hN, hks]
      have HB0 := Lib.hid (below_step hbel (below_alloc wr (.cells #[.int .u8 (kd : Nat), .int .i64 ln, .int .i64 cl, .int .i64 s, .int .i64 num, .string tx] 31)))
      have hbad : Hid ((fieldOk l k && kidsOk l k) = false → p = false) := Lib.hid fun h => by
        rw [← hp.out, List.all_eq_false]
        exact ⟨k, List.mem_range.2 hlt, by rw [h]; simp⟩
      clear hN hkd
      cases hT : textB kd tx.data.toList with
      | false =>
        have hp' : p = false := hbad.out (by rw [hF, hT]; rfl)
        subst hp'
        replace hT := Lib.hid hT
        clear hF hK hks hbel
        go_wp2_with fail
        refine (textMay_any ⟨kd, ln, cl, s, num, tx⟩ HW.out _ false hT.out).mono ?_
        rintro e w2 ⟨rfl, hb2⟩
        replace hb2 := Lib.hid (below_step HB0.out hb2)
        go_wp2_with fail
        go_ret
        exact ⟨rfl, hb2.out⟩
      | true =>
        cases hM : numB kd num with
        | false =>
          have hp' : p = false := hbad.out (by rw [hF, hT, hM]; rfl)
          subst hp'
          replace hT := Lib.hid hT
          replace hM := Lib.hid hM
          clear hF hK hks hbel
          go_wp2_with fail
          refine (textMay_any ⟨kd, ln, cl, s, num, tx⟩ HW.out _ true hT.out).mono ?_
          rintro e w2 ⟨rfl, hb2⟩
          obtain ⟨g0, g1, g2, g3, g4, g5⟩ := boxAt hb2
          replace hb2 := Lib.hid (below_step HB0.out hb2)
          go_wp2_with fail
          refine (numMay_any ⟨kd, ln, cl, s, num, tx⟩ HW.out _ false hM.out).mono ?_
          rintro e w3 ⟨rfl, hb3⟩
          replace hb3 := Lib.hid (below_step hb2.out hb3)
          go_wp2_with fail
          go_ret
          exact ⟨rfl, hb3.out⟩
        | true =>
          have ok := hR.out.ok k hlt
          have l1 := ok.low
          have l2 := ok.high
          have hch := kids_some ok
          have hkl := kids_len ok
          have hkn := fun x hx => (hR.out.kid_lt (y := x) hlt hx).2
          obtain ⟨xs, hxs⟩ : ∃ xs, kidsOf (sz l) k = xs := ⟨_, rfl⟩
          rw [hxs] at hch hkl hkn hks
          have HCH := Lib.hid (fun w1 (h : Below w.heap.size w w1) => children_any b o n cap l w1 hn hl (Lib.hid (hr.out.carry h)) k (k + 1 + (sz l k).toNat) hlt l1 (by omega) (Lib.hid (by omega)) (some xs) (Lib.hid hch))
          replace hkn := Lib.hid hkn
          have HKO := Lib.hid (show ∀ q, askB kd num ks = q → (fieldOk l k && kidsOk l k) = q from fun q h => by rw [hF, hT, hM, hK, h]; rfl)
          replace hT := Lib.hid hT
          replace hM := Lib.hid hM
          replace hks := Lib.hid hks
          clear hF hK hbel ok l1 l2 hch hxs
          have hkl2 : xs.length ≤ 1000000 := by omega
          go_wp2_with fail
          refine (textMay_any ⟨kd, ln, cl, s, num, tx⟩ HW.out _ true hT.out).mono ?_
          rintro e w2 ⟨rfl, hb2⟩
          obtain ⟨g0, g1, g2, g3, g4, g5⟩ := boxAt hb2
          replace hb2 := Lib.hid (below_step HB0.out hb2)
          go_wp2_with fail
          refine (numMay_any ⟨kd, ln, cl, s, num, tx⟩ HW.out _ true hM.out).mono ?_
          rintro e w3 ⟨rfl, hb3⟩
          replace g0 := cell_carry hb3 g0
          replace g1 := cell_carry hb3 g1
          replace g2 := cell_carry hb3 g2
          replace g3 := cell_carry hb3 g3
          replace g4 := cell_carry hb3 g4
          replace g5 := cell_carry hb3 g5
          replace hb3 := Lib.hid (below_step hb2.out hb3)
          go_wp2_with fail
          refine (HCH.out _ hb3.out).mono ?_
          rintro e w4 ⟨v, rfl, hown, hb4⟩
          replace g0 := cell_carry hb4 g0
          replace g1 := cell_carry hb4 g1
          replace g2 := cell_carry hb4 g2
          replace g3 := cell_carry hb4 g3
          replace g4 := cell_carry hb4 g4
          replace g5 := cell_carry hb4 g5
          simp only [Option.getD_some] at hown
          obtain ⟨a', cap', rfl, hcell⟩ := ownI_open hown
          replace hcell := Lib.hid hcell
          replace hb4 := Lib.hid (below_step hb3.out hb4)
          clear hown
          go_wp2_with fail
          refine (asked_any ⟨kd, ln, cl, s, num, tx⟩ HW.out _).mono ?_
          rintro e w5 ⟨v5, rfl, hrt, hb5⟩
          have HKD := Lib.hid (kinds_any b o n cap l w5 hn hl (Lib.hid (hr.out.carry (below_step hb4.out hb5))) a' xs.length cap' xs (Lib.hid rfl) hkl2 (Lib.hid fun i hi => by
            obtain ⟨g, h1, _, h2⟩ := hcell.out i hi
            exact ⟨g, h1, cell_carry hb5 h2, hkn.out _ (getD_mem hi)⟩))
          replace hb5 := Lib.hid (below_step hb4.out hb5)
          replace hrt := Lib.hid hrt
          obtain ⟨f5, c5, rfl⟩ := rt_form hrt.out
          go_wp2_with fail
          refine HKD.out.mono ?_
          rintro e w6 ⟨g, rfl, hkr, hb6⟩
          obtain ⟨f6, caps6, he6, eg, hc6⟩ := hrt.out.carry hb6
          cases he6
          rw [hks.out] at hkr
          have hksl : ks.length = xs.length := by rw [← hks.out, List.length_map]
          cases hA : askB kd num ks with
          | false =>
            have hp' : p = false := hbad.out (HKO.out false hA)
            subst hp'
            have HC6 := Lib.hid (hc6 w6 (Below.refl _ _) g 0 xs.length xs.length ks hksl (Nat.le_refl _) hkl2 hkr false hA)
            replace hb6 := Lib.hid (below_step hb5.out hb6)
            clear hc6 hkr hA hksl
            go_wp2_with fail
            refine HC6.out.mono ?_
            rintro e w7 ⟨rfl, hb7⟩
            replace hb7 := Lib.hid (below_step hb6.out hb7)
            go_wp2_with fail
            go_ret
            exact ⟨rfl, hb7.out⟩
          | true =>
            have HO := Lib.hid (show ∀ j, j < k + 1 → (fieldOk l j && kidsOk l j) = true from fun j hj => by
              by_cases e : j = k
              · subst e; exact HKO.out true hA
              · exact hok.out j (by omega))
            have HC6 := Lib.hid (hc6 w6 (Below.refl _ _) g 0 xs.length xs.length ks hksl (Nat.le_refl _) hkl2 hkr true hA)
            replace hb6 := Lib.hid (below_step hb5.out hb6)
            clear hc6 hkr hA hksl
            go_wp2_with fail
            refine HC6.out.mono ?_
            rintro e w7 ⟨rfl, hb7⟩
            replace hb7 := Lib.hid (below_step hb6.out hb7)
            go_wp2_with fail
            go_roundw
            case rel => exact ⟨k + 1, hlt, by go_num, HO.out, hb7.out⟩
            case measure => simp [intOf]; omega
    · have hp' : p = true := by
        rw [← hp.out, List.all_eq_true]
        intro j hj
        exact hok.out j (by have := List.mem_range.1 hj; omega)
      subst hp'
      replace hbel := Lib.hid hbel
      go_wp2_with fail
      go_ret
      exact ⟨rfl, hbel.out⟩

theorem may_bad (a : Option Addr) (n cap : Nat) (l : List Nd) (w : World) (hn : l.length = n) (hl : n ≤ 1000000) (hr : Row w a l) (hp : rightB (sz l) n = false) :
    Calls Try.prog 12 #[.slice a n cap] w fun e w' => e = .returned (.bool false) ∧ Below w.heap.size w w' := by
  have H := Lib.hid (right_any a n cap l w hn hl hr false hp)
  clear hn hr hp
  go_enter Try.func12, Try.ntmps12
  go_wp2_with (go_at_call 10; refine H.out.mono ?_; rintro e w1 ⟨rfl, hb1⟩; replace hb1 := Lib.hid hb1)
  go_ret
  exact ⟨rfl, hb1.out⟩

theorem may_root (b o n cap : Nat) (l : List Nd) (w : World) (hn : Hid (l.length = n)) (hl : n ≤ 1000000) (hr : Hid (RowB w b o l)) (hpos : 0 < n) (hR : Hid (Right (sz l) n)) (h1 : kindAt l 0 ≠ 1) :
    Calls Try.prog 12 #[.slice (some ⟨b, o, none⟩) n cap] w fun e w' => e = .returned (.bool false) ∧ Below w.heap.size w w' := by
  have HRi := Lib.hid (right_row b o n cap l w hn hl hr hpos true (Lib.hid (rightB_true hR.out)))
  obtain ⟨kd, hkd⟩ : ∃ kd, kindAt l 0 = kd := ⟨_, rfl⟩
  have HC0 := Lib.hid (fun w2 (h : Below w.heap.size w w2) => show w2.cell? ⟨b, o, none⟩ = some (.int .u8 (kd : Nat)) by
    have := ((hr.out.carry h) 0 (by rw [hn.out]; exact hpos)).1.c0
    rw [Nat.zero_mul, Nat.add_zero, show (nd l 0).kind = kd from hkd] at this
    exact this)
  have e1 : ((kd : Int) != 1) = true := by rw [bne_iff_ne]; omega
  clear h1 hkd
  go_enter Try.func12, Try.ntmps12
  go_wp2_with (go_at_call 10; refine HRi.out.mono ?_; rintro e w1 ⟨rfl, hb1⟩; have c0 := HC0.out w1 hb1; replace hb1 := Lib.hid hb1)
  go_ret
  exact ⟨rfl, hb1.out⟩

theorem may_any (a : Option Addr) (n cap : Nat) (l : List Nd) (w : World) (hn : l.length = n) (hl : n ≤ 1000000) (hr : Row w a l) (p : Bool) (hp : mayB l = p) :
    Calls Try.prog 12 #[.slice a n cap] w fun e w' => e = .returned (.bool p) ∧ Below w.heap.size w w' := by
  unfold mayB at hp
  rw [hn] at hp
  cases h1 : rightB (sz l) n with
  | false =>
    rw [h1, Bool.false_and, Bool.false_and] at hp
    subst hp
    exact may_bad a n cap l w hn hl hr h1
  | true =>
    have hR := rightB_iff.1 h1
    have hpos := hR.pos
    obtain ⟨b, o, rfl, hb⟩ := hr.block (by intro h; rw [h] at hn; simp at hn; omega)
    by_cases h2 : kindAt l 0 = 1
    · rw [h1, h2] at hp
      exact may_in b o n cap l w (Lib.hid hn) hl (Lib.hid hb) hpos (Lib.hid hR) (Lib.hid h2) p (Lib.hid (by simpa using hp))
    · rw [h1, show decide (kindAt l 0 = 1) = false by simpa using h2] at hp
      have hp' : p = false := by rw [← hp]; rfl
      subst hp'
      exact may_root b o n cap l w (Lib.hid hn) hl (Lib.hid hb) hpos (Lib.hid hR) h2

end Go.Proofs.Ytogpfbmkbnooeaa
