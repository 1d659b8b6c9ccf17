/-
  The walk of TreeKids. Conditions: none beyond a row's own.
-/
import Derived.Test.YtogpfbmkbnooeaaAw
namespace Go.Proofs.Ytogpfbmkbnooeaa
open Go.RowKit Go.Sort
set_option linter.unusedVariables false

theorem treeKids_many (a : Option Addr) (n cap : Nat) (i : Int) (w : World) (hm : n ≤ 9223372036854775807) (h : 300 < n) : Calls Try.prog 4 #[.slice a n cap, .int .i64 i] w fun e w' => e = .returned (.bool true) ∧ Below w.heap.size w w' := by
  have HA := Lib.hid awake_any
  have h' : (300 : Int) < (n : Int) := by omega
  go_enter Try.func4, Try.ntmps4
  go_wp2_with fail
  refine (HA.out _).mono ?_
  rintro e w1 ⟨rfl, hb1⟩
  replace hb1 := Lib.hid hb1
  go_wp2_with fail
  go_ret
  exact ⟨rfl, hb1.out⟩

set_option maxHeartbeats 1000000 in
theorem treeKids_none (a : Option Addr) (n cap : Nat) (l : List Nd) (i : Int) (w : World) (hn : Hid (l.length = n)) (h : n ≤ 300) (hr : Hid (Row w a l)) (hi : i64In i) (hk : Hid (kidsAt (sz l) n i = [])) (hu : Hid (upAt (sz l) n i = -1))
    (hc : i < 0 ∨ (n : Int) ≤ i ∨ (0 ≤ i ∧ i < n ∧ rightB (sz l) n = false)) : Calls Try.prog 4 #[.slice a n cap, .int .i64 i] w fun e w' => e = .returned (.bool true) ∧ Below w.heap.size w w' := by
  have HA := Lib.hid awake_any
  have h' : ¬ (300 : Int) < (n : Int) := by omega
  have H1 := Lib.hid (kids_any a n cap l w hn.out (by omega) hr.out i hi [] hk.out)
  have H2 := Lib.hid (fun w1 (hb : Below w.heap.size w w1) => up_any a n cap l w1 hn.out (by omega) (hr.out.carry hb) i hi (-1) hu.out)
  have H3 := Lib.hid (fun w1 (hb : Below w.heap.size w w1) (hq : rightB (sz l) n = false) => rright_any a n cap l w1 hn.out (by omega) (hr.out.carry hb) false hq)
  rcases hc with hc | hc | ⟨hc1, hc2, hc3⟩
  · go_enter Try.func4, Try.ntmps4
    go_wp2_with fail
    refine H1.out.mono ?_
    rintro e w1 ⟨v, rfl, hown, hb1⟩
    obtain ⟨a', cap', rfl, _⟩ := ownI_open hown
    rw [show ([] : List Nat).length = 0 from rfl]
    clear hown
    replace hb1 := Lib.hid hb1
    go_wp2_with fail
    refine (H2.out _ hb1.out).mono ?_
    rintro e w2 ⟨rfl, hb2⟩
    replace hb2 := Lib.hid (below_step hb1.out hb2)
    go_wp2_with fail
    refine (HA.out _).mono ?_
    rintro e w3 ⟨rfl, hb3⟩
    replace hb3 := Lib.hid (below_step hb2.out hb3)
    go_wp2_with fail
    go_ret
    exact ⟨rfl, hb3.out⟩
  · have hc0 : 0 ≤ i := by omega
    go_enter Try.func4, Try.ntmps4
    go_wp2_with fail
    refine H1.out.mono ?_
    rintro e w1 ⟨v, rfl, hown, hb1⟩
    obtain ⟨a', cap', rfl, _⟩ := ownI_open hown
    rw [show ([] : List Nat).length = 0 from rfl]
    clear hown
    replace hb1 := Lib.hid hb1
    go_wp2_with fail
    refine (H2.out _ hb1.out).mono ?_
    rintro e w2 ⟨rfl, hb2⟩
    replace hb2 := Lib.hid (below_step hb1.out hb2)
    go_wp2_with fail
    refine (HA.out _).mono ?_
    rintro e w3 ⟨rfl, hb3⟩
    replace hb3 := Lib.hid (below_step hb2.out hb3)
    go_wp2_with fail
    go_ret
    exact ⟨rfl, hb3.out⟩
  · replace hc3 := Lib.hid hc3
    go_enter Try.func4, Try.ntmps4
    go_wp2_with fail
    refine H1.out.mono ?_
    rintro e w1 ⟨v, rfl, hown, hb1⟩
    obtain ⟨a', cap', rfl, _⟩ := ownI_open hown
    rw [show ([] : List Nat).length = 0 from rfl]
    clear hown
    replace hb1 := Lib.hid hb1
    go_wp2_with fail
    refine (H2.out _ hb1.out).mono ?_
    rintro e w2 ⟨rfl, hb2⟩
    replace hb2 := Lib.hid (below_step hb1.out hb2)
    go_wp2_with fail
    refine (H3.out _ hb2.out hc3.out).mono ?_
    rintro e w3 ⟨rfl, rfl⟩
    go_wp2_with fail
    refine (HA.out _).mono ?_
    rintro e w3 ⟨rfl, hb3⟩
    replace hb3 := Lib.hid (below_step hb2.out hb3)
    go_wp2_with fail
    go_ret
    exact ⟨rfl, hb3.out⟩

set_option maxHeartbeats 2000000 in
theorem treeKids_some (b o n cap : Nat) (l : List Nd) (k : Nat) (w : World) (hn : Hid (l.length = n)) (h : n ≤ 300) (hr : Hid (RowB w b o l)) (hk : k < n) (hR : Hid (Right (sz l) n)) (hrow : Hid (Row w (some ⟨b, o, none⟩) l)) :
    Calls Try.prog 4 #[.slice (some ⟨b, o, none⟩) n cap, .int .i64 (k : Nat)] w fun e w' => e = .returned (.bool true) ∧ Below w.heap.size w w' := by
  have HA := Lib.hid awake_any
  have h' : ¬ (300 : Int) < (n : Int) := by omega
  have hki : i64In (k : Nat) := by unfold i64In; omega
  obtain ⟨x, hx⟩ : ∃ x, kidsOf (sz l) k = x := ⟨_, rfl⟩
  obtain ⟨U, hU⟩ : ∃ U, upOf (sz l) k = U := ⟨_, rfl⟩
  have hdec : decide (0 ≤ (k : Int) ∧ (k : Int) < n) = true := by simp; omega
  have hxl := kids_len (hR.out.ok k hk)
  rw [hx] at hxl
  have H1 := Lib.hid (kids_any (some ⟨b, o, none⟩) n cap l w hn.out (by omega) hrow.out (k : Nat) hki x (by rw [kidsAt, if_pos ⟨hdec, rightB_true hR.out⟩]; exact hx))
  have H2 := Lib.hid (fun w1 (hb : Below w.heap.size w w1) => up_any (some ⟨b, o, none⟩) n cap l w1 hn.out (by omega) (hrow.out.carry hb) (k : Nat) hki U (by rw [upAt, if_pos ⟨hdec, rightB_true hR.out⟩]; exact hU))
  have H3 := Lib.hid (fun w1 (hb : Below w.heap.size w w1) => rright_any (some ⟨b, o, none⟩) n cap l w1 hn.out (by omega) (hrow.out.carry hb) true (rightB_true hR.out))
  have H4 := Lib.hid (fun w1 (hb : Below w.heap.size w w1) => rkids_row b o n cap l w1 hn (by omega) (Lib.hid (hr.out.carry hb)) k hk (Lib.hid (hR.out.ok k hk)) x (Lib.hid hx))
  have H5 := Lib.hid (fun w1 (hb : Below w.heap.size w w1) => rup_row b o n cap l w1 hn (by omega) (Lib.hid (hr.out.carry hb)) hR k hk U (Lib.hid hU))
  have g1 : (0 : Int) ≤ (k : Int) := by omega
  have g2 : (k : Int) < (n : Int) := by omega
  have e1 : ((x.length : Int) != (x.length : Int)) = false := by simp
  have e2 : (U != U) = false := by simp
  clear hx hU hdec hki
  go_enter Try.func4, Try.ntmps4
  go_wp2_with fail
  refine H1.out.mono ?_
  rintro e w1 ⟨v, rfl, hown, hb1⟩
  obtain ⟨a', cap', rfl, hcell⟩ := ownI_open hown
  replace hb1 := Lib.hid hb1
  clear hown
  replace hcell := Lib.hid hcell
  go_wp2_with fail
  refine (H2.out _ hb1.out).mono ?_
  rintro e w2 ⟨rfl, hb2⟩
  have hb12 := Lib.hid hb2
  replace hb2 := Lib.hid (below_step hb1.out hb2)
  go_wp2_with fail
  refine (H3.out _ hb2.out).mono ?_
  rintro e w3 ⟨rfl, rfl⟩
  go_wp2_with fail
  refine (H4.out _ hb2.out).mono ?_
  rintro e w3 ⟨v, rfl, hown, hb3⟩
  obtain ⟨a'', cap'', rfl, hcell'⟩ := ownI_open hown
  have hb13 := Lib.hid (below_step hb12.out hb3)
  replace hb3 := Lib.hid (below_step hb2.out hb3)
  replace hcell' := Lib.hid hcell'
  clear hown hb12
  go_wp2_with fail
  refine (H5.out _ hb3.out).mono ?_
  rintro e w4 ⟨rfl, hb4⟩
  have HC := Lib.hid (fun j (hj : j < x.length) => show ∃ g g' c, a' = some ⟨g, 0, none⟩ ∧ a'' = some ⟨g', 0, none⟩ ∧ w4.cell? ⟨g, j, none⟩ = some (itv c) ∧ w4.cell? ⟨g', j, none⟩ = some (itv c) from by
    obtain ⟨g, h1, _, h2⟩ := hcell.out j hj
    obtain ⟨g', h3, _, h4⟩ := hcell'.out j hj
    exact ⟨g, g', x.getD j 0, h1, h3, cell_carry (below_step hb13.out hb4) h2, cell_carry hb4 h4⟩)
  replace hb4 := Lib.hid (below_step hb3.out hb4)
  clear hcell hcell' hb13 H1 H2 H3 H4 H5
  go_wp2_with fail
  go_loopw [59] (fun j wr => ∃ i : Nat, i ≤ x.length ∧ j = .int .i64 i ∧ Below w4.heap.size w4 wr) (fun j _ => x.length - (intOf j).toNat)
  case atStart => exact ⟨0, Nat.zero_le _, rfl, Below.refl _ _⟩
  case round =>
    obtain ⟨i, hi, rfl, hbel⟩ := hrel
    by_cases hlt : i < x.length
    · obtain ⟨g, g', c, rfl, rfl, c1, c2⟩ := HC.out i hlt
      replace c1 := cell_carry hbel c1
      replace c2 := cell_carry hbel c2
      have f1 : ((c : Int) != (c : Int)) = false := by simp
      replace hbel := Lib.hid hbel
      go_wp2_with fail
      go_quiet (fail)
      have hb5 := Lib.hid (below_step hbel.out (below_drewN _ nq))
      go_wp2_with fail
      go_roundw
      case rel => exact ⟨i + 1, hlt, by go_num, hb5.out⟩
      case measure => simp [intOf]; omega
    · replace hbel := Lib.hid (below_step hb4.out hbel)
      go_wp2_with fail
      refine (HA.out _).mono ?_
      rintro e w5 ⟨rfl, hb5⟩
      replace hb5 := Lib.hid (below_step hbel.out hb5)
      go_wp2_with fail
      go_ret
      exact ⟨rfl, hb5.out⟩

theorem treeKids_walk (a : Option Addr) (n cap : Nat) (l : List Nd) (i : Int) (w : World) (hn : l.length = n) (hm : n ≤ maxLen) (hr : Row w a l) (hi : i64In i) : Calls Try.prog 4 #[.slice a n cap, .int .i64 i] w fun e w' => e = .returned (.bool true) ∧ Below w.heap.size w w' := by
  unfold maxLen at hm
  by_cases h : 300 < n
  · exact treeKids_many a n cap i w hm h
  · by_cases hp : 0 ≤ i ∧ i < n
    · cases hq : rightB (sz l) n with
      | true =>
        obtain ⟨k, rfl⟩ : ∃ k : Nat, i = k := ⟨i.toNat, by omega⟩
        have hrow := hr
        obtain ⟨b, o, rfl, hb⟩ := hr.block (by intro h; rw [h] at hn; simp at hn; omega)
        exact treeKids_some b o n cap l k w (Lib.hid hn) (by omega) (Lib.hid hb) (by omega) (Lib.hid (rightB_iff.1 hq)) (Lib.hid hrow)
      | false =>
        exact treeKids_none a n cap l i w (Lib.hid hn) (by omega) (Lib.hid hr) hi (Lib.hid (by rw [kidsAt, if_neg (by rw [hq]; simp)])) (Lib.hid (by rw [upAt, if_neg (by rw [hq]; simp)])) (.inr (.inr ⟨hp.1, hp.2, hq⟩))
    · have hd : decide (0 ≤ i ∧ i < n) = false := decide_eq_false hp
      exact treeKids_none a n cap l i w (Lib.hid hn) (by omega) (Lib.hid hr) hi (Lib.hid (by rw [kidsAt, if_neg (by rw [hd]; simp)])) (Lib.hid (by rw [upAt, if_neg (by rw [hd]; simp)])) (by omega)

end Go.Proofs.Ytogpfbmkbnooeaa
