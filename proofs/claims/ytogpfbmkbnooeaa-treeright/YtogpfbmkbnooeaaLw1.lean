/-
  The walk of TreeRight. Conditions: none beyond a row's own.
-/
import Derived.Test.YtogpfbmkbnooeaaAw
import Derived.Test.YtogpfbmkbnooeaaRmy
import Derived.Test.YtogpfbmkbnooeaaMny
namespace Go.Proofs.Ytogpfbmkbnooeaa
open Go.RowKit Go.Sort
set_option linter.unusedVariables false

set_option maxHeartbeats 1000000 in
open Classical in
theorem treeRight_walk (a : Option Addr) (n cap : Nat) (l : List Nd) (w : World) (hn : l.length = n) (hm : n ≤ maxLen) (hr : Row w a l) : Calls Try.prog 3 #[.slice a n cap] w fun e w' => e = .returned (.bool true) ∧ Below w.heap.size w w' := by
  unfold maxLen at hm
  have HA := Lib.hid awake_any
  by_cases h : ∃ k, k ≤ n ∧ 4000 < manyTo l k
  · have H := Lib.hid (many_any a n cap l w (Lib.hid hn) (by omega) (Lib.hid hr) true (Lib.hid ⟨fun _ => rfl, fun _ => h⟩))
    clear h hr hn
    go_enter Try.func3, Try.ntmps3
    go_wp2_with fail
    refine H.out.mono ?_
    rintro e w1 ⟨rfl, rfl⟩
    go_wp2_with fail
    refine (HA.out _).mono ?_
    rintro e w1 ⟨rfl, hb1⟩
    replace hb1 := Lib.hid hb1
    go_wp2_with fail
    go_ret
    exact ⟨rfl, hb1.out⟩
  · have H := Lib.hid (many_any a n cap l w (Lib.hid hn) (by omega) (Lib.hid hr) false (Lib.hid ⟨fun hh => absurd hh h, fun hh => by cases hh⟩))
    rw [← hn] at h
    obtain ⟨h1, h2⟩ := many_false h
    rw [hn] at h1 h2
    obtain ⟨p, hp⟩ : ∃ p, rightB (sz l) n = p := ⟨_, rfl⟩
    obtain ⟨q, hq⟩ : ∃ q, mayB l = q := ⟨_, rfl⟩
    have H1 := Lib.hid (right_any a n cap l w hn (by omega) hr p hp)
    have H2 := Lib.hid (fun w1 (hb : Below w.heap.size w w1) => rright_any a n cap l w1 hn (by omega) (hr.carry hb) p hp)
    have H3 := Lib.hid (fun w1 (hb : Below w.heap.size w w1) => may_any a n cap l w1 hn (by omega) (hr.carry hb) q hq)
    have H4 := Lib.hid (fun w1 (hb : Below w.heap.size w w1) => rmay_any a n cap l w1 hn (by omega) (hr.carry hb) (fun i hi => by have := h2 i hi; omega) q hq)
    have e1 : (p == p) = true := by simp
    have e2 : (q == q) = true := by simp
    clear hp hq h hn h1 h2 hr hm
    go_enter Try.func3, Try.ntmps3
    go_wp2_with fail
    refine H.out.mono ?_
    rintro e w1 ⟨rfl, rfl⟩
    go_wp2_with fail
    refine (H1.out).mono ?_
    rintro e w1 ⟨rfl, hb1⟩
    replace hb1 := Lib.hid hb1
    go_wp2_with fail
    refine (H2.out _ hb1.out).mono ?_
    rintro e w2 ⟨rfl, rfl⟩
    go_wp2_with fail
    refine (H3.out _ hb1.out).mono ?_
    rintro e w3 ⟨rfl, hb3⟩
    replace hb3 := Lib.hid (below_step hb1.out hb3)
    go_wp2_with fail
    refine (H4.out _ hb3.out).mono ?_
    rintro e w4 ⟨rfl, hb4⟩
    replace hb4 := Lib.hid (below_step hb3.out hb4)
    go_wp2_with fail
    refine (HA.out _).mono ?_
    rintro e w5 ⟨rfl, hb5⟩
    replace hb5 := Lib.hid (below_step hb4.out hb5)
    go_wp2_with fail
    go_ret
    exact ⟨rfl, hb5.out⟩

end Go.Proofs.Ytogpfbmkbnooeaa
