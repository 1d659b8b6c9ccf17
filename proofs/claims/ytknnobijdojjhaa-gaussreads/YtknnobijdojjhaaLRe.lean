/-
  The walk of the law GaussReads out of its callees' contracts. Conditions: those contracts.
-/
import Derived.Test.YtknnobijdojjhaaLTx
import Derived.Test.YtknnobijdojjhaaRs
namespace Go.Proofs.Ytknnobijdojjhaa
open Go.RowKit Go.Sort

set_option maxHeartbeats 1000000 in
theorem reads_long (s : ByteArray) (w : World) (h : 100 < s.size)
    (H0 : Hid (∀ w, Calls Try.prog 18 #[] w fun e w' => e = .returned (.bool true) ∧ Below w.heap.size w w')) :
    Calls Try.prog 9 #[.string s] w fun e w' => e = .returned (.bool true) ∧ Below w.heap.size w w' := by
  have h' : (100 : Int) < s.size := by omega
  go_enter Try.func9, Try.ntmps9
  go_wp2_with fail
  refine (H0.out _).mono ?_
  rintro e w1 ⟨rfl, hb⟩
  go_wp2
  go_ret
  exact ⟨rfl, hb⟩

set_option maxHeartbeats 1000000 in
theorem reads_ok (s : ByteArray) (x y : Int) (w : World) (h : s.size ≤ 100)
    (E1 : ∀ w, (binOp .eql 23 (cv x y) (cv x y)).run Try.prog w = .ok (.bool true) w)
    (hG : ∀ op o1 o2 a b c d w, (eqGuard op 23 o1 o2 (cv a b) (cv c d)).run Try.prog w = .ok () w)
    (H1 : Hid (∀ w, Calls Try.prog 26 #[.string s] w fun e w' => e = .returned (pr x y 0) ∧ Below w.heap.size w w'))
    (H2 : Hid (∀ w, Calls Try.prog 28 #[.string s] w fun e w' => e = .returned (pr x y 0) ∧ Below w.heap.size w w'))
    (H3 : Hid (∀ w, Calls Try.prog 25 #[cv x y] w fun e w' => e = .returned (.string s) ∧ Below w.heap.size w w'))
    (H0 : Hid (∀ w, Calls Try.prog 18 #[] w fun e w' => e = .returned (.bool true) ∧ Below w.heap.size w w')) :
    Calls Try.prog 9 #[.string s] w fun e w' => e = .returned (.bool true) ∧ Below w.heap.size w w' := by
  have h' : ¬ (100 : Int) < s.size := by omega
  go_enter Try.func9, Try.ntmps9
  go_wp2_with fail
  refine (H1.out _).mono ?_
  rintro e w1 ⟨rfl, hB⟩
  go_wp2_with fail
  refine (H2.out _).mono ?_
  rintro e w2 ⟨rfl, hb⟩
  replace hB := (hB.trans (below_alloc w1 _ |>.mono hB.size)).trans (hb.mono (Nat.le_trans hB.size (by simp)))
  have g0 := fun O => cell_alloc (cell_carry hb (b := w1.heap.size) (o := 0) (v := .int .i64 x) (by simp [go_sem])) O
  have g1 := fun O => cell_alloc (cell_carry hb (b := w1.heap.size) (o := 1) (v := .int .i64 y) (by simp [go_sem])) O
  clear hb
  go_wp2_with fail
  refine (H3.out _).mono ?_
  rintro e w3 ⟨rfl, hb⟩
  replace hB := (hB.trans (below_alloc w2 _ |>.mono hB.size)).trans (hb.mono (Nat.le_trans hB.size (by simp)))
  clear hb g0 g1
  go_wp2_with fail
  refine (H0.out _).mono ?_
  rintro e w4 ⟨rfl, hb⟩
  replace hB := below_step hB hb
  go_wp2
  go_ret
  exact ⟨rfl, hB⟩

set_option maxHeartbeats 1000000 in
theorem reads_not (s : ByteArray) (x y r : Int) (w : World) (h : s.size ≤ 100) (hr : (r != 0) = true)
    (E1 : ∀ w, (binOp .eql 23 (cv x y) (cv x y)).run Try.prog w = .ok (.bool true) w)
    (hG : ∀ op o1 o2 a b c d w, (eqGuard op 23 o1 o2 (cv a b) (cv c d)).run Try.prog w = .ok () w)
    (H1 : Hid (∀ w, Calls Try.prog 26 #[.string s] w fun e w' => e = .returned (pr x y r) ∧ Below w.heap.size w w'))
    (H2 : Hid (∀ w, Calls Try.prog 28 #[.string s] w fun e w' => e = .returned (pr x y r) ∧ Below w.heap.size w w'))
    (H0 : Hid (∀ w, Calls Try.prog 18 #[] w fun e w' => e = .returned (.bool true) ∧ Below w.heap.size w w')) :
    Calls Try.prog 9 #[.string s] w fun e w' => e = .returned (.bool true) ∧ Below w.heap.size w w' := by
  have h' : ¬ (100 : Int) < s.size := by omega
  go_enter Try.func9, Try.ntmps9
  go_wp2_with fail
  refine (H1.out _).mono ?_
  rintro e w1 ⟨rfl, hB⟩
  go_wp2_with fail
  refine (H2.out _).mono ?_
  rintro e w2 ⟨rfl, hb⟩
  replace hB := (hB.trans (below_alloc w1 _ |>.mono hB.size)).trans (hb.mono (Nat.le_trans hB.size (by simp)))
  have g0 := fun O => cell_alloc (cell_carry hb (b := w1.heap.size) (o := 0) (v := .int .i64 x) (by simp [go_sem])) O
  have g1 := fun O => cell_alloc (cell_carry hb (b := w1.heap.size) (o := 1) (v := .int .i64 y) (by simp [go_sem])) O
  clear hb
  go_wp2_with fail
  refine (H0.out _).mono ?_
  rintro e w4 ⟨rfl, hb⟩
  replace hB := (hB.trans (below_alloc w2 _ |>.mono hB.size)).trans (hb.mono (Nat.le_trans hB.size (by simp)))
  clear g0 g1
  go_wp2
  go_ret
  exact ⟨rfl, hB⟩

end Go.Proofs.Ytknnobijdojjhaa
