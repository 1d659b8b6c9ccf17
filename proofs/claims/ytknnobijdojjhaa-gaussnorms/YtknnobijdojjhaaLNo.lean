/-
  The walk of the law GaussNorms out of its callees' contracts. Conditions: those contracts.
-/
import Derived.Test.YtknnobijdojjhaaAw
namespace Go.Proofs.Ytknnobijdojjhaa
open Go.RowKit Go.Sort

set_option maxHeartbeats 2000000 in
theorem norms_core (a b n x y p q : Int) (w : World) (hn : 0 ≤ n)
    (E1 : ∀ w, (binOp .eql 23 (cv p q) (cv p q)).run Try.prog w = .ok (.bool true) w)
    (hG : ∀ op o1 o2 a b c d w, (eqGuard op 23 o1 o2 (cv a b) (cv c d)).run Try.prog w = .ok () w)
    (H0 : Hid (∀ w, Calls Try.prog 21 #[cv a b] w fun e w' => e = .returned (.int .i64 n) ∧ Below w.heap.size w w'))
    (H1 : Hid (∀ w, Calls Try.prog 22 #[cv a b] w fun e w' => e = .returned (.int .i64 n) ∧ Below w.heap.size w w'))
    (H2 : Hid (∀ w, Calls Try.prog 17 #[cv a b] w fun e w' => e = .returned (cv x y) ∧ Below w.heap.size w w'))
    (H3 : Hid (∀ w, Calls Try.prog 19 #[cv a b, cv x y] w fun e w' => e = .returned (cv p q) ∧ Below w.heap.size w w'))
    (H4 : Hid (∀ w, Calls Try.prog 23 #[.int .i64 n, .int .i64 0] w fun e w' => e = .returned (cv p q) ∧ Below w.heap.size w w'))
    (H5 : Hid (∀ w, Calls Try.prog 18 #[] w fun e w' => e = .returned (.bool true) ∧ Below w.heap.size w w')) :
    Calls Try.prog 6 #[cv a b] w fun e w' => e = .returned (.bool true) ∧ Below w.heap.size w w' := by
  go_enter Try.func6, Try.ntmps6
  go_wp2_with fail
  refine (H0.out _).mono ?_
  rintro e W ⟨rfl, hb⟩
  have hB := (by go_grown : Below w.heap.size w _).trans (hb.mono (by simp))
  have g0 := cell_carry hb (b := w.heap.size) (o := 0) (v := .int .i64 a) (by simp [go_sem])
  have g1 := cell_carry hb (b := w.heap.size) (o := 1) (v := .int .i64 b) (by simp [go_sem])
  clear hb
  have k0 := fun D os => cell_regrown g0 D os
  have k1 := fun D os => cell_regrown g1 D os
  have c1 : ∀ D os, Calls Try.prog 22 #[cv a b] (grow (redrawn W D) os) fun e w'' => e = .returned (.int .i64 n) ∧ ∃ p : Regrown, w'' = grow (redrawn W p.d) p.os := fun D os => Calls.regrown_of (H1.out _)
  have c2 : ∀ D os, Calls Try.prog 17 #[cv a b] (grow (redrawn W D) os) fun e w'' => e = .returned (cv x y) ∧ ∃ p : Regrown, w'' = grow (redrawn W p.d) p.os := fun D os => Calls.regrown_of (H2.out _)
  have c3 : ∀ D os, Calls Try.prog 19 #[cv a b, cv x y] (grow (redrawn W D) os) fun e w'' => e = .returned (cv p q) ∧ ∃ p : Regrown, w'' = grow (redrawn W p.d) p.os := fun D os => Calls.regrown_of (H3.out _)
  have c4 : ∀ D os, Calls Try.prog 23 #[.int .i64 n, .int .i64 0] (grow (redrawn W D) os) fun e w'' => e = .returned (cv p q) ∧ ∃ p : Regrown, w'' = grow (redrawn W p.d) p.os := fun D os => Calls.regrown_of (H4.out _)
  have c5 : ∀ D os, Calls Try.prog 18 #[] (grow (redrawn W D) os) fun e w'' => e = .returned (.bool true) ∧ ∃ p : Regrown, w'' = grow (redrawn W p.d) p.os := fun D os => Calls.regrown_of (H5.out _)
  go_wp2_with fail
  refine wp_region_quiet_below (by kernel_rfl) (by kernel_rfl) ?_
  repeat (quiet_step (first | with_reducible exact c1 _ _ | with_reducible exact c2 _ _ | with_reducible exact c3 _ _ | with_reducible exact c4 _ _ | with_reducible exact c5 _ _))
  refine wpQuiet_nil ?_
  rintro _ ⟨⟨dq, osq⟩, rfl⟩
  have hb := below_regrown W dq osq
  generalize grow (redrawn W dq) osq = w' at *
  go_wp2
  go_ret
  exact ⟨rfl, below_step hB hb⟩

end Go.Proofs.Ytknnobijdojjhaa
