/-
  The walk of the law GaussProducts out of its callees' contracts. Conditions: those contracts.
-/
import Derived.Test.YtknnobijdojjhaaAw
namespace Go.Proofs.Ytknnobijdojjhaa
open Go.RowKit Go.Sort

set_option maxHeartbeats 1000000 in
theorem products_core (a b c d x y : Int) (w : World)
    (E1 : ∀ w, (binOp .eql 23 (cv x y) (cv x y)).run Try.prog w = .ok (.bool true) w)
    (hG : ∀ op o1 o2 a b c d w, (eqGuard op 23 o1 o2 (cv a b) (cv c d)).run Try.prog w = .ok () w)
    (H0 : Hid (∀ w, Calls Try.prog 19 #[cv a b, cv c d] w fun e w' => e = .returned (cv x y) ∧ Below w.heap.size w w'))
    (H1 : Hid (∀ w, Calls Try.prog 20 #[cv a b, cv c d] w fun e w' => e = .returned (cv x y) ∧ Below w.heap.size w w'))
    (H2 : Hid (∀ w, Calls Try.prog 18 #[] w fun e w' => e = .returned (.bool true) ∧ Below w.heap.size w w'))
    : Calls Try.prog 4 #[cv a b, cv c d] w fun e w' => e = .returned (.bool true) ∧ Below w.heap.size w w' := by
  go_enter Try.func4, Try.ntmps4
  go_wp2_with fail
  obtain ⟨W, hW⟩ : ∃ W, W = ((w.alloc (Obj.cells #[Value.int IntKind.i64 a, Value.int IntKind.i64 b] 23)).alloc (Obj.cells #[Value.int IntKind.i64 c, Value.int IntKind.i64 d] 23)) := ⟨_, rfl⟩
  have hB : Below w.heap.size w W := by rw [hW]; go_grown
  have hz : W.heap.size = w.heap.size + 1 + 1 := by rw [hW]; simp
  rw [← hW]
  have k00 := fun D os => cell_regrown (w := W) (a := ⟨w.heap.size, 0, none⟩) (v := .int .i64 a) (by rw [hW]; simp [go_sem]) D os
  have k01 := fun D os => cell_regrown (w := W) (a := ⟨w.heap.size, 1, none⟩) (v := .int .i64 b) (by rw [hW]; simp [go_sem]) D os
  have k10 := fun D os => cell_regrown (w := W) (a := ⟨w.heap.size + 1, 0, none⟩) (v := .int .i64 c) (by rw [hW]; simp [go_sem]) D os
  have k11 := fun D os => cell_regrown (w := W) (a := ⟨w.heap.size + 1, 1, none⟩) (v := .int .i64 d) (by rw [hW]; simp [go_sem]) D os
  have c0 : ∀ D os, Calls Try.prog 19 #[cv a b, cv c d] (grow (redrawn W D) os) fun e w'' => e = .returned (cv x y) ∧ ∃ p : Regrown, w'' = grow (redrawn W p.d) p.os := fun D os => Calls.regrown_of (H0.out _)
  have c1 : ∀ D os, Calls Try.prog 20 #[cv a b, cv c d] (grow (redrawn W D) os) fun e w'' => e = .returned (cv x y) ∧ ∃ p : Regrown, w'' = grow (redrawn W p.d) p.os := fun D os => Calls.regrown_of (H1.out _)
  have c2 : ∀ D os, Calls Try.prog 18 #[] (grow (redrawn W D) os) fun e w'' => e = .returned (.bool true) ∧ ∃ p : Regrown, w'' = grow (redrawn W p.d) p.os := fun D os => Calls.regrown_of (H2.out _)
  clear hW
  refine wp_region_quiet_below (by kernel_rfl) (by kernel_rfl) ?_
  repeat (quiet_step (first | with_reducible exact c0 _ _ | with_reducible exact c1 _ _ | with_reducible exact c2 _ _))
  refine wpQuiet_nil ?_
  rintro _ ⟨⟨dq, osq⟩, rfl⟩
  have hb := below_regrown W dq osq
  generalize grow (redrawn W dq) osq = w' at *
  clear k00 k01 k10 k11 c0 c1 c2
  go_wp2
  go_ret
  exact ⟨rfl, below_step hB hb⟩

end Go.Proofs.Ytknnobijdojjhaa
