/-
  The walk of the law GaussParts out of its callees' contracts. Conditions: those contracts.
-/
import Derived.Test.YtknnobijdojjhaaAw
namespace Go.Proofs.Ytknnobijdojjhaa
open Go.RowKit Go.Sort

set_option maxHeartbeats 2000000 in
theorem parts_core (a b x y : Int) (t : Bool) (w : World)
    (E1 : ∀ w, (binOp .eql 23 (cv x y) (cv x y)).run Try.prog w = .ok (.bool true) w)
    (E2 : ∀ w, (binOp .eql 23 (cv a b) (cv x y)).run Try.prog w = .ok (.bool t) w)
    (hG : ∀ op o1 o2 a b c d w, (eqGuard op 23 o1 o2 (cv a b) (cv c d)).run Try.prog w = .ok () w)
    (H0 : Hid (∀ w, Calls Try.prog 23 #[.int .i64 a, .int .i64 b] w fun e w' => e = .returned (cv x y) ∧ Below w.heap.size w w'))
    (H1 : Hid (∀ w, Calls Try.prog 10 #[.int .i64 a, .int .i64 b] w fun e w' => e = .returned (cv x y) ∧ Below w.heap.size w w'))
    (H2 : Hid (∀ w, Calls Try.prog 24 #[cv x y] w fun e w' => e = .returned (.bool true) ∧ Below w.heap.size w w'))
    (H3 : Hid (∀ w, Calls Try.prog 24 #[cv a b] w fun e w' => e = .returned (.bool t) ∧ Below w.heap.size w w'))
    (H4 : Hid (∀ w, Calls Try.prog 18 #[] w fun e w' => e = .returned (.bool true) ∧ Below w.heap.size w w')) :
    Calls Try.prog 7 #[.int .i64 a, .int .i64 b] w fun e w' => e = .returned (.bool true) ∧ Below w.heap.size w w' := by
  go_enter Try.func7, Try.ntmps7
  go_wp2_with fail
  refine (H0.out _).mono ?_
  rintro e w1 ⟨rfl, hb1⟩
  go_wp2_with fail
  obtain ⟨W, hW⟩ : ∃ W, W = ((w1.alloc (Obj.cells #[Value.int IntKind.i64 x, Value.int IntKind.i64 y] 23)).alloc (Obj.cells #[Value.int IntKind.i64 a, Value.int IntKind.i64 b] 23)) := ⟨_, rfl⟩
  have hB : Below w.heap.size w W := by rw [hW]; have hz := hb1.size; go_grown
  rw [← hW]
  have k0 := fun D os => cell_regrown (w := W) (a := ⟨w1.heap.size, 0, none⟩) (v := .int .i64 x) (by rw [hW]; simp [go_sem]) D os
  have k1 := fun D os => cell_regrown (w := W) (a := ⟨w1.heap.size, 1, none⟩) (v := .int .i64 y) (by rw [hW]; simp [go_sem]) D os
  have k2 := fun D os => cell_regrown (w := W) (a := ⟨w1.heap.size + 1, 0, none⟩) (v := .int .i64 a) (by rw [hW]; simp [go_sem]) D os
  have k3 := fun D os => cell_regrown (w := W) (a := ⟨w1.heap.size + 1, 1, none⟩) (v := .int .i64 b) (by rw [hW]; simp [go_sem]) D os
  clear hW
  have c1 : ∀ D os, Calls Try.prog 10 #[.int .i64 a, .int .i64 b] (grow (redrawn W D) os) fun e w'' => e = .returned (cv x y) ∧ ∃ p : Regrown, w'' = grow (redrawn W p.d) p.os := fun D os => Calls.regrown_of (H1.out _)
  have c2 : ∀ D os, Calls Try.prog 24 #[cv x y] (grow (redrawn W D) os) fun e w'' => e = .returned (.bool true) ∧ ∃ p : Regrown, w'' = grow (redrawn W p.d) p.os := fun D os => Calls.regrown_of (H2.out _)
  have c3 : ∀ D os, Calls Try.prog 24 #[cv a b] (grow (redrawn W D) os) fun e w'' => e = .returned (.bool t) ∧ ∃ p : Regrown, w'' = grow (redrawn W p.d) p.os := fun D os => Calls.regrown_of (H3.out _)
  have c4 : ∀ D os, Calls Try.prog 18 #[] (grow (redrawn W D) os) fun e w'' => e = .returned (.bool true) ∧ ∃ p : Regrown, w'' = grow (redrawn W p.d) p.os := fun D os => Calls.regrown_of (H4.out _)
  refine wp_region_quiet_below (by kernel_rfl) (by kernel_rfl) ?_
  repeat (quiet_step (first | with_reducible exact c1 _ _ | with_reducible exact c2 _ _ | with_reducible exact c3 _ _ | with_reducible exact c4 _ _))
  refine wpQuiet_nil ?_
  rintro _ ⟨⟨dq, osq⟩, rfl⟩
  have hb := below_regrown W dq osq
  generalize grow (redrawn W dq) osq = w' at *
  go_wp2
  go_ret
  exact ⟨rfl, below_step hB hb⟩

end Go.Proofs.Ytknnobijdojjhaa
