/-
  The walk of the law GaussRing out of its callees' contracts. Conditions: those contracts.
-/
import Derived.Test.YtknnobijdojjhaaAw
namespace Go.Proofs.Ytknnobijdojjhaa
open Go.RowKit Go.Sort

set_option maxHeartbeats 2000000 in
theorem ring_core (a b c d e f s s1 q q1 t t1 p p1 r r1 z z1 u u1 v v1 : Int) (w : World)
    (E1 : ∀ w, (binOp .neq 23 (cv s s1) (cv s s1)).run Try.prog w = .ok (.bool false) w)
    (E2 : ∀ w, (binOp .neq 23 (cv p p1) (cv p p1)).run Try.prog w = .ok (.bool false) w)
    (E3 : ∀ w, (binOp .neq 23 (cv t t1) (cv t t1)).run Try.prog w = .ok (.bool false) w)
    (E4 : ∀ w, (binOp .neq 23 (cv u u1) (cv u u1)).run Try.prog w = .ok (.bool false) w)
    (E5 : ∀ w, (binOp .eql 23 (cv v v1) (cv v v1)).run Try.prog w = .ok (.bool true) w)
    (hG : ∀ op o1 o2 a b c d w, (eqGuard op 23 o1 o2 (cv a b) (cv c d)).run Try.prog w = .ok () w)
    (H0 : Hid (∀ w, Calls Try.prog 12 #[cv a b, cv c d] w fun e w' => e = .returned (cv s s1) ∧ Below w.heap.size w w'))
    (H1 : Hid (∀ w, Calls Try.prog 12 #[cv c d, cv a b] w fun e w' => e = .returned (cv s s1) ∧ Below w.heap.size w w'))
    (H2 : Hid (∀ w, Calls Try.prog 19 #[cv a b, cv c d] w fun e w' => e = .returned (cv p p1) ∧ Below w.heap.size w w'))
    (H3 : Hid (∀ w, Calls Try.prog 19 #[cv c d, cv a b] w fun e w' => e = .returned (cv p p1) ∧ Below w.heap.size w w'))
    (H4 : Hid (∀ w, Calls Try.prog 12 #[cv s s1, cv e f] w fun e w' => e = .returned (cv t t1) ∧ Below w.heap.size w w'))
    (H5 : Hid (∀ w, Calls Try.prog 12 #[cv c d, cv e f] w fun e w' => e = .returned (cv q q1) ∧ Below w.heap.size w w'))
    (H6 : Hid (∀ w, Calls Try.prog 12 #[cv a b, cv q q1] w fun e w' => e = .returned (cv t t1) ∧ Below w.heap.size w w'))
    (H7 : Hid (∀ w, Calls Try.prog 19 #[cv p p1, cv e f] w fun e w' => e = .returned (cv u u1) ∧ Below w.heap.size w w'))
    (H8 : Hid (∀ w, Calls Try.prog 19 #[cv c d, cv e f] w fun e w' => e = .returned (cv r r1) ∧ Below w.heap.size w w'))
    (H9 : Hid (∀ w, Calls Try.prog 19 #[cv a b, cv r r1] w fun e w' => e = .returned (cv u u1) ∧ Below w.heap.size w w'))
    (H10 : Hid (∀ w, Calls Try.prog 19 #[cv a b, cv q q1] w fun e w' => e = .returned (cv v v1) ∧ Below w.heap.size w w'))
    (H11 : Hid (∀ w, Calls Try.prog 19 #[cv a b, cv e f] w fun e w' => e = .returned (cv z z1) ∧ Below w.heap.size w w'))
    (H12 : Hid (∀ w, Calls Try.prog 12 #[cv p p1, cv z z1] w fun e w' => e = .returned (cv v v1) ∧ Below w.heap.size w w'))
    (H13 : Hid (∀ w, Calls Try.prog 18 #[] w fun e w' => e = .returned (.bool true) ∧ Below w.heap.size w w'))
    : Calls Try.prog 5 #[cv a b, cv c d, cv e f] w fun e w' => e = .returned (.bool true) ∧ Below w.heap.size w w' := by
  go_enter Try.func5, Try.ntmps5
  go_wp2_with fail
  obtain ⟨W, hW⟩ : ∃ W, W = (((w.alloc (Obj.cells #[Value.int IntKind.i64 a, Value.int IntKind.i64 b] 23)).alloc (Obj.cells #[Value.int IntKind.i64 c, Value.int IntKind.i64 d] 23)).alloc (Obj.cells #[Value.int IntKind.i64 e, Value.int IntKind.i64 f] 23)) := ⟨_, rfl⟩
  have hB : Below w.heap.size w W := by rw [hW]; go_grown
  rw [← hW]
  have g00 : W.cell? ⟨w.heap.size, 0, none⟩ = some (.int .i64 a) := by rw [hW]; simp [go_sem]
  have g01 : W.cell? ⟨w.heap.size, 1, none⟩ = some (.int .i64 b) := by rw [hW]; simp [go_sem]
  have g10 : W.cell? ⟨w.heap.size + 1, 0, none⟩ = some (.int .i64 c) := by rw [hW]; simp [go_sem]
  have g11 : W.cell? ⟨w.heap.size + 1, 1, none⟩ = some (.int .i64 d) := by rw [hW]; simp [go_sem]
  have g20 : W.cell? ⟨w.heap.size + 1 + 1, 0, none⟩ = some (.int .i64 e) := by rw [hW]; simp [go_sem]
  have g21 : W.cell? ⟨w.heap.size + 1 + 1, 1, none⟩ = some (.int .i64 f) := by rw [hW]; simp [go_sem]
  clear hW
  have k00 := fun D os => cell_regrown g00 D os
  have k01 := fun D os => cell_regrown g01 D os
  have k10 := fun D os => cell_regrown g10 D os
  have k11 := fun D os => cell_regrown g11 D os
  have k20 := fun D os => cell_regrown g20 D os
  have k21 := fun D os => cell_regrown g21 D os
  have c0 : ∀ D os, Calls Try.prog 12 #[cv a b, cv c d] (grow (redrawn W D) os) fun e w'' => e = .returned (cv s s1) ∧ ∃ p : Regrown, w'' = grow (redrawn W p.d) p.os := fun D os => Calls.regrown_of (H0.out _)
  have c1 : ∀ D os, Calls Try.prog 12 #[cv c d, cv a b] (grow (redrawn W D) os) fun e w'' => e = .returned (cv s s1) ∧ ∃ p : Regrown, w'' = grow (redrawn W p.d) p.os := fun D os => Calls.regrown_of (H1.out _)
  have c2 : ∀ D os, Calls Try.prog 19 #[cv a b, cv c d] (grow (redrawn W D) os) fun e w'' => e = .returned (cv p p1) ∧ ∃ p : Regrown, w'' = grow (redrawn W p.d) p.os := fun D os => Calls.regrown_of (H2.out _)
  have c3 : ∀ D os, Calls Try.prog 19 #[cv c d, cv a b] (grow (redrawn W D) os) fun e w'' => e = .returned (cv p p1) ∧ ∃ p : Regrown, w'' = grow (redrawn W p.d) p.os := fun D os => Calls.regrown_of (H3.out _)
  have c4 : ∀ D os, Calls Try.prog 12 #[cv s s1, cv e f] (grow (redrawn W D) os) fun e w'' => e = .returned (cv t t1) ∧ ∃ p : Regrown, w'' = grow (redrawn W p.d) p.os := fun D os => Calls.regrown_of (H4.out _)
  have c5 : ∀ D os, Calls Try.prog 12 #[cv c d, cv e f] (grow (redrawn W D) os) fun e w'' => e = .returned (cv q q1) ∧ ∃ p : Regrown, w'' = grow (redrawn W p.d) p.os := fun D os => Calls.regrown_of (H5.out _)
  have c6 : ∀ D os, Calls Try.prog 12 #[cv a b, cv q q1] (grow (redrawn W D) os) fun e w'' => e = .returned (cv t t1) ∧ ∃ p : Regrown, w'' = grow (redrawn W p.d) p.os := fun D os => Calls.regrown_of (H6.out _)
  have c7 : ∀ D os, Calls Try.prog 19 #[cv p p1, cv e f] (grow (redrawn W D) os) fun e w'' => e = .returned (cv u u1) ∧ ∃ p : Regrown, w'' = grow (redrawn W p.d) p.os := fun D os => Calls.regrown_of (H7.out _)
  have c8 : ∀ D os, Calls Try.prog 19 #[cv c d, cv e f] (grow (redrawn W D) os) fun e w'' => e = .returned (cv r r1) ∧ ∃ p : Regrown, w'' = grow (redrawn W p.d) p.os := fun D os => Calls.regrown_of (H8.out _)
  have c9 : ∀ D os, Calls Try.prog 19 #[cv a b, cv r r1] (grow (redrawn W D) os) fun e w'' => e = .returned (cv u u1) ∧ ∃ p : Regrown, w'' = grow (redrawn W p.d) p.os := fun D os => Calls.regrown_of (H9.out _)
  refine wp_region_quiet_below (by kernel_rfl) (by kernel_rfl) ?_
  repeat (quiet_step (first | with_reducible exact c0 _ _ | with_reducible exact c1 _ _ | with_reducible exact c2 _ _ | with_reducible exact c3 _ _ | with_reducible exact c4 _ _ | with_reducible exact c5 _ _ | with_reducible exact c6 _ _ | with_reducible exact c7 _ _ | with_reducible exact c8 _ _ | with_reducible exact c9 _ _))
  refine wpQuiet_nil ?_
  rintro _ ⟨⟨dq, osq⟩, rfl⟩
  have hb := below_regrown W dq osq
  clear k00 k01 k10 k11 k20 k21 c0 c1 c2 c3 c4 c5 c6 c7 c8 c9
  generalize grow (redrawn W dq) osq = V at *
  replace g00 := cell_carry hb g00
  replace g01 := cell_carry hb g01
  replace g10 := cell_carry hb g10
  replace g11 := cell_carry hb g11
  replace g20 := cell_carry hb g20
  replace g21 := cell_carry hb g21
  replace hB := below_step hB hb
  clear hb W
  go_wp2_with fail
  have k00 := fun D os => cell_regrown g00 D os
  have k01 := fun D os => cell_regrown g01 D os
  have k10 := fun D os => cell_regrown g10 D os
  have k11 := fun D os => cell_regrown g11 D os
  have k20 := fun D os => cell_regrown g20 D os
  have k21 := fun D os => cell_regrown g21 D os
  have c2 : ∀ D os, Calls Try.prog 19 #[cv a b, cv c d] (grow (redrawn V D) os) fun e w'' => e = .returned (cv p p1) ∧ ∃ p : Regrown, w'' = grow (redrawn V p.d) p.os := fun D os => Calls.regrown_of (H2.out _)
  have c5 : ∀ D os, Calls Try.prog 12 #[cv c d, cv e f] (grow (redrawn V D) os) fun e w'' => e = .returned (cv q q1) ∧ ∃ p : Regrown, w'' = grow (redrawn V p.d) p.os := fun D os => Calls.regrown_of (H5.out _)
  have c10 : ∀ D os, Calls Try.prog 19 #[cv a b, cv q q1] (grow (redrawn V D) os) fun e w'' => e = .returned (cv v v1) ∧ ∃ p : Regrown, w'' = grow (redrawn V p.d) p.os := fun D os => Calls.regrown_of (H10.out _)
  have c11 : ∀ D os, Calls Try.prog 19 #[cv a b, cv e f] (grow (redrawn V D) os) fun e w'' => e = .returned (cv z z1) ∧ ∃ p : Regrown, w'' = grow (redrawn V p.d) p.os := fun D os => Calls.regrown_of (H11.out _)
  have c12 : ∀ D os, Calls Try.prog 12 #[cv p p1, cv z z1] (grow (redrawn V D) os) fun e w'' => e = .returned (cv v v1) ∧ ∃ p : Regrown, w'' = grow (redrawn V p.d) p.os := fun D os => Calls.regrown_of (H12.out _)
  have c13 : ∀ D os, Calls Try.prog 18 #[] (grow (redrawn V D) os) fun e w'' => e = .returned (.bool true) ∧ ∃ p : Regrown, w'' = grow (redrawn V p.d) p.os := fun D os => Calls.regrown_of (H13.out _)
  refine wp_region_quiet_below (by kernel_rfl) (by kernel_rfl) ?_
  repeat (quiet_step (first | with_reducible exact c2 _ _ | with_reducible exact c5 _ _ | with_reducible exact c10 _ _ | with_reducible exact c11 _ _ | with_reducible exact c12 _ _ | with_reducible exact c13 _ _))
  refine wpQuiet_nil ?_
  rintro _ ⟨⟨dq, osq⟩, rfl⟩
  have hb := below_regrown V dq osq
  clear k00 k01 k10 k11 k20 k21 c2 c5 c10 c11 c12 c13
  generalize grow (redrawn V dq) osq = w' at *
  go_wp2
  go_ret
  exact ⟨rfl, below_step hB hb⟩

end Go.Proofs.Ytknnobijdojjhaa
