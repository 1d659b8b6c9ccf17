/-
  Contracts of gauss.Add, Sub, Mul, May and of the document's Add and Neg, out of their callees'. Conditions: none.
-/
import Derived.Test.YtknnobijdojjhaaEq
namespace Go.Proofs.Ytknnobijdojjhaa
open Go.RowKit Go.Sort


set_option maxHeartbeats 1000000 in
theorem add_core (a b c d x y : Int) (p q r s f g : Nat) (w : World)
    (hop : ∀ t w, (binOp .add t (zv p q) (zv r s)).run Try.prog w = .ok (zv f g) w)
    (H0 : Hid (∀ w, Calls Try.prog 31 #[cv a b] w fun e w' => e = .returned (zv p q) ∧ Below w.heap.size w w'))
    (H1 : Hid (∀ w, Calls Try.prog 31 #[cv c d] w fun e w' => e = .returned (zv r s) ∧ Below w.heap.size w w'))
    (H2 : Hid (∀ w, Calls Try.prog 30 #[zv f g] w fun e w' => e = .returned (cv x y) ∧ Below w.heap.size w w'))
    : Calls Try.prog 12 #[cv a b, cv c d] w fun e w' => e = .returned (cv x y) ∧ Below w.heap.size w w' := by
  go_enter Try.func12, Try.ntmps12
  go_wp2_with fail
  obtain ⟨W, hW⟩ : ∃ W, W = (((w.alloc (Obj.cells #[Value.int IntKind.i64 a, Value.int IntKind.i64 b] 23)).alloc (Obj.cells #[Value.int IntKind.i64 c, Value.int IntKind.i64 d] 23)).alloc (Obj.cells #[Value.int IntKind.i64 0, Value.int IntKind.i64 0] 23)) := ⟨_, rfl⟩
  have hB : Below w.heap.size w W := by rw [hW]; go_grown
  have hz : W.heap.size = w.heap.size + 1 + 1 + 1 := by rw [hW]; simp
  rw [← hW]
  have k00 := fun D os => cell_regrown (w := W) (a := ⟨w.heap.size, 0, none⟩) (v := .int .i64 a) (by rw [hW]; simp [go_sem]) D os
  have k01 := fun D os => cell_regrown (w := W) (a := ⟨w.heap.size, 1, none⟩) (v := .int .i64 b) (by rw [hW]; simp [go_sem]) D os
  have k10 := fun D os => cell_regrown (w := W) (a := ⟨w.heap.size + 1, 0, none⟩) (v := .int .i64 c) (by rw [hW]; simp [go_sem]) D os
  have k11 := fun D os => cell_regrown (w := W) (a := ⟨w.heap.size + 1, 1, none⟩) (v := .int .i64 d) (by rw [hW]; simp [go_sem]) D os
  have c0 : ∀ D os, Calls Try.prog 31 #[cv a b] (grow (redrawn W D) os) fun e w'' => e = .returned (zv p q) ∧ ∃ p : Regrown, w'' = grow (redrawn W p.d) p.os := fun D os => Calls.regrown_of (H0.out _)
  have c1 : ∀ D os, Calls Try.prog 31 #[cv c d] (grow (redrawn W D) os) fun e w'' => e = .returned (zv r s) ∧ ∃ p : Regrown, w'' = grow (redrawn W p.d) p.os := fun D os => Calls.regrown_of (H1.out _)
  have c2 : ∀ D os, Calls Try.prog 30 #[zv f g] (grow (redrawn W D) os) fun e w'' => e = .returned (cv x y) ∧ ∃ p : Regrown, w'' = grow (redrawn W p.d) p.os := fun D os => Calls.regrown_of (H2.out _)
  have e0 := fun w' (h : Below W.heap.size W w') => show w'.cell? ⟨w.heap.size + 1 + 1, 0, none⟩ = some (.int .i64 0) by rw [(bcell h).1 _ _ (by omega), hW]; simp [go_sem]
  have e1 := fun w' (h : Below W.heap.size W w') => show w'.cell? ⟨w.heap.size + 1 + 1, 1, none⟩ = some (.int .i64 0) by rw [(bcell h).1 _ _ (by omega), hW]; simp [go_sem]
  have e2 := fun w' (h : Below W.heap.size W w') o => show w'.frozen? ⟨w.heap.size + 1 + 1, o, none⟩ = false by rw [(bcell h).2 _ _ (by omega), hW]; simp [go_sem]
  clear hW
  refine region_tail_below 6 (by kernel_rfl) (by kernel_rfl) ?_
  simp only [List.take_succ_cons, List.take_zero, List.drop_succ_cons, List.drop_zero]
  repeat (quiet_step (first | with_reducible exact c0 _ _ | with_reducible exact c1 _ _ | with_reducible exact c2 _ _))
  refine wpQuiet_nil ?_
  rintro _ ⟨⟨dq, osq⟩, rfl⟩
  have hb := below_regrown W dq osq
  generalize grow (redrawn W dq) osq = w' at *
  have f0 := e0 _ hb
  have f1 := e1 _ hb
  have f2 := e2 _ hb
  clear e0 e1 e2 k00 k01 k10 k11 c0 c1 c2
  have hbb := below_step hB hb
  go_wp2
  refine bodyPost_ret (v := cv x y) (by simp [results, Try.results12, go_sem, f0, f1]) rfl ⟨rfl, ?_⟩
  go_grown

set_option maxHeartbeats 1000000 in
theorem sub_core (a b c d x y : Int) (p q r s f g : Nat) (w : World)
    (hop : ∀ t w, (binOp .sub t (zv p q) (zv r s)).run Try.prog w = .ok (zv f g) w)
    (H0 : Hid (∀ w, Calls Try.prog 31 #[cv a b] w fun e w' => e = .returned (zv p q) ∧ Below w.heap.size w w'))
    (H1 : Hid (∀ w, Calls Try.prog 31 #[cv c d] w fun e w' => e = .returned (zv r s) ∧ Below w.heap.size w w'))
    (H2 : Hid (∀ w, Calls Try.prog 30 #[zv f g] w fun e w' => e = .returned (cv x y) ∧ Below w.heap.size w w'))
    : Calls Try.prog 14 #[cv a b, cv c d] w fun e w' => e = .returned (cv x y) ∧ Below w.heap.size w w' := by
  go_enter Try.func14, Try.ntmps14
  go_wp2_with fail
  obtain ⟨W, hW⟩ : ∃ W, W = (((w.alloc (Obj.cells #[Value.int IntKind.i64 a, Value.int IntKind.i64 b] 23)).alloc (Obj.cells #[Value.int IntKind.i64 c, Value.int IntKind.i64 d] 23)).alloc (Obj.cells #[Value.int IntKind.i64 0, Value.int IntKind.i64 0] 23)) := ⟨_, rfl⟩
  have hB : Below w.heap.size w W := by rw [hW]; go_grown
  have hz : W.heap.size = w.heap.size + 1 + 1 + 1 := by rw [hW]; simp
  rw [← hW]
  have k00 := fun D os => cell_regrown (w := W) (a := ⟨w.heap.size, 0, none⟩) (v := .int .i64 a) (by rw [hW]; simp [go_sem]) D os
  have k01 := fun D os => cell_regrown (w := W) (a := ⟨w.heap.size, 1, none⟩) (v := .int .i64 b) (by rw [hW]; simp [go_sem]) D os
  have k10 := fun D os => cell_regrown (w := W) (a := ⟨w.heap.size + 1, 0, none⟩) (v := .int .i64 c) (by rw [hW]; simp [go_sem]) D os
  have k11 := fun D os => cell_regrown (w := W) (a := ⟨w.heap.size + 1, 1, none⟩) (v := .int .i64 d) (by rw [hW]; simp [go_sem]) D os
  have c0 : ∀ D os, Calls Try.prog 31 #[cv a b] (grow (redrawn W D) os) fun e w'' => e = .returned (zv p q) ∧ ∃ p : Regrown, w'' = grow (redrawn W p.d) p.os := fun D os => Calls.regrown_of (H0.out _)
  have c1 : ∀ D os, Calls Try.prog 31 #[cv c d] (grow (redrawn W D) os) fun e w'' => e = .returned (zv r s) ∧ ∃ p : Regrown, w'' = grow (redrawn W p.d) p.os := fun D os => Calls.regrown_of (H1.out _)
  have c2 : ∀ D os, Calls Try.prog 30 #[zv f g] (grow (redrawn W D) os) fun e w'' => e = .returned (cv x y) ∧ ∃ p : Regrown, w'' = grow (redrawn W p.d) p.os := fun D os => Calls.regrown_of (H2.out _)
  have e0 := fun w' (h : Below W.heap.size W w') => show w'.cell? ⟨w.heap.size + 1 + 1, 0, none⟩ = some (.int .i64 0) by rw [(bcell h).1 _ _ (by omega), hW]; simp [go_sem]
  have e1 := fun w' (h : Below W.heap.size W w') => show w'.cell? ⟨w.heap.size + 1 + 1, 1, none⟩ = some (.int .i64 0) by rw [(bcell h).1 _ _ (by omega), hW]; simp [go_sem]
  have e2 := fun w' (h : Below W.heap.size W w') o => show w'.frozen? ⟨w.heap.size + 1 + 1, o, none⟩ = false by rw [(bcell h).2 _ _ (by omega), hW]; simp [go_sem]
  clear hW
  refine region_tail_below 6 (by kernel_rfl) (by kernel_rfl) ?_
  simp only [List.take_succ_cons, List.take_zero, List.drop_succ_cons, List.drop_zero]
  repeat (quiet_step (first | with_reducible exact c0 _ _ | with_reducible exact c1 _ _ | with_reducible exact c2 _ _))
  refine wpQuiet_nil ?_
  rintro _ ⟨⟨dq, osq⟩, rfl⟩
  have hb := below_regrown W dq osq
  generalize grow (redrawn W dq) osq = w' at *
  have f0 := e0 _ hb
  have f1 := e1 _ hb
  have f2 := e2 _ hb
  clear e0 e1 e2 k00 k01 k10 k11 c0 c1 c2
  have hbb := below_step hB hb
  go_wp2
  refine bodyPost_ret (v := cv x y) (by simp [results, Try.results14, go_sem, f0, f1]) rfl ⟨rfl, ?_⟩
  go_grown

set_option maxHeartbeats 1000000 in
theorem mul_core (a b c d x y : Int) (p q r s f g : Nat) (w : World)
    (hop : ∀ t w, (binOp .mul t (zv p q) (zv r s)).run Try.prog w = .ok (zv f g) w)
    (H0 : Hid (∀ w, Calls Try.prog 31 #[cv a b] w fun e w' => e = .returned (zv p q) ∧ Below w.heap.size w w'))
    (H1 : Hid (∀ w, Calls Try.prog 31 #[cv c d] w fun e w' => e = .returned (zv r s) ∧ Below w.heap.size w w'))
    (H2 : Hid (∀ w, Calls Try.prog 30 #[zv f g] w fun e w' => e = .returned (cv x y) ∧ Below w.heap.size w w'))
    : Calls Try.prog 19 #[cv a b, cv c d] w fun e w' => e = .returned (cv x y) ∧ Below w.heap.size w w' := by
  go_enter Try.func19, Try.ntmps19
  go_wp2_with fail
  obtain ⟨W, hW⟩ : ∃ W, W = (((w.alloc (Obj.cells #[Value.int IntKind.i64 a, Value.int IntKind.i64 b] 23)).alloc (Obj.cells #[Value.int IntKind.i64 c, Value.int IntKind.i64 d] 23)).alloc (Obj.cells #[Value.int IntKind.i64 0, Value.int IntKind.i64 0] 23)) := ⟨_, rfl⟩
  have hB : Below w.heap.size w W := by rw [hW]; go_grown
  have hz : W.heap.size = w.heap.size + 1 + 1 + 1 := by rw [hW]; simp
  rw [← hW]
  have k00 := fun D os => cell_regrown (w := W) (a := ⟨w.heap.size, 0, none⟩) (v := .int .i64 a) (by rw [hW]; simp [go_sem]) D os
  have k01 := fun D os => cell_regrown (w := W) (a := ⟨w.heap.size, 1, none⟩) (v := .int .i64 b) (by rw [hW]; simp [go_sem]) D os
  have k10 := fun D os => cell_regrown (w := W) (a := ⟨w.heap.size + 1, 0, none⟩) (v := .int .i64 c) (by rw [hW]; simp [go_sem]) D os
  have k11 := fun D os => cell_regrown (w := W) (a := ⟨w.heap.size + 1, 1, none⟩) (v := .int .i64 d) (by rw [hW]; simp [go_sem]) D os
  have c0 : ∀ D os, Calls Try.prog 31 #[cv a b] (grow (redrawn W D) os) fun e w'' => e = .returned (zv p q) ∧ ∃ p : Regrown, w'' = grow (redrawn W p.d) p.os := fun D os => Calls.regrown_of (H0.out _)
  have c1 : ∀ D os, Calls Try.prog 31 #[cv c d] (grow (redrawn W D) os) fun e w'' => e = .returned (zv r s) ∧ ∃ p : Regrown, w'' = grow (redrawn W p.d) p.os := fun D os => Calls.regrown_of (H1.out _)
  have c2 : ∀ D os, Calls Try.prog 30 #[zv f g] (grow (redrawn W D) os) fun e w'' => e = .returned (cv x y) ∧ ∃ p : Regrown, w'' = grow (redrawn W p.d) p.os := fun D os => Calls.regrown_of (H2.out _)
  have e0 := fun w' (h : Below W.heap.size W w') => show w'.cell? ⟨w.heap.size + 1 + 1, 0, none⟩ = some (.int .i64 0) by rw [(bcell h).1 _ _ (by omega), hW]; simp [go_sem]
  have e1 := fun w' (h : Below W.heap.size W w') => show w'.cell? ⟨w.heap.size + 1 + 1, 1, none⟩ = some (.int .i64 0) by rw [(bcell h).1 _ _ (by omega), hW]; simp [go_sem]
  have e2 := fun w' (h : Below W.heap.size W w') o => show w'.frozen? ⟨w.heap.size + 1 + 1, o, none⟩ = false by rw [(bcell h).2 _ _ (by omega), hW]; simp [go_sem]
  clear hW
  refine region_tail_below 6 (by kernel_rfl) (by kernel_rfl) ?_
  simp only [List.take_succ_cons, List.take_zero, List.drop_succ_cons, List.drop_zero]
  repeat (quiet_step (first | with_reducible exact c0 _ _ | with_reducible exact c1 _ _ | with_reducible exact c2 _ _))
  refine wpQuiet_nil ?_
  rintro _ ⟨⟨dq, osq⟩, rfl⟩
  have hb := below_regrown W dq osq
  generalize grow (redrawn W dq) osq = w' at *
  have f0 := e0 _ hb
  have f1 := e1 _ hb
  have f2 := e2 _ hb
  clear e0 e1 e2 k00 k01 k10 k11 c0 c1 c2
  have hbb := below_step hB hb
  go_wp2
  refine bodyPost_ret (v := cv x y) (by simp [results, Try.results19, go_sem, f0, f1]) rfl ⟨rfl, ?_⟩
  go_grown

set_option maxHeartbeats 1000000 in
theorem rneg_core (a b x y m n p q : Int) (w : World)
    (h1 : IntKind.i64.wrap (-x) = m)
    (h2 : IntKind.i64.wrap (-y) = n)
    (H0 : Hid (∀ w, Calls Try.prog 11 #[.int .i64 a] w fun e w' => e = .returned (.int .i64 x) ∧ Below w.heap.size w w'))
    (H1 : Hid (∀ w, Calls Try.prog 11 #[.int .i64 b] w fun e w' => e = .returned (.int .i64 y) ∧ Below w.heap.size w w'))
    (H2 : Hid (∀ w, Calls Try.prog 10 #[.int .i64 m, .int .i64 n] w fun e w' => e = .returned (cv p q) ∧ Below w.heap.size w w'))
    : Calls Try.prog 15 #[cv a b] w fun e w' => e = .returned (cv p q) ∧ Below w.heap.size w w' := by
  go_enter Try.func15, Try.ntmps15
  go_wp2_with fail
  obtain ⟨W, hW⟩ : ∃ W, W = ((w.alloc (Obj.cells #[Value.int IntKind.i64 a, Value.int IntKind.i64 b] 23)).alloc (Obj.cells #[Value.int IntKind.i64 0, Value.int IntKind.i64 0] 23)) := ⟨_, rfl⟩
  have hB : Below w.heap.size w W := by rw [hW]; go_grown
  have hz : W.heap.size = w.heap.size + 1 + 1 := by rw [hW]; simp
  rw [← hW]
  have k00 := fun D os => cell_regrown (w := W) (a := ⟨w.heap.size, 0, none⟩) (v := .int .i64 a) (by rw [hW]; simp [go_sem]) D os
  have k01 := fun D os => cell_regrown (w := W) (a := ⟨w.heap.size, 1, none⟩) (v := .int .i64 b) (by rw [hW]; simp [go_sem]) D os
  have c0 : ∀ D os, Calls Try.prog 11 #[.int .i64 a] (grow (redrawn W D) os) fun e w'' => e = .returned (.int .i64 x) ∧ ∃ p : Regrown, w'' = grow (redrawn W p.d) p.os := fun D os => Calls.regrown_of (H0.out _)
  have c1 : ∀ D os, Calls Try.prog 11 #[.int .i64 b] (grow (redrawn W D) os) fun e w'' => e = .returned (.int .i64 y) ∧ ∃ p : Regrown, w'' = grow (redrawn W p.d) p.os := fun D os => Calls.regrown_of (H1.out _)
  have c2 : ∀ D os, Calls Try.prog 10 #[.int .i64 m, .int .i64 n] (grow (redrawn W D) os) fun e w'' => e = .returned (cv p q) ∧ ∃ p : Regrown, w'' = grow (redrawn W p.d) p.os := fun D os => Calls.regrown_of (H2.out _)
  have e0 := fun w' (h : Below W.heap.size W w') => show w'.cell? ⟨w.heap.size + 1, 0, none⟩ = some (.int .i64 0) by rw [(bcell h).1 _ _ (by omega), hW]; simp [go_sem]
  have e1 := fun w' (h : Below W.heap.size W w') => show w'.cell? ⟨w.heap.size + 1, 1, none⟩ = some (.int .i64 0) by rw [(bcell h).1 _ _ (by omega), hW]; simp [go_sem]
  have e2 := fun w' (h : Below W.heap.size W w') o => show w'.frozen? ⟨w.heap.size + 1, o, none⟩ = false by rw [(bcell h).2 _ _ (by omega), hW]; simp [go_sem]
  clear hW
  refine region_tail_below 9 (by kernel_rfl) (by kernel_rfl) ?_
  simp only [List.take_succ_cons, List.take_zero, List.drop_succ_cons, List.drop_zero]
  repeat (quiet_step (first | with_reducible exact c0 _ _ | with_reducible exact c1 _ _ | with_reducible exact c2 _ _))
  refine wpQuiet_nil ?_
  rintro _ ⟨⟨dq, osq⟩, rfl⟩
  have hb := below_regrown W dq osq
  generalize grow (redrawn W dq) osq = w' at *
  have f0 := e0 _ hb
  have f1 := e1 _ hb
  have f2 := e2 _ hb
  clear e0 e1 e2 k00 k01 c0 c1 c2
  have hbb := below_step hB hb
  go_wp2
  refine bodyPost_ret (v := cv p q) (by simp [results, Try.results15, go_sem, f0, f1]) rfl ⟨rfl, ?_⟩
  go_grown

set_option maxHeartbeats 1000000 in
theorem radd_core (a b c d x y z v m n p q : Int) (w : World)
    (h1 : IntKind.i64.wrap (x + y) = m)
    (h2 : IntKind.i64.wrap (z + v) = n)
    (H0 : Hid (∀ w, Calls Try.prog 11 #[.int .i64 a] w fun e w' => e = .returned (.int .i64 x) ∧ Below w.heap.size w w'))
    (H1 : Hid (∀ w, Calls Try.prog 11 #[.int .i64 c] w fun e w' => e = .returned (.int .i64 y) ∧ Below w.heap.size w w'))
    (H2 : Hid (∀ w, Calls Try.prog 11 #[.int .i64 b] w fun e w' => e = .returned (.int .i64 z) ∧ Below w.heap.size w w'))
    (H3 : Hid (∀ w, Calls Try.prog 11 #[.int .i64 d] w fun e w' => e = .returned (.int .i64 v) ∧ Below w.heap.size w w'))
    (H4 : Hid (∀ w, Calls Try.prog 10 #[.int .i64 m, .int .i64 n] w fun e w' => e = .returned (cv p q) ∧ Below w.heap.size w w'))
    : Calls Try.prog 13 #[cv a b, cv c d] w fun e w' => e = .returned (cv p q) ∧ Below w.heap.size w w' := by
  go_enter Try.func13, Try.ntmps13
  go_wp2_with fail
  obtain ⟨W, hW⟩ : ∃ W, W = (((w.alloc (Obj.cells #[Value.int IntKind.i64 a, Value.int IntKind.i64 b] 23)).alloc (Obj.cells #[Value.int IntKind.i64 c, Value.int IntKind.i64 d] 23)).alloc (Obj.cells #[Value.int IntKind.i64 0, Value.int IntKind.i64 0] 23)) := ⟨_, rfl⟩
  have hB : Below w.heap.size w W := by rw [hW]; go_grown
  have hz : W.heap.size = w.heap.size + 1 + 1 + 1 := by rw [hW]; simp
  rw [← hW]
  have k00 := fun D os => cell_regrown (w := W) (a := ⟨w.heap.size, 0, none⟩) (v := .int .i64 a) (by rw [hW]; simp [go_sem]) D os
  have k01 := fun D os => cell_regrown (w := W) (a := ⟨w.heap.size, 1, none⟩) (v := .int .i64 b) (by rw [hW]; simp [go_sem]) D os
  have k10 := fun D os => cell_regrown (w := W) (a := ⟨w.heap.size + 1, 0, none⟩) (v := .int .i64 c) (by rw [hW]; simp [go_sem]) D os
  have k11 := fun D os => cell_regrown (w := W) (a := ⟨w.heap.size + 1, 1, none⟩) (v := .int .i64 d) (by rw [hW]; simp [go_sem]) D os
  have c0 : ∀ D os, Calls Try.prog 11 #[.int .i64 a] (grow (redrawn W D) os) fun e w'' => e = .returned (.int .i64 x) ∧ ∃ p : Regrown, w'' = grow (redrawn W p.d) p.os := fun D os => Calls.regrown_of (H0.out _)
  have c1 : ∀ D os, Calls Try.prog 11 #[.int .i64 c] (grow (redrawn W D) os) fun e w'' => e = .returned (.int .i64 y) ∧ ∃ p : Regrown, w'' = grow (redrawn W p.d) p.os := fun D os => Calls.regrown_of (H1.out _)
  have c2 : ∀ D os, Calls Try.prog 11 #[.int .i64 b] (grow (redrawn W D) os) fun e w'' => e = .returned (.int .i64 z) ∧ ∃ p : Regrown, w'' = grow (redrawn W p.d) p.os := fun D os => Calls.regrown_of (H2.out _)
  have c3 : ∀ D os, Calls Try.prog 11 #[.int .i64 d] (grow (redrawn W D) os) fun e w'' => e = .returned (.int .i64 v) ∧ ∃ p : Regrown, w'' = grow (redrawn W p.d) p.os := fun D os => Calls.regrown_of (H3.out _)
  have c4 : ∀ D os, Calls Try.prog 10 #[.int .i64 m, .int .i64 n] (grow (redrawn W D) os) fun e w'' => e = .returned (cv p q) ∧ ∃ p : Regrown, w'' = grow (redrawn W p.d) p.os := fun D os => Calls.regrown_of (H4.out _)
  have e0 := fun w' (h : Below W.heap.size W w') => show w'.cell? ⟨w.heap.size + 1 + 1, 0, none⟩ = some (.int .i64 0) by rw [(bcell h).1 _ _ (by omega), hW]; simp [go_sem]
  have e1 := fun w' (h : Below W.heap.size W w') => show w'.cell? ⟨w.heap.size + 1 + 1, 1, none⟩ = some (.int .i64 0) by rw [(bcell h).1 _ _ (by omega), hW]; simp [go_sem]
  have e2 := fun w' (h : Below W.heap.size W w') o => show w'.frozen? ⟨w.heap.size + 1 + 1, o, none⟩ = false by rw [(bcell h).2 _ _ (by omega), hW]; simp [go_sem]
  clear hW
  refine region_tail_below 15 (by kernel_rfl) (by kernel_rfl) ?_
  simp only [List.take_succ_cons, List.take_zero, List.drop_succ_cons, List.drop_zero]
  repeat (quiet_step (first | with_reducible exact c0 _ _ | with_reducible exact c1 _ _ | with_reducible exact c2 _ _ | with_reducible exact c3 _ _ | with_reducible exact c4 _ _))
  refine wpQuiet_nil ?_
  rintro _ ⟨⟨dq, osq⟩, rfl⟩
  have hb := below_regrown W dq osq
  generalize grow (redrawn W dq) osq = w' at *
  have f0 := e0 _ hb
  have f1 := e1 _ hb
  have f2 := e2 _ hb
  clear e0 e1 e2 k00 k01 k10 k11 c0 c1 c2 c3 c4
  have hbb := below_step hB hb
  go_wp2
  refine bodyPost_ret (v := cv p q) (by simp [results, Try.results13, go_sem, f0, f1]) rfl ⟨rfl, ?_⟩
  go_grown

set_option maxHeartbeats 1000000 in
theorem may_core (a b x y : Int) (t : Bool) (w : World)
    (hE : ∀ w, (binOp .eql 23 (cv a b) (cv x y)).run Try.prog w = .ok (.bool t) w)
    (hG : ∀ op o1 o2 w, (eqGuard op 23 o1 o2 (cv a b) (cv x y)).run Try.prog w = .ok () w)
    (H0 : Hid (∀ w, Calls Try.prog 23 #[.int .i64 a, .int .i64 b] w fun e w' => e = .returned (cv x y) ∧ Below w.heap.size w w'))
    : Calls Try.prog 24 #[cv a b] w fun e w' => e = .returned (.bool t) ∧ Below w.heap.size w w' := by
  go_enter Try.func24, Try.ntmps24
  go_wp2_with fail
  obtain ⟨W, hW⟩ : ∃ W, W = (w.alloc (Obj.cells #[Value.int IntKind.i64 a, Value.int IntKind.i64 b] 23)) := ⟨_, rfl⟩
  have hB : Below w.heap.size w W := by rw [hW]; go_grown
  have hz : W.heap.size = w.heap.size + 1 := by rw [hW]; simp
  rw [← hW]
  have k00 := fun D os => cell_regrown (w := W) (a := ⟨w.heap.size, 0, none⟩) (v := .int .i64 a) (by rw [hW]; simp [go_sem]) D os
  have k01 := fun D os => cell_regrown (w := W) (a := ⟨w.heap.size, 1, none⟩) (v := .int .i64 b) (by rw [hW]; simp [go_sem]) D os
  have c0 : ∀ D os, Calls Try.prog 23 #[.int .i64 a, .int .i64 b] (grow (redrawn W D) os) fun e w'' => e = .returned (cv x y) ∧ ∃ p : Regrown, w'' = grow (redrawn W p.d) p.os := fun D os => Calls.regrown_of (H0.out _)
  clear hW
  refine wp_region_quiet_below (by kernel_rfl) (by kernel_rfl) ?_
  repeat (quiet_step (first | with_reducible exact c0 _ _))
  refine wpQuiet_nil ?_
  rintro _ ⟨⟨dq, osq⟩, rfl⟩
  have hb := below_regrown W dq osq
  generalize grow (redrawn W dq) osq = w' at *
  clear k00 k01 c0
  go_wp2
  go_ret
  exact ⟨rfl, below_step hB hb⟩


end Go.Proofs.Ytknnobijdojjhaa
