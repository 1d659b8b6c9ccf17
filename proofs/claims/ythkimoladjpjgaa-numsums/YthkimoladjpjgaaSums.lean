/-
  The walk of the law NumSums out of its callees' contracts. Conditions: those contracts.
-/
import Derived.Test.YthkimoladjpjgaaNum
import Derived.Test.YthkimoladjpjgaaDx
namespace Go.Proofs.Ythkimoladjpjgaa
open Go.RowKit Go.Sort

set_option maxHeartbeats 1000000 in
theorem sums_core (a b u v s d n p nv q nu : Int) (w : World)
    (Hu : Hid (∀ w, Calls Try.prog 12 #[.int .i64 a] w fun e w' => e = .returned (dx u) ∧ Below w.heap.size w w'))
    (Hv : Hid (∀ w, Calls Try.prog 12 #[.int .i64 b] w fun e w' => e = .returned (dx v) ∧ Below w.heap.size w w'))
    (Hadd : Hid (∀ w, Calls Try.prog 13 #[.int .i64 a, .int .i64 b] w fun e w' => e = .returned (.int .i64 s) ∧ Below w.heap.size w w'))
    (Hplus1 : Hid (∀ w, Calls Try.prog 14 #[dx u, dx v] w fun e w' => e = .returned (dx p) ∧ Below w.heap.size w w'))
    (Hnum1 : Hid (∀ w, Calls Try.prog 15 #[dx p] w fun e w' => e = .returned (.int .i64 s) ∧ Below w.heap.size w w'))
    (Hsub : Hid (∀ w, Calls Try.prog 16 #[.int .i64 a, .int .i64 b] w fun e w' => e = .returned (.int .i64 d) ∧ Below w.heap.size w w'))
    (HminV : Hid (∀ w, Calls Try.prog 17 #[dx v] w fun e w' => e = .returned (dx nv) ∧ Below w.heap.size w w'))
    (Hplus2 : Hid (∀ w, Calls Try.prog 14 #[dx u, dx nv] w fun e w' => e = .returned (dx q) ∧ Below w.heap.size w w'))
    (Hnum2 : Hid (∀ w, Calls Try.prog 15 #[dx q] w fun e w' => e = .returned (.int .i64 d) ∧ Below w.heap.size w w'))
    (Hneg : Hid (∀ w, Calls Try.prog 18 #[.int .i64 a] w fun e w' => e = .returned (.int .i64 n) ∧ Below w.heap.size w w'))
    (HminU : Hid (∀ w, Calls Try.prog 17 #[dx u] w fun e w' => e = .returned (dx nu) ∧ Below w.heap.size w w'))
    (Hnum3 : Hid (∀ w, Calls Try.prog 15 #[dx nu] w fun e w' => e = .returned (.int .i64 n) ∧ Below w.heap.size w w'))
    (Hawake : Hid (∀ w, Calls Try.prog 19 #[] w fun e w' => e = .returned (.bool true) ∧ Below w.heap.size w w')) :
    Calls Try.prog 3 #[.int .i64 a, .int .i64 b] w fun e w' => e = .returned (.bool true) ∧ Below w.heap.size w w' := by
  go_enter Try.func3, Try.ntmps3
  go_wp2_with fail
  refine (Hu.out _).mono ?_
  rintro e w1 ⟨rfl, hb1⟩
  go_wp2_with fail
  refine (Hv.out _).mono ?_
  rintro e w2 ⟨rfl, hb2⟩
  go_wp2_with fail
  have hB := ((below_step hb1 hb2).alloc (below_step hb1 hb2).size (.cells #[.int .i64 (dg 0 u), .int .i64 (dg 1 u), .int .i64 (dg 2 u), .int .i64 (dg 3 u), .int .i64 (dg 4 u), .int .i64 (dg 5 u), .int .i64 (dg 6 u), .int .i64 (dg 7 u)] 23)).alloc (by have := (below_step hb1 hb2).size; simp; omega) (.cells #[.int .i64 (dg 0 v), .int .i64 (dg 1 v), .int .i64 (dg 2 v), .int .i64 (dg 3 v), .int .i64 (dg 4 v), .int .i64 (dg 5 v), .int .i64 (dg 6 v), .int .i64 (dg 7 v)] 23)
  clear hb1 hb2
  obtain ⟨W, hW⟩ : ∃ W, W = ((w2.alloc (.cells #[.int .i64 (dg 0 u), .int .i64 (dg 1 u), .int .i64 (dg 2 u), .int .i64 (dg 3 u), .int .i64 (dg 4 u), .int .i64 (dg 5 u), .int .i64 (dg 6 u), .int .i64 (dg 7 u)] 23)).alloc (.cells #[.int .i64 (dg 0 v), .int .i64 (dg 1 v), .int .i64 (dg 2 v), .int .i64 (dg 3 v), .int .i64 (dg 4 v), .int .i64 (dg 5 v), .int .i64 (dg 6 v), .int .i64 (dg 7 v)] 23)) := ⟨_, rfl⟩
  rw [← hW] at hB ⊢
  have ku0 := fun d os => cell_regrown (w := W) (a := ⟨w2.heap.size, 0, none⟩) (v := .int .i64 (dg 0 u)) (by rw [hW]; simp) d os
  have kv0 := fun d os => cell_regrown (w := W) (a := ⟨w2.heap.size + 1, 0, none⟩) (v := .int .i64 (dg 0 v)) (by rw [hW]; simp) d os
  have ku1 := fun d os => cell_regrown (w := W) (a := ⟨w2.heap.size, 1, none⟩) (v := .int .i64 (dg 1 u)) (by rw [hW]; simp) d os
  have kv1 := fun d os => cell_regrown (w := W) (a := ⟨w2.heap.size + 1, 1, none⟩) (v := .int .i64 (dg 1 v)) (by rw [hW]; simp) d os
  have ku2 := fun d os => cell_regrown (w := W) (a := ⟨w2.heap.size, 2, none⟩) (v := .int .i64 (dg 2 u)) (by rw [hW]; simp) d os
  have kv2 := fun d os => cell_regrown (w := W) (a := ⟨w2.heap.size + 1, 2, none⟩) (v := .int .i64 (dg 2 v)) (by rw [hW]; simp) d os
  have ku3 := fun d os => cell_regrown (w := W) (a := ⟨w2.heap.size, 3, none⟩) (v := .int .i64 (dg 3 u)) (by rw [hW]; simp) d os
  have kv3 := fun d os => cell_regrown (w := W) (a := ⟨w2.heap.size + 1, 3, none⟩) (v := .int .i64 (dg 3 v)) (by rw [hW]; simp) d os
  have ku4 := fun d os => cell_regrown (w := W) (a := ⟨w2.heap.size, 4, none⟩) (v := .int .i64 (dg 4 u)) (by rw [hW]; simp) d os
  have kv4 := fun d os => cell_regrown (w := W) (a := ⟨w2.heap.size + 1, 4, none⟩) (v := .int .i64 (dg 4 v)) (by rw [hW]; simp) d os
  have ku5 := fun d os => cell_regrown (w := W) (a := ⟨w2.heap.size, 5, none⟩) (v := .int .i64 (dg 5 u)) (by rw [hW]; simp) d os
  have kv5 := fun d os => cell_regrown (w := W) (a := ⟨w2.heap.size + 1, 5, none⟩) (v := .int .i64 (dg 5 v)) (by rw [hW]; simp) d os
  have ku6 := fun d os => cell_regrown (w := W) (a := ⟨w2.heap.size, 6, none⟩) (v := .int .i64 (dg 6 u)) (by rw [hW]; simp) d os
  have kv6 := fun d os => cell_regrown (w := W) (a := ⟨w2.heap.size + 1, 6, none⟩) (v := .int .i64 (dg 6 v)) (by rw [hW]; simp) d os
  have ku7 := fun d os => cell_regrown (w := W) (a := ⟨w2.heap.size, 7, none⟩) (v := .int .i64 (dg 7 u)) (by rw [hW]; simp) d os
  have kv7 := fun d os => cell_regrown (w := W) (a := ⟨w2.heap.size + 1, 7, none⟩) (v := .int .i64 (dg 7 v)) (by rw [hW]; simp) d os
  have cHadd : ∀ dd os, Calls Try.prog 13 #[.int .i64 a, .int .i64 b] (grow (redrawn W dd) os) fun e w'' => e = .returned (.int .i64 s) ∧ ∃ p : Regrown, w'' = grow (redrawn W p.d) p.os := fun dd os => Calls.regrown_of (Hadd.out _)
  have cHplus1 : ∀ dd os, Calls Try.prog 14 #[dx u, dx v] (grow (redrawn W dd) os) fun e w'' => e = .returned (dx p) ∧ ∃ p : Regrown, w'' = grow (redrawn W p.d) p.os := fun dd os => Calls.regrown_of (Hplus1.out _)
  have cHnum1 : ∀ dd os, Calls Try.prog 15 #[dx p] (grow (redrawn W dd) os) fun e w'' => e = .returned (.int .i64 s) ∧ ∃ p : Regrown, w'' = grow (redrawn W p.d) p.os := fun dd os => Calls.regrown_of (Hnum1.out _)
  have cHsub : ∀ dd os, Calls Try.prog 16 #[.int .i64 a, .int .i64 b] (grow (redrawn W dd) os) fun e w'' => e = .returned (.int .i64 d) ∧ ∃ p : Regrown, w'' = grow (redrawn W p.d) p.os := fun dd os => Calls.regrown_of (Hsub.out _)
  have cHminV : ∀ dd os, Calls Try.prog 17 #[dx v] (grow (redrawn W dd) os) fun e w'' => e = .returned (dx nv) ∧ ∃ p : Regrown, w'' = grow (redrawn W p.d) p.os := fun dd os => Calls.regrown_of (HminV.out _)
  have cHplus2 : ∀ dd os, Calls Try.prog 14 #[dx u, dx nv] (grow (redrawn W dd) os) fun e w'' => e = .returned (dx q) ∧ ∃ p : Regrown, w'' = grow (redrawn W p.d) p.os := fun dd os => Calls.regrown_of (Hplus2.out _)
  have cHnum2 : ∀ dd os, Calls Try.prog 15 #[dx q] (grow (redrawn W dd) os) fun e w'' => e = .returned (.int .i64 d) ∧ ∃ p : Regrown, w'' = grow (redrawn W p.d) p.os := fun dd os => Calls.regrown_of (Hnum2.out _)
  have cHneg : ∀ dd os, Calls Try.prog 18 #[.int .i64 a] (grow (redrawn W dd) os) fun e w'' => e = .returned (.int .i64 n) ∧ ∃ p : Regrown, w'' = grow (redrawn W p.d) p.os := fun dd os => Calls.regrown_of (Hneg.out _)
  have cHminU : ∀ dd os, Calls Try.prog 17 #[dx u] (grow (redrawn W dd) os) fun e w'' => e = .returned (dx nu) ∧ ∃ p : Regrown, w'' = grow (redrawn W p.d) p.os := fun dd os => Calls.regrown_of (HminU.out _)
  have cHnum3 : ∀ dd os, Calls Try.prog 15 #[dx nu] (grow (redrawn W dd) os) fun e w'' => e = .returned (.int .i64 n) ∧ ∃ p : Regrown, w'' = grow (redrawn W p.d) p.os := fun dd os => Calls.regrown_of (Hnum3.out _)
  have cHawake : ∀ dd os, Calls Try.prog 19 #[] (grow (redrawn W dd) os) fun e w'' => e = .returned (.bool true) ∧ ∃ p : Regrown, w'' = grow (redrawn W p.d) p.os := fun dd os => Calls.regrown_of (Hawake.out _)
  clear hW
  refine wp_region_quiet_below (by kernel_rfl) (by kernel_rfl) ?_

  repeat (quiet_step (first | with_reducible exact cHadd _ _ | with_reducible exact cHplus1 _ _ | with_reducible exact cHnum1 _ _ | with_reducible exact cHsub _ _ | with_reducible exact cHminV _ _ | with_reducible exact cHplus2 _ _ | with_reducible exact cHnum2 _ _ | with_reducible exact cHneg _ _ | with_reducible exact cHminU _ _ | with_reducible exact cHnum3 _ _ | with_reducible exact cHawake _ _))

  refine wpQuiet_nil ?_
  intro _ hw'
  obtain ⟨⟨dq, osq⟩, hw''⟩ := hw'
  subst hw''
  go_wp2
  go_ret
  exact ⟨rfl, below_step hB (below_regrown W dq osq)⟩

end Go.Proofs.Ythkimoladjpjgaa
