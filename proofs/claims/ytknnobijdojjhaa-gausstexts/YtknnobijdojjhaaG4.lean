/-
  Contracts of the document's Mul and Norm. Conditions: none.
-/
import Derived.Test.YtknnobijdojjhaaG3
import Derived.Test.YtknnobijdojjhaaCarry
namespace Go.Proofs.Ytknnobijdojjhaa
open Go.RowKit Go.Sort

set_option maxHeartbeats 1000000 in
theorem rmul_core (a b c d x y z v p1 p2 p3 p4 m n r s : Int) (w : World)
    (e1 : wrap64 (x * z) = p1) (e2 : wrap64 (y * v) = p2) (e3 : wrap64 (x * v) = p3) (e4 : wrap64 (y * z) = p4) (e5 : wrap64 (p1 - p2) = m) (e6 : wrap64 (p3 + p4) = n)
    (H1 : Hid (∀ w, Calls Try.prog 10 #[.int .i64 a, .int .i64 b] w fun e w' => e = .returned (cv x y) ∧ Below w.heap.size w w'))
    (H2 : Hid (∀ w, Calls Try.prog 10 #[.int .i64 c, .int .i64 d] w fun e w' => e = .returned (cv z v) ∧ Below w.heap.size w w'))
    (H3 : Hid (∀ w, Calls Try.prog 10 #[.int .i64 m, .int .i64 n] w fun e w' => e = .returned (cv r s) ∧ Below w.heap.size w w')) :
    Calls Try.prog 20 #[cv a b, cv c d] w fun e w' => e = .returned (cv r s) ∧ Below w.heap.size w w' := by
  go_enter Try.func20, Try.ntmps20
  go_wp2_with fail
  refine (H1.out _).mono ?_
  rintro e w1 ⟨rfl, hb⟩
  have hB := (by go_grown : Below w.heap.size w _).trans (hb.mono (by simp; omega))
  have q0 := fun O => cell_alloc (cell_carry hb (b := w.heap.size + 1) (o := 0) (v := .int .i64 c) (by simp [go_sem])) O
  have q1 := fun O => cell_alloc (cell_carry hb (b := w.heap.size + 1) (o := 1) (v := .int .i64 d) (by simp [go_sem])) O
  have q2 := fun O => cell_alloc (cell_carry hb (b := w.heap.size + 1 + 1) (o := 0) (v := .int .i64 0) (by simp [go_sem])) O
  have q3 := fun O => cell_alloc (cell_carry hb (b := w.heap.size + 1 + 1) (o := 1) (v := .int .i64 0) (by simp [go_sem])) O
  have q4 := fun O o => froz_alloc (cell_carry hb (b := w.heap.size + 1 + 1) (o := 0) (v := .int .i64 0) (by simp [go_sem])) (froz_carry hb (b := w.heap.size + 1 + 1) (o := 0) (v := .int .i64 0) (by simp [go_sem]) (o' := o) (by simp [go_sem])) O
  clear hb
  go_wp2_with fail
  refine (H2.out _).mono ?_
  rintro e w2 ⟨rfl, hb⟩
  replace hB := (hB.trans (below_alloc w1 _ |>.mono hB.size)).trans (hb.mono (Nat.le_trans hB.size (by simp)))
  have t0 := fun O => cell_alloc (cell_carry hb (b := w1.heap.size) (o := 0) (v := .int .i64 x) (by simp [go_sem])) O
  have t1 := fun O => cell_alloc (cell_carry hb (b := w1.heap.size) (o := 1) (v := .int .i64 y) (by simp [go_sem])) O
  have t2 := fun O => cell_alloc (cell_carry hb (q2 _)) O
  have t3 := fun O => cell_alloc (cell_carry hb (q3 _)) O
  have t4 := fun O o => froz_alloc (cell_carry hb (q2 _)) (froz_carry hb (q2 _) (q4 _ o)) O
  clear q0 q1 q2 q3 q4 hb
  go_wp2_with fail
  refine (H3.out _).mono ?_
  rintro e w3 ⟨rfl, hb⟩
  replace hB := (hB.trans (below_alloc w2 _ |>.mono hB.size)).trans (hb.mono (Nat.le_trans hB.size (by simp)))
  have s2 := cell_carry hb (t2 _)
  have s3 := cell_carry hb (t3 _)
  have s4 := fun o => froz_carry hb (t2 _) (t4 _ o)
  clear t0 t1 t2 t3 t4 hb
  go_wp2
  refine bodyPost_ret (v := cv r s) (by simp [results, Try.results20, go_sem, s2, s3]) rfl ⟨rfl, ?_⟩
  go_grown

theorem w64_in {x : Int} (h0 : -9223372036854775808 ≤ x) (h1 : x ≤ 9223372036854775807) : wrap64 x = x := by unfold wrap64; omega

theorem rmul_any (a b c d : Int) (w : World) :
    Calls Try.prog 20 #[cv a b, cv c d] w fun e w' => e = .returned (cv (r24 (r24 a * r24 c - r24 b * r24 d)) (r24 (r24 a * r24 d + r24 b * r24 c))) ∧ Below w.heap.size w w' := by
  have h1 := mul_bound (r24_lo a) (r24_lo c)
  have h2 := mul_bound (r24_lo b) (r24_lo d)
  have h3 := mul_bound (r24_lo a) (r24_lo d)
  have h4 := mul_bound (r24_lo b) (r24_lo c)
  exact rmul_core a b c d _ _ _ _ _ _ _ _ _ _ _ _ w (w64_in (by omega) (by omega)) (w64_in (by omega) (by omega)) (w64_in (by omega) (by omega)) (w64_in (by omega) (by omega)) (w64_in (by omega) (by omega)) (w64_in (by omega) (by omega))
    (Lib.hid (rof_any a b)) (Lib.hid (rof_any c d)) (Lib.hid (rof_any _ _))

set_option maxHeartbeats 1000000 in
theorem rnorm_core (a b x y p1 p2 n : Int) (w : World)
    (e1 : wrap64 (x * x) = p1) (e2 : wrap64 (y * y) = p2) (e5 : wrap64 (p1 + p2) = n)
    (H1 : Hid (∀ w, Calls Try.prog 10 #[.int .i64 a, .int .i64 b] w fun e w' => e = .returned (cv x y) ∧ Below w.heap.size w w')) :
    Calls Try.prog 22 #[cv a b] w fun e w' => e = .returned (.int .i64 n) ∧ Below w.heap.size w w' := by
  go_enter Try.func22, Try.ntmps22
  go_wp2_with fail
  refine (H1.out _).mono ?_
  rintro e w1 ⟨rfl, hb⟩
  have hB := (by go_grown : Below w.heap.size w _).trans (hb.mono (by simp))
  clear hb
  go_wp2
  go_ret
  exact ⟨ret_int e5, hB.trans ((below_alloc w1 _).mono hB.size)⟩
theorem rnorm_any (a b : Int) (w : World) :
    Calls Try.prog 22 #[cv a b] w fun e w' => e = .returned (.int .i64 (r24 a * r24 a + r24 b * r24 b)) ∧ Below w.heap.size w w' := by
  have h1 := mul_bound (r24_lo a) (r24_lo a)
  have h2 := mul_bound (r24_lo b) (r24_lo b)
  exact rnorm_core a b _ _ _ _ _ w (w64_in (by omega) (by omega)) (w64_in (by omega) (by omega)) (w64_in (by omega) (by omega)) (Lib.hid (rof_any a b))

end Go.Proofs.Ytknnobijdojjhaa
