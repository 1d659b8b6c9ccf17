/-
  Contracts of gauss.Add, Sub, Mul, Neg, Turn, Norm, May and of the document's Add, Neg, Mul, Norm. Conditions: none.
-/
import Derived.Test.YtknnobijdojjhaaG2
import Derived.Test.YtknnobijdojjhaaDx
namespace Go.Proofs.Ytknnobijdojjhaa
open Go.RowKit Go.Sort

theorem mul_bound {x y : Int} (hx : -8388608 ≤ x ∧ x ≤ 8388607) (hy : -8388608 ≤ y ∧ y ≤ 8388607) : (x * y).natAbs ≤ 70368744177664 := by
  rw [Int.natAbs_mul]
  exact Nat.le_trans (Nat.mul_le_mul (show x.natAbs ≤ 8388608 by omega) (show y.natAbs ≤ 8388608 by omega)) (by omega)
theorem fi_r24 (a : Int) : F (fi (r24 a)) (r24 a) := F_int _ (by have := r24_lo a; omega)
theorem wrap_in {x : Int} (h0 : -9223372036854775808 ≤ x) (h1 : x ≤ 9223372036854775807) : IntKind.i64.wrap x = x := IntWalk.i64_in _ (by omega)

theorem add_any (a b c d : Int) (w : World) :
    Calls Try.prog 12 #[cv a b, cv c d] w fun e w' => e = .returned (cv (r24 (r24 a + r24 c)) (r24 (r24 b + r24 d))) ∧ Below w.heap.size w w' := by
  have h1 := r24_lo a
  have h2 := r24_lo b
  have h3 := r24_lo c
  have h4 := r24_lo d
  obtain ⟨f, ef, hf⟩ := F_add (fi_r24 a) (fi_r24 c) (by omega)
  obtain ⟨g, eg, hg⟩ := F_add (fi_r24 b) (fi_r24 d) (by omega)
  refine add_core a b c d _ _ _ _ _ _ f g w (fun t w => run_complex_sum w .add (Or.inl rfl) t .f64 _ _ _ _ _ _ ?_) (Lib.hid (into_any a b)) (Lib.hid (into_any c d)) (Lib.hid (fun w => outOf_any f g _ _ w hf hg (by omega) (by omega) (by omega) (by omega)))
  unfold cSumBits; rw [ef, eg]; rfl

theorem sub_any (a b c d : Int) (w : World) :
    Calls Try.prog 14 #[cv a b, cv c d] w fun e w' => e = .returned (cv (r24 (r24 a - r24 c)) (r24 (r24 b - r24 d))) ∧ Below w.heap.size w w' := by
  have h1 := r24_lo a
  have h2 := r24_lo b
  have h3 := r24_lo c
  have h4 := r24_lo d
  obtain ⟨f, ef, hf⟩ := F_sub (fi_r24 a) (fi_r24 c) (by omega)
  obtain ⟨g, eg, hg⟩ := F_sub (fi_r24 b) (fi_r24 d) (by omega)
  refine sub_core a b c d _ _ _ _ _ _ f g w (fun t w => run_complex_sum w .sub (Or.inr rfl) t .f64 _ _ _ _ _ _ ?_) (Lib.hid (into_any a b)) (Lib.hid (into_any c d)) (Lib.hid (fun w => outOf_any f g _ _ w hf hg (by omega) (by omega) (by omega) (by omega)))
  unfold cSumBits; rw [ef, eg]; rfl

theorem cMul_exact {p q r s : Nat} {x y z v : Int} (hp : F p x) (hq : F q y) (hr : F r z) (hs : F s v) (h1 : (x * z).natAbs ≤ 70368744177664) (h2 : (y * v).natAbs ≤ 70368744177664) (h3 : (x * v).natAbs ≤ 70368744177664) (h4 : (y * z).natAbs ≤ 70368744177664) :
    ∃ f g, cMulBits p q r s = some (f, g) ∧ F f (x * z - y * v) ∧ F g (x * v + y * z) := by
  obtain ⟨a1, e1, f1⟩ := F_mul hp hr (by omega)
  obtain ⟨a2, e2, f2⟩ := F_mul hq hs (by omega)
  obtain ⟨a3, e3, f3⟩ := F_sub f1 f2 (by omega)
  obtain ⟨a4, e4, f4⟩ := F_mul hp hs (by omega)
  obtain ⟨a5, e5, f5⟩ := F_mul hq hr (by omega)
  obtain ⟨a6, e6, f6⟩ := F_add f4 f5 (by omega)
  refine ⟨a3, a6, ?_, f3, f6⟩
  unfold cMulBits
  rw [e1, e2]; simp only [Option.bind_some]
  rw [e3, e4, e5]; simp only [Option.bind_some]
  rw [e6]; rfl

theorem mul_any (a b c d : Int) (w : World) :
    Calls Try.prog 19 #[cv a b, cv c d] w fun e w' => e = .returned (cv (r24 (r24 a * r24 c - r24 b * r24 d)) (r24 (r24 a * r24 d + r24 b * r24 c))) ∧ Below w.heap.size w w' := by
  have h1 := mul_bound (r24_lo a) (r24_lo c)
  have h2 := mul_bound (r24_lo b) (r24_lo d)
  have h3 := mul_bound (r24_lo a) (r24_lo d)
  have h4 := mul_bound (r24_lo b) (r24_lo c)
  obtain ⟨f, g, ef, hf, hg⟩ := cMul_exact (fi_r24 a) (fi_r24 b) (fi_r24 c) (fi_r24 d) h1 h2 h3 h4
  exact mul_core a b c d _ _ _ _ _ _ f g w (fun t w => run_complex_mul w t _ _ _ _ _ _ ef) (Lib.hid (into_any a b)) (Lib.hid (into_any c d)) (Lib.hid (fun w => outOf_any f g _ _ w hf hg (by omega) (by omega) (by omega) (by omega)))

set_option maxHeartbeats 400000 in
theorem neg_core (a b x y : Int) (p q f g : Nat) (w : World) (hop : Op.unary .neg (zv p q) = pure (zv f g))
    (H1 : Hid (∀ w, Calls Try.prog 31 #[cv a b] w fun e w' => e = .returned (zv p q) ∧ Below w.heap.size w w'))
    (H2 : Hid (∀ w, Calls Try.prog 30 #[zv f g] w fun e w' => e = .returned (cv x y) ∧ Below w.heap.size w w')) :
    Calls Try.prog 16 #[cv a b] w fun e w' => e = .returned (cv x y) ∧ Below w.heap.size w w' := by
  go_enter Try.func16, Try.ntmps16
  go_wp2_with fail
  refine (H1.out _).mono ?_
  rintro e w1 ⟨rfl, hb⟩
  go_wp2_with fail
  refine (H2.out _).mono ?_
  rintro e w2 ⟨rfl, hb2⟩
  replace hb := below_step hb hb2
  clear hb2
  obtain ⟨hc, hf⟩ := bcell hb
  have hz := hb.size
  simp only [World.size_alloc] at hc hf hz
  go_wp2
  refine bodyPost_ret (v := cv x y) (by simp [results, Try.results16, go_sem, hc]) rfl ⟨rfl, ?_⟩
  have hb' := (by go_grown : Below w.heap.size w _).trans (hb.mono (by simp; omega))
  go_grown
theorem neg_any (a b : Int) (w : World) :
    Calls Try.prog 16 #[cv a b] w fun e w' => e = .returned (cv (r24 (-r24 a)) (r24 (-r24 b))) ∧ Below w.heap.size w w' := by
  have h1 := r24_lo a
  have h2 := r24_lo b
  exact neg_core a b _ _ _ _ _ _ w (unary_neg_complex .f64 _ _) (Lib.hid (into_any a b)) (Lib.hid (fun w => outOf_any _ _ _ _ w (F_neg (fi_r24 a)) (F_neg (fi_r24 b)) (by omega) (by omega) (by omega) (by omega)))

set_option maxHeartbeats 400000 in
theorem turn_core (a b x y : Int) (p q f g : Nat) (w : World)
    (H1 : Hid (∀ w, Calls Try.prog 31 #[cv a b] w fun e w' => e = .returned (zv p q) ∧ Below w.heap.size w w'))
    (H3 : Hid (∀ w, Calls Try.prog 32 #[zv p q] w fun e w' => e = .returned (zv f g) ∧ w = w'))
    (H2 : Hid (∀ w, Calls Try.prog 30 #[zv f g] w fun e w' => e = .returned (cv x y) ∧ Below w.heap.size w w')) :
    Calls Try.prog 17 #[cv a b] w fun e w' => e = .returned (cv x y) ∧ Below w.heap.size w w' := by
  go_enter Try.func17, Try.ntmps17
  go_wp2_with fail
  refine (H1.out _).mono ?_
  rintro e w1 ⟨rfl, hb⟩
  go_wp2_with fail
  refine (H3.out _).mono ?_
  rintro e w1 ⟨rfl, rfl⟩
  go_wp2_with fail
  refine (H2.out _).mono ?_
  rintro e w2 ⟨rfl, hb2⟩
  replace hb := below_step hb hb2
  clear hb2
  obtain ⟨hc, hf⟩ := bcell hb
  have hz := hb.size
  simp only [World.size_alloc] at hc hf hz
  go_wp2
  refine bodyPost_ret (v := cv x y) (by simp [results, Try.results17, go_sem, hc]) rfl ⟨rfl, ?_⟩
  have hb' := (by go_grown : Below w.heap.size w _).trans (hb.mono (by simp; omega))
  go_grown
theorem turn_any (a b : Int) (w : World) :
    Calls Try.prog 17 #[cv a b] w fun e w' => e = .returned (cv (r24 (r24 a)) (r24 (-r24 b))) ∧ Below w.heap.size w w' := by
  have h1 := r24_lo a
  have h2 := r24_lo b
  exact turn_core a b _ _ _ _ _ _ w (Lib.hid (into_any a b)) (Lib.hid (turned_any _ _)) (Lib.hid (fun w => outOf_any _ _ _ _ w (fi_r24 a) (F_neg (fi_r24 b)) (by omega) (by omega) (by omega) (by omega)))

set_option maxHeartbeats 400000 in
theorem norm_core (a b n : Int) (p q f g h k : Nat) (w : World)
    (hop : ∀ t w, (binOp .mul t (zv p q) (zv f g)).run Try.prog w = .ok (zv h k) w)
    (hcv : ∀ w, (convert 46 2 (.float .f64 h)).run Try.prog w = .ok (.int .i64 n) w)
    (H1 : Hid (∀ w, Calls Try.prog 31 #[cv a b] w fun e w' => e = .returned (zv p q) ∧ Below w.heap.size w w'))
    (H3 : Hid (∀ w, Calls Try.prog 32 #[zv p q] w fun e w' => e = .returned (zv f g) ∧ w = w')) :
    Calls Try.prog 21 #[cv a b] w fun e w' => e = .returned (.int .i64 n) ∧ Below w.heap.size w w' := by
  go_enter Try.func21, Try.ntmps21
  go_wp2_with fail
  refine (H1.out _).mono ?_
  rintro e w1 ⟨rfl, hb⟩
  go_wp2_with fail
  refine (H3.out _).mono ?_
  rintro e w1 ⟨rfl, rfl⟩
  go_wp2
  go_ret
  refine ⟨rfl, ?_⟩
  have hb' := (by go_grown : Below w.heap.size w _).trans (hb.mono (by simp))
  exact hb'
theorem norm_any (a b : Int) (w : World) :
    Calls Try.prog 21 #[cv a b] w fun e w' => e = .returned (.int .i64 (r24 a * r24 a + r24 b * r24 b)) ∧ Below w.heap.size w w' := by
  have h1 := mul_bound (r24_lo a) (r24_lo a)
  have h2 := mul_bound (r24_lo b) (r24_lo b)
  have h3 := mul_bound (r24_lo a) (r24_lo b)
  have h4 := mul_bound (r24_lo b) (r24_lo a)
  obtain ⟨f, g, ef, hf, hg⟩ := cMul_exact (fi_r24 a) (fi_r24 b) (fi_r24 a) (F_neg (fi_r24 b)) h1 (by rw [Int.mul_neg, Int.natAbs_neg]; exact h2) (by rw [Int.mul_neg, Int.natAbs_neg]; exact h3) h4
  rw [Int.mul_neg, Int.sub_neg] at hf
  exact norm_core a b _ _ _ _ _ f g w (fun t w => run_complex_mul w t _ _ _ _ _ _ ef) (fun w => run_convert_float_int w 46 2 .f64 .i64 f _ (by rw [Try.underlying46]; rfl) Try.underlying2 (F_toInt hf (by omega) (by omega)))
    (Lib.hid (into_any a b)) (Lib.hid (turned_any _ _))

theorem may_any (a b : Int) (w : World) :
    Calls Try.prog 24 #[cv a b] w fun e w' => e = .returned (.bool ((a == r24 a) && (b == r24 b))) ∧ Below w.heap.size w w' :=
  may_core a b _ _ _ w (eql_cv _ _ _ _ _ rfl) (fun op o1 o2 w => guard_cv op o1 o2 _ _ _ _ w) (Lib.hid (gof_any a b))

theorem rneg_any (a b : Int) (w : World) :
    Calls Try.prog 15 #[cv a b] w fun e w' => e = .returned (cv (r24 (-r24 a)) (r24 (-r24 b))) ∧ Below w.heap.size w w' := by
  have h1 := r24_lo a
  have h2 := r24_lo b
  exact rneg_core a b _ _ _ _ _ _ w (wrap_in (by omega) (by omega)) (wrap_in (by omega) (by omega)) (Lib.hid (fun w => same_below (rpart_any a w))) (Lib.hid (fun w => same_below (rpart_any b w))) (Lib.hid (rof_any _ _))
theorem radd_any (a b c d : Int) (w : World) :
    Calls Try.prog 13 #[cv a b, cv c d] w fun e w' => e = .returned (cv (r24 (r24 a + r24 c)) (r24 (r24 b + r24 d))) ∧ Below w.heap.size w w' := by
  have h1 := r24_lo a
  have h2 := r24_lo b
  have h3 := r24_lo c
  have h4 := r24_lo d
  exact radd_core a b c d _ _ _ _ _ _ _ _ w (wrap_in (by omega) (by omega)) (wrap_in (by omega) (by omega)) (Lib.hid (fun w => same_below (rpart_any a w))) (Lib.hid (fun w => same_below (rpart_any c w))) (Lib.hid (fun w => same_below (rpart_any b w))) (Lib.hid (fun w => same_below (rpart_any d w))) (Lib.hid (rof_any _ _))

end Go.Proofs.Ytknnobijdojjhaa
