/-
  Contracts of gauss.part, gauss.Of, gauss.turned, gauss.into, gauss.outOf and of the document's Part and Of. Conditions: floats that stand for whole numbers, where it is said.
-/
import Derived.Test.YtknnobijdojjhaaRound
import Derived.Test.YtknnobijdojjhaaFl
import Derived.Test.YtknnobijdojjhaaTail
namespace Go.Proofs.Ytknnobijdojjhaa
open Go.RowKit

/-- A part of 24 bits. -/
abbrev r24 (a : Int) : Int := rnd a 24
abbrev cv (a b : Int) : Value := .agg #[.int .i64 a, .int .i64 b]
abbrev zv (a b : Nat) : Value := .complex .f64 a b
abbrev fi (a : Int) : Nat := floatOfInt .f64 a

theorem r24_lo (a : Int) : -8388608 ≤ r24 a ∧ r24 a ≤ 8388607 := by
  unfold r24 rnd
  have e : (2 : Int) ^ 24 = 16777216 := by decide
  have e' : (2 : Int) ^ (24 - 1) = 8388608 := by decide
  rw [e, e']; omega
theorem r24_ex (a : Int) : ∃ k, r24 a = a + k * 16777216 := by
  unfold r24 rnd
  have e : (2 : Int) ^ 24 = 16777216 := by decide
  have e' : (2 : Int) ^ (24 - 1) = 8388608 := by decide
  rw [e, e']
  exact ⟨-((a + 8388608) / 16777216), by omega⟩
theorem r24_congr {a b : Int} (k : Int) (h : a = b + k * 16777216) : r24 a = r24 b := by
  unfold r24 rnd
  have e : (2 : Int) ^ 24 = 16777216 := by decide
  have e' : (2 : Int) ^ (24 - 1) = 8388608 := by decide
  rw [e, e', h]; omega
theorem r24_in {a : Int} (h0 : -8388608 ≤ a) (h1 : a ≤ 8388607) : r24 a = a := by
  unfold r24 rnd
  have e : (2 : Int) ^ 24 = 16777216 := by decide
  have e' : (2 : Int) ^ (24 - 1) = 8388608 := by decide
  rw [e, e']; omega
theorem r24_idem (a : Int) : r24 (r24 a) = r24 a := r24_in (r24_lo a).1 (r24_lo a).2

set_option maxHeartbeats 400000 in
theorem part_any (a : Int) (w : World) : Calls Try.prog 33 #[.int .i64 a] w fun e w' => e = .returned (.int .i64 (r24 a)) ∧ w = w' := by
  have H := Lib.hid (fun w => round_in a 24 w (by omega) (by omega))
  show Calls Try.prog 33 #[.int .i64 a] w fun e w' => e = .returned (.int .i64 (rnd a 24)) ∧ w = w'
  generalize rnd a 24 = x at *
  go_enter Try.func33, Try.ntmps33
  go_wp2_with fail
  refine (H.out _).mono ?_
  rintro e w' ⟨rfl, rfl⟩
  go_wp2
  go_ret
  exact ⟨rfl, rfl⟩

set_option maxHeartbeats 400000 in
theorem rpart_any (a : Int) (w : World) : Calls Try.prog 11 #[.int .i64 a] w fun e w' => e = .returned (.int .i64 (r24 a)) ∧ w = w' := by
  have H := Lib.hid (fun w => rround_in a 24 w (by omega) (by omega))
  show Calls Try.prog 11 #[.int .i64 a] w fun e w' => e = .returned (.int .i64 (rnd a 24)) ∧ w = w'
  generalize rnd a 24 = x at *
  go_enter Try.func11, Try.ntmps11
  go_wp2_with fail
  refine (H.out _).mono ?_
  rintro e w' ⟨rfl, rfl⟩
  go_wp2
  go_ret
  exact ⟨rfl, rfl⟩

set_option maxHeartbeats 400000 in
theorem of_core (a b x y : Int) (w : World)
    (H1 : Hid (∀ w, Calls Try.prog 33 #[.int .i64 a] w fun e w' => e = .returned (.int .i64 x) ∧ w = w'))
    (H2 : Hid (∀ w, Calls Try.prog 33 #[.int .i64 b] w fun e w' => e = .returned (.int .i64 y) ∧ w = w')) :
    Calls Try.prog 23 #[.int .i64 a, .int .i64 b] w fun e w' => e = .returned (cv x y) ∧ Below w.heap.size w w' := by
  go_enter Try.func23, Try.ntmps23
  go_wp2_with fail
  refine (H1.out _).mono ?_
  rintro e w1 ⟨rfl, rfl⟩
  go_wp2_with fail
  refine (H2.out _).mono ?_
  rintro e w1 ⟨rfl, rfl⟩
  go_wp2
  go_returns
  exact ⟨rfl, by go_grown⟩
theorem gof_any (a b : Int) (w : World) : Calls Try.prog 23 #[.int .i64 a, .int .i64 b] w fun e w' => e = .returned (cv (r24 a) (r24 b)) ∧ Below w.heap.size w w' :=
  of_core a b _ _ w (Lib.hid (part_any a)) (Lib.hid (part_any b))

set_option maxHeartbeats 400000 in
theorem rof_core (a b x y : Int) (w : World)
    (H1 : Hid (∀ w, Calls Try.prog 11 #[.int .i64 a] w fun e w' => e = .returned (.int .i64 x) ∧ w = w'))
    (H2 : Hid (∀ w, Calls Try.prog 11 #[.int .i64 b] w fun e w' => e = .returned (.int .i64 y) ∧ w = w')) :
    Calls Try.prog 10 #[.int .i64 a, .int .i64 b] w fun e w' => e = .returned (cv x y) ∧ Below w.heap.size w w' := by
  go_enter Try.func10, Try.ntmps10
  go_wp2_with fail
  refine (H1.out _).mono ?_
  rintro e w1 ⟨rfl, rfl⟩
  go_wp2_with fail
  refine (H2.out _).mono ?_
  rintro e w1 ⟨rfl, rfl⟩
  go_wp2
  go_returns
  exact ⟨rfl, by go_grown⟩
theorem rof_any (a b : Int) (w : World) : Calls Try.prog 10 #[.int .i64 a, .int .i64 b] w fun e w' => e = .returned (cv (r24 a) (r24 b)) ∧ Below w.heap.size w w' :=
  rof_core a b _ _ w (Lib.hid (rpart_any a)) (Lib.hid (rpart_any b))

theorem unary_neg_float (k : FloatKind) (b : Nat) : Op.unary .neg (.float k b) = pure (.float k (Op.negFloat k b)) := rfl
theorem unary_neg_complex (k : FloatKind) (a b : Nat) : Op.unary .neg (.complex k a b) = pure (.complex k (Op.negFloat k a) (Op.negFloat k b)) := rfl

set_option maxHeartbeats 400000 in
theorem turned_any (a b : Nat) (w : World) : Calls Try.prog 32 #[zv a b] w fun e w' => e = .returned (zv a (Op.negFloat .f64 b)) ∧ w = w' := by
  have hneg := unary_neg_float .f64 b
  go_enter Try.func32, Try.ntmps32
  go_wp2
  go_ret
  exact ⟨rfl, rfl⟩

set_option maxHeartbeats 400000 in
theorem outOf_core (a b : Nat) (x y p q : Int) (w : World)
    (h1 : ∀ w, (convert 46 2 (.float .f64 a)).run Try.prog w = .ok (.int .i64 x) w)
    (h2 : ∀ w, (convert 46 2 (.float .f64 b)).run Try.prog w = .ok (.int .i64 y) w)
    (H : Hid (∀ w, Calls Try.prog 23 #[.int .i64 x, .int .i64 y] w fun e w' => e = .returned (cv p q) ∧ Below w.heap.size w w')) :
    Calls Try.prog 30 #[zv a b] w fun e w' => e = .returned (cv p q) ∧ Below w.heap.size w w' := by
  go_enter Try.func30, Try.ntmps30
  go_wp2_with fail
  refine (H.out _).mono ?_
  rintro e w1 ⟨rfl, hb⟩
  obtain ⟨hc, hf⟩ := bcell hb
  have hz := hb.size
  simp only [World.size_alloc] at hc hf hz
  go_wp2
  refine bodyPost_ret (v := cv p q) (by simp [results, Try.results30, go_sem, hc]) rfl ?_
  refine ⟨rfl, ?_⟩
  have hb' := (by go_grown : Below w.heap.size w _).trans (hb.mono (by simp))
  go_grown

theorem outOf_any (a b : Nat) (x y : Int) (w : World) (ha : F a x) (hb : F b y) (hx0 : -9223372036854775808 ≤ x) (hx1 : x ≤ 9223372036854775807) (hy0 : -9223372036854775808 ≤ y) (hy1 : y ≤ 9223372036854775807) :
    Calls Try.prog 30 #[zv a b] w fun e w' => e = .returned (cv (r24 x) (r24 y)) ∧ Below w.heap.size w w' :=
  outOf_core a b x y _ _ w (fun w => run_convert_float_int w 46 2 .f64 .i64 a x (by rw [Try.underlying46]; rfl) Try.underlying2 (F_toInt ha hx0 hx1))
    (fun w => run_convert_float_int w 46 2 .f64 .i64 b y (by rw [Try.underlying46]; rfl) Try.underlying2 (F_toInt hb hy0 hy1)) (Lib.hid (gof_any x y))

set_option maxHeartbeats 400000 in
theorem into_core (a b x y : Int) (w : World)
    (H : Hid (∀ w, Calls Try.prog 23 #[.int .i64 a, .int .i64 b] w fun e w' => e = .returned (cv x y) ∧ Below w.heap.size w w')) :
    Calls Try.prog 31 #[cv a b] w fun e w' => e = .returned (zv (fi x) (fi y)) ∧ Below w.heap.size w w' := by
  go_enter Try.func31, Try.ntmps31
  go_wp2_with fail
  refine (H.out _).mono ?_
  rintro e w1 ⟨rfl, hb⟩
  obtain ⟨hc, hf⟩ := bcell hb
  have hz := hb.size
  simp only [World.size_alloc] at hc hf hz
  go_wp2
  go_ret
  refine ⟨rfl, ?_⟩
  have hb' := (by go_grown : Below w.heap.size w _).trans (hb.mono (by simp))
  go_grown
theorem into_any (a b : Int) (w : World) : Calls Try.prog 31 #[cv a b] w fun e w' => e = .returned (zv (fi (r24 a)) (fi (r24 b))) ∧ Below w.heap.size w w' :=
  into_core a b _ _ w (Lib.hid (gof_any a b))

end Go.Proofs.Ytknnobijdojjhaa
