/-
  Contract of the document's Div for every two numbers, and the walk of the law NumDivides. Conditions: the divisor isn't 0.
-/
import Derived.Test.YthkimoladjpjgaaDivB
namespace Go.Proofs.Ythkimoladjpjgaa
open Go.RowKit Go.Sort

theorem in64 (n : Nat) (h : n ≤ 9223372036854775808) : In64 (n : Int) := by unfold In64; omega
theorem in64m (n : Int) : In64 (n % 18446744073709551616) := by unfold In64; omega

/-- The document's quotient and what is left are the language's own. -/
theorem refdiv_any (a b : Int) (w : World) (ha : -9223372036854775808 ≤ a ∧ a ≤ 9223372036854775807) (hb : -9223372036854775808 ≤ b ∧ b ≤ 9223372036854775807) (h0 : ¬ b = 0) :
    Calls Try.prog 24 #[.int .i64 a, .int .i64 b] w fun e w' => e = .returned (.tuple #[.int .i64 (wrap64 (a.tdiv b)), .int .i64 (a.tmod b)]) ∧ Below w.heap.size w w' := by
  have hx : a.natAbs ≤ 9223372036854775808 := by omega
  have hy : 0 < b.natAbs := by omega
  have hy2 : b.natAbs ≤ 9223372036854775808 := by omega
  have hq : a.natAbs / b.natAbs ≤ 9223372036854775808 := Nat.le_trans (Nat.div_le_self _ _) hx
  have hr : a.natAbs % b.natAbs < b.natAbs := Nat.mod_lt _ hy
  have h1 := fun w => size_any a w ha.1 ha.2
  have h2 := fun w => size_any b w hb.1 hb.2
  have h3 := fun w => of_dx _ _ w (back64 (a.natAbs / b.natAbs) hq)
  have h4 := fun w => of_dx _ _ w (back64 (a.natAbs % b.natAbs) (by omega))
  have h5 := fun w => minus_dx _ _ w (in64 (a.natAbs / b.natAbs) hq) rfl
  have h6 := fun w => minus_dx _ _ w (in64 (a.natAbs % b.natAbs) (by omega)) rfl
  have hd : ((a.natAbs / b.natAbs : Nat) : Int) = (a.natAbs : Int).tdiv (b.natAbs : Int) := rfl
  have hm : ((a.natAbs % b.natAbs : Nat) : Int) = (a.natAbs : Int).tmod (b.natAbs : Int) := rfl
  by_cases na : a < 0 <;> by_cases nb : b < 0
  · refine div_nn a b _ _ _ _ _ _ w hx hy hy2 (by simpa using na) (by simpa using nb) h1 h2 h3 h4 h5 h6 (fun w => number_dx _ _ w (in64 _ hq) ?_) (fun w => number_dx _ _ w (in64m _) ?_)
    · have ea : a = -(a.natAbs : Int) := by omega
      have eb : b = -(b.natAbs : Int) := by omega
      rw [hd, show a.tdiv b = (a.natAbs : Int).tdiv (b.natAbs : Int) by conv => lhs; rw [ea, eb, Int.neg_tdiv, Int.tdiv_neg, Int.neg_neg]]
    · have ea : a = -(a.natAbs : Int) := by omega
      have eb : b = -(b.natAbs : Int) := by omega
      rw [show a.tmod b = -((a.natAbs : Int).tmod (b.natAbs : Int)) by conv => lhs; rw [ea, eb, Int.neg_tmod, Int.tmod_neg], ← hm]
      unfold wrap64; omega
  · refine div_np a b _ _ _ _ _ _ w hx hy hy2 (by simpa using na) (by simpa using nb) h1 h2 h3 h4 h5 h6 (fun w => number_dx _ _ w (in64m _) ?_) (fun w => number_dx _ _ w (in64m _) ?_)
    · have ea : a = -(a.natAbs : Int) := by omega
      have eb : b = (b.natAbs : Int) := by omega
      rw [show a.tdiv b = -((a.natAbs : Int).tdiv (b.natAbs : Int)) by conv => lhs; rw [ea, eb, Int.neg_tdiv], ← hd]
      unfold wrap64; omega
    · have ea : a = -(a.natAbs : Int) := by omega
      have eb : b = (b.natAbs : Int) := by omega
      rw [show a.tmod b = -((a.natAbs : Int).tmod (b.natAbs : Int)) by conv => lhs; rw [ea, eb, Int.neg_tmod], ← hm]
      unfold wrap64; omega
  · refine div_pn a b _ _ _ _ _ _ w hx hy hy2 (by simpa using na) (by simpa using nb) h1 h2 h3 h4 h5 h6 (fun w => number_dx _ _ w (in64m _) ?_) (fun w => number_dx _ _ w (in64 _ (by omega)) ?_)
    · have ea : a = (a.natAbs : Int) := by omega
      have eb : b = -(b.natAbs : Int) := by omega
      rw [show a.tdiv b = -((a.natAbs : Int).tdiv (b.natAbs : Int)) by conv => lhs; rw [ea, eb, Int.tdiv_neg], ← hd]
      unfold wrap64; omega
    · have ea : a = (a.natAbs : Int) := by omega
      have eb : b = -(b.natAbs : Int) := by omega
      rw [show a.tmod b = (a.natAbs : Int).tmod (b.natAbs : Int) by conv => lhs; rw [ea, eb, Int.tmod_neg], ← hm]
      unfold wrap64; omega
  · refine div_pp a b _ _ _ _ _ _ w hx hy hy2 (by simpa using na) (by simpa using nb) h1 h2 h3 h4 h5 h6 (fun w => number_dx _ _ w (in64 _ hq) ?_) (fun w => number_dx _ _ w (in64 _ (by omega)) ?_)
    · have ea : a = (a.natAbs : Int) := by omega
      have eb : b = (b.natAbs : Int) := by omega
      rw [hd, ← ea, ← eb]
    · have ea : a = (a.natAbs : Int) := by omega
      have eb : b = (b.natAbs : Int) := by omega
      rw [show a.tmod b = (a.natAbs : Int).tmod (b.natAbs : Int) by rw [← ea, ← eb], ← hm]
      unfold wrap64; omega

set_option maxHeartbeats 400000 in
theorem divides_zero (a : Int) (w : World) :
    Calls Try.prog 6 #[.int .i64 a, .int .i64 0] w fun e w' => e = .returned (.bool true) ∧ Below w.heap.size w w' := by
  go_enter Try.func6, Try.ntmps6
  go_wp2_with fail
  refine (div_zero a _).mono ?_
  rintro e w' ⟨rfl, rfl⟩
  go_wp2_with fail
  refine (rem_zero a _).mono ?_
  rintro e w' ⟨rfl, rfl⟩
  go_wp2_with fail
  refine (awake_any _).mono ?_
  rintro e w' ⟨rfl, rfl⟩
  go_wp2
  go_ret
  exact ⟨rfl, Below.refl _ _⟩

set_option maxHeartbeats 400000 in
theorem divides_core (a b q r : Int) (w : World) (hb : (b == 0) = false)
    (H1 : Hid (∀ w, Calls Try.prog 22 #[.int .i64 a, .int .i64 b] w fun e w' => e = .returned (.tuple #[.int .i64 q, .bool true]) ∧ w = w'))
    (H2 : Hid (∀ w, Calls Try.prog 23 #[.int .i64 a, .int .i64 b] w fun e w' => e = .returned (.tuple #[.int .i64 r, .bool true]) ∧ w = w'))
    (H3 : Hid (∀ w, Calls Try.prog 24 #[.int .i64 a, .int .i64 b] w fun e w' => e = .returned (.tuple #[.int .i64 q, .int .i64 r]) ∧ Below w.heap.size w w')) :
    Calls Try.prog 6 #[.int .i64 a, .int .i64 b] w fun e w' => e = .returned (.bool true) ∧ Below w.heap.size w w' := by
  go_enter Try.func6, Try.ntmps6
  go_wp2_with fail
  refine (H1.out _).mono ?_
  rintro e w' ⟨rfl, rfl⟩
  go_wp2_with fail
  refine (H2.out _).mono ?_
  rintro e w' ⟨rfl, rfl⟩
  go_wp2_with fail
  refine (H3.out _).mono ?_
  rintro e w1 ⟨rfl, hb1⟩
  go_wp2_with fail
  refine (awake_any _).mono ?_
  rintro e w' ⟨rfl, rfl⟩
  go_wp2
  go_ret
  exact ⟨rfl, hb1⟩

end Go.Proofs.Ythkimoladjpjgaa
