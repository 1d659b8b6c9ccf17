/-
  Contracts of heap.isWithin, heap.partCells, ref's Cost and May, heap.mayBe. Conditions: texts and lists of at most 100000.
-/
import Derived.Test.YtfeeikajekemlaaPl
namespace Go.Proofs.Ytfeeikajekemlaa
open Go.RowKit
set_option linter.unusedVariables false
set_option maxRecDepth 100000

def inB (i : Int) (n : Nat) : Bool := decide (0 ≤ i) && decide (i < n)
theorem within_any (i : Int) (n : Nat) (w : World) : Calls Try.prog 45 #[.int .i64 i, .int .i64 n] w fun e w' => e = .returned (.bool (inB i n)) ∧ w = w' := by
  by_cases h0 : 0 ≤ i
  · by_cases h1 : i < n
    · have e : inB i n = true := by simp [inB, h0, h1]
      rw [e]; clear e
      go_enter Try.func45, Try.ntmps45
      go_wp2_with fail
      go_ret
      exact ⟨rfl, rfl⟩
    · have e : inB i n = false := by simp [inB, h1]
      rw [e]; clear e
      go_enter Try.func45, Try.ntmps45
      go_wp2_with fail
      go_ret
      exact ⟨rfl, rfl⟩
  · have e : inB i n = false := by simp [inB, h0]
    rw [e]; clear e
    go_enter Try.func45, Try.ntmps45
    go_wp2_with fail
    go_ret
    exact ⟨rfl, rfl⟩

def partC (x : Oc) : Nat := (x.text.size + 7) / 8 + x.n
theorem part_any (x : Oc) (w : World) (ht : x.text.size ≤ 100000) (hn : x.n ≤ 100000) : Calls Try.prog 41 #[ocV x] w fun e w' => e = .returned (.int .i64 (partC x : Nat)) ∧ Below w.heap.size w w' := by
  obtain ⟨k, f, t, a, n, c⟩ := x
  simp only at ht hn
  go_enter Try.func41, Try.ntmps41
  go_wp2_with fail
  go_ret
  exact ⟨ret_int (by simp only [partC]; omega), by go_grown⟩

def costC (x : Oc) : Nat := if x.kind = 3 then (x.text.size + 7) / 8 + 1 else x.n + 1
theorem cost_any (x : Oc) (w : World) (ht : x.text.size ≤ 100000) (hn : x.n ≤ 100000) : Calls Try.prog 21 #[ocV x] w fun e w' => e = .returned (.int .i64 (costC x : Nat)) ∧ Below w.heap.size w w' := by
  obtain ⟨k, f, t, a, n, c⟩ := x
  simp only at ht hn
  by_cases h3 : k = 3
  · subst h3
    by_cases h8 : t.size % 8 = 0
    · have e : ((t.size : Int) % 8 == 0) = true := by rw [beq_iff_eq]; omega
      go_enter Try.func21, Try.ntmps21
      go_wp2_with fail
      all_goals
        go_ret
        exact ⟨ret_int (by simp only [costC]; simp; omega), by go_grown⟩
    · go_enter Try.func21, Try.ntmps21
      go_wp2_with fail
      all_goals
        go_ret
        exact ⟨ret_int (by simp only [costC]; simp; omega), by go_grown⟩
  · have e3 : ((k : Int) == 3) = false := by rw [beq_eq_false_iff_ne]; omega
    go_enter Try.func21, Try.ntmps21
    go_wp2_with fail
    go_ret
    exact ⟨ret_int (by simp only [costC]; rw [if_neg h3]; omega), by go_grown⟩

def mayC (x : Oc) : Bool := if x.kind = 3 then decide (0 < x.text.size) && decide (x.n = 0) && decide (x.of = 0) else (decide (x.kind = 6) || decide (x.kind = 7)) && decide (x.text.size = 0) && decide (0 ≤ x.of)

end Go.Proofs.Ytfeeikajekemlaa
