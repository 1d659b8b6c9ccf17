/-
  Plain facts on dividing bit by bit. No program is spoken of. Conditions: those that are said.
-/
import Derived.WalkKit
import Derived.Lib.Hide
namespace Go.Proofs.Ythkimoladjpjgaa
open Go.RowKit

/-- Quotient and rest when j bits of x are still to come. -/
def dq (x y j : Nat) : Nat := x / 2 ^ j / y * 2 ^ j
def dr (x y j : Nat) : Nat := x / 2 ^ j % y

theorem half (x j : Nat) : x / 2 ^ j = 2 * (x / 2 ^ (j + 1)) + x / 2 ^ j % 2 := by
  rw [Nat.pow_succ, ← Nat.div_div_eq_div_mul]; omega
theorem dq_start (x y : Nat) (hx : x ≤ 9223372036854775808) : dq x y 64 = 0 ∧ dr x y 64 = 0 := by
  have : x / 2 ^ 64 = 0 := Nat.div_eq_of_lt (by have : (2 : Nat) ^ 64 = 18446744073709551616 := by decide
                                                omega)
  simp [dq, dr, this]
theorem dq_end (x y : Nat) : dq x y 0 = x / y ∧ dr x y 0 = x % y := by simp [dq, dr]

/-- One round: the next bit is taken, and y is taken off where it goes. -/
theorem dround (x y j : Nat) (hy : 0 < y) :
    (2 * dr x y (j + 1) + x / 2 ^ j % 2 < y → dr x y j = 2 * dr x y (j + 1) + x / 2 ^ j % 2 ∧ dq x y j = dq x y (j + 1)) ∧
    (y ≤ 2 * dr x y (j + 1) + x / 2 ^ j % 2 → dr x y j = 2 * dr x y (j + 1) + x / 2 ^ j % 2 - y ∧ dq x y j = dq x y (j + 1) + 2 ^ j) := by
  unfold dr dq
  have h := half x j
  have hb : x / 2 ^ j % 2 < 2 := Nat.mod_lt _ (by omega)
  generalize x / 2 ^ (j + 1) = P at *
  generalize x / 2 ^ j % 2 = b at *
  rw [h]
  have hP := Nat.div_add_mod P y
  have hr := Nat.mod_lt P hy
  generalize P / y = q at *
  generalize P % y = r at *
  subst hP
  have e : 2 * (y * q + r) + b = (2 * r + b) + y * (2 * q) := by rw [Nat.mul_add, Nat.mul_left_comm]; omega
  rw [e, Nat.add_mul_mod_self_left, Nat.add_mul_div_left _ _ hy]
  have e2 : q * 2 ^ (j + 1) = 2 * q * 2 ^ j := by rw [Nat.pow_succ, Nat.mul_comm (2 ^ j) 2, ← Nat.mul_assoc, Nat.mul_comm q 2]
  constructor
  · intro hl
    rw [Nat.mod_eq_of_lt hl, Nat.div_eq_of_lt hl, e2]; simp
  · intro hl
    have h1 : (2 * r + b) / y = 1 := by
      rw [Nat.div_eq_of_lt_le] <;> omega
    have h2 : (2 * r + b) % y = 2 * r + b - y := by rw [Nat.mod_eq_sub_mod hl, Nat.mod_eq_of_lt (by omega)]
    rw [h1, h2, e2, Nat.add_mul]
    exact ⟨rfl, by omega⟩
theorem dr_lt (x y j : Nat) (hy : 0 < y) : dr x y j < y := Nat.mod_lt _ hy
theorem dq_le (x y j : Nat) : dq x y j ≤ x := by
  unfold dq
  exact Nat.le_trans (Nat.mul_le_mul_right _ (Nat.div_le_self _ _)) (Nat.div_mul_le_self _ _)

end Go.Proofs.Ythkimoladjpjgaa
