/-
  Plain facts on numbers that go round (wrap64). No program is spoken of. Conditions: none.
-/
import Derived.WalkKit
namespace Go.Proofs.Ythkimoladjpjgaa
open Go.RowKit

theorem w64_mul (x k : Int) : wrap64 (x + k * 18446744073709551616) = wrap64 x := by
  unfold wrap64
  have : (x + k * 18446744073709551616 + 9223372036854775808) = (x + 9223372036854775808) + 18446744073709551616 * k := by omega
  rw [this, Int.add_mul_emod_self_left]
theorem w64_ex (x : Int) : ∃ k, wrap64 x = x + k * 18446744073709551616 := by
  unfold wrap64
  exact ⟨-((x + 9223372036854775808) / 18446744073709551616), by omega⟩
theorem w64_congr {x y : Int} (k : Int) (h : x = y + k * 18446744073709551616) : wrap64 x = wrap64 y := by
  rw [h, w64_mul]
theorem w64_addl (x y : Int) : wrap64 (wrap64 x + y) = wrap64 (x + y) := by
  obtain ⟨k, hk⟩ := w64_ex x
  rw [hk]; exact w64_congr k (by omega)
theorem w64_addr (x y : Int) : wrap64 (x + wrap64 y) = wrap64 (x + y) := by
  rw [Int.add_comm, w64_addl, Int.add_comm]
theorem w64_mull (x y : Int) : wrap64 (wrap64 x * y) = wrap64 (x * y) := by
  obtain ⟨k, hk⟩ := w64_ex x
  rw [hk]; exact w64_congr (k * y) (by rw [Int.add_mul, Int.mul_right_comm])
theorem w64_mulr (x y : Int) : wrap64 (x * wrap64 y) = wrap64 (x * y) := by
  rw [Int.mul_comm, w64_mull, Int.mul_comm]
theorem w64_wrap (x : Int) : wrap64 (wrap64 x) = wrap64 x := by
  have := w64_addl x 0
  simpa using this
theorem w64_sub (x y : Int) : wrap64 (x + wrap64 (-y)) = wrap64 (x - y) := by
  rw [w64_addr, Int.sub_eq_add_neg]

end Go.Proofs.Ythkimoladjpjgaa
