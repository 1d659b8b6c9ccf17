/-
  Plain facts on parts that go round: sums and products are the same in any order. Conditions: none.
-/
import Derived.Test.YtknnobijdojjhaaG3
namespace Go.Proofs.Ytknnobijdojjhaa
open Go.RowKit

def Md (x y : Int) : Prop := ∃ k, x = y + k * 16777216
theorem md_refl (x : Int) : Md x x := ⟨0, by omega⟩
theorem md_r (x : Int) : Md (r24 x) x := r24_ex x
theorem md_add {a b c d : Int} (h : Md a b) (h' : Md c d) : Md (a + c) (b + d) := by
  obtain ⟨k, rfl⟩ := h
  obtain ⟨l, rfl⟩ := h'
  exact ⟨k + l, by rw [Int.add_mul]; omega⟩
theorem md_sub {a b c d : Int} (h : Md a b) (h' : Md c d) : Md (a - c) (b - d) := by
  obtain ⟨k, rfl⟩ := h
  obtain ⟨l, rfl⟩ := h'
  exact ⟨k - l, by rw [Int.sub_mul]; omega⟩
theorem md_neg {a b : Int} (h : Md a b) : Md (-a) (-b) := by
  obtain ⟨k, rfl⟩ := h
  exact ⟨-k, by omega⟩
theorem md_mul {a b c d : Int} (h : Md a b) (h' : Md c d) : Md (a * c) (b * d) := by
  obtain ⟨k, rfl⟩ := h
  obtain ⟨l, rfl⟩ := h'
  refine ⟨k * d + b * l + k * 16777216 * l, ?_⟩
  simp only [Int.add_mul, Int.mul_add, Int.mul_assoc, Int.mul_comm, Int.mul_left_comm]
  omega
theorem md_trans {a b c : Int} (h : Md a b) (h' : Md b c) : Md a c := by
  obtain ⟨k, rfl⟩ := h
  obtain ⟨l, rfl⟩ := h'
  exact ⟨k + l, by rw [Int.add_mul]; omega⟩
theorem r24_md {a b : Int} (h : Md a b) : r24 a = r24 b := by
  obtain ⟨k, h⟩ := h
  exact r24_congr k h
/-- Both are the same number, going round. -/
theorem r24_both {a b c : Int} (h : Md a c) (h' : Md b c) : r24 a = r24 b := (r24_md h).trans (r24_md h').symm
theorem r24_same {a b x y : Int} (h : Md a x) (h' : Md b y) (e : x = y) : r24 a = r24 b := by subst e; exact r24_both h h'

theorem add_to (a b c d x y : Int) (h1 : r24 (r24 a + r24 c) = x) (h2 : r24 (r24 b + r24 d) = y) (w : World) :
    Calls Try.prog 12 #[cv a b, cv c d] w fun e w' => e = .returned (cv x y) ∧ Below w.heap.size w w' := by
  subst h1 h2; exact add_any a b c d w
theorem mul_to (a b c d x y : Int) (h1 : r24 (r24 a * r24 c - r24 b * r24 d) = x) (h2 : r24 (r24 a * r24 d + r24 b * r24 c) = y) (w : World) :
    Calls Try.prog 19 #[cv a b, cv c d] w fun e w' => e = .returned (cv x y) ∧ Below w.heap.size w w' := by
  subst h1 h2; exact mul_any a b c d w

theorem ring_u0 (a b c d e f : Int) : a * (c * e - d * f) - b * (c * f + d * e) = (a * c - b * d) * e - (a * d + b * c) * f := by
  rw [Int.mul_sub, Int.mul_add, Int.sub_mul, Int.add_mul, Int.mul_assoc, Int.mul_assoc, Int.mul_assoc, Int.mul_assoc]; omega
theorem ring_u1 (a b c d e f : Int) : a * (c * f + d * e) + b * (c * e - d * f) = (a * c - b * d) * f + (a * d + b * c) * e := by
  rw [Int.mul_sub, Int.mul_add, Int.sub_mul, Int.add_mul, Int.mul_assoc, Int.mul_assoc, Int.mul_assoc, Int.mul_assoc]; omega
theorem ring_v0 (a b c d e f : Int) : (a * c - b * d) + (a * e - b * f) = a * (c + e) - b * (d + f) := by
  rw [Int.mul_add, Int.mul_add]; omega
theorem ring_v1 (a b c d e f : Int) : (a * d + b * c) + (a * f + b * e) = a * (d + f) + b * (c + e) := by
  rw [Int.mul_add, Int.mul_add]; omega

theorem sq_nonneg (x : Int) : 0 ≤ x * x := by
  rw [← Int.natAbs_mul_self]; exact Int.natCast_nonneg _

end Go.Proofs.Ytknnobijdojjhaa
