/-
  '==' and '!=' between two complex numbers of the program (two integers each). Conditions: none.
-/
import Derived.Test.YtknnobijdojjhaaG1
import Derived.Laws.StructEq
namespace Go.Proofs.Ytknnobijdojjhaa
open Go.RowKit

theorem equalIn_cv (a b c d : Int) (w : World) : (Op.equalIn 10000 23 (cv a b) (cv c d)).run Try.prog w = .ok ((a == c) && (b == d)) w := by
  have u2 := Try.underlying2
  have a2 := Try.isAgg2
  have z2 := Try.sizeOf2
  have hS : Try.prog.underlying 23 = some (.struct (Try.prog.fieldsOf 23)) := by kernel_rfl
  have hp : Try.prog.stoodInHeld 23 = false := by kernel_rfl
  rw [show (10000 : Nat) = 9999 + 1 from rfl, run_equalIn_agg w 9999 23 _ _ hS hp]
  simp only [Program.fieldsOf, Try.underlying23]
  go_simp
  by_cases h1 : a = c <;> by_cases h2 : b = d <;> simp [h1, h2]

theorem eql_cv (a b c d : Int) (t : Bool) (h : ((a == c) && (b == d)) = t) (w : World) : (binOp .eql 23 (cv a b) (cv c d)).run Try.prog w = .ok (.bool t) w := by
  rw [run_eql_struct, equalIn_cv, h]; rfl
theorem neq_cv (a b c d : Int) (t : Bool) (h : (!((a == c) && (b == d))) = t) (w : World) : (binOp .neq 23 (cv a b) (cv c d)).run Try.prog w = .ok (.bool t) w := by
  rw [run_neq_struct, equalIn_cv, ← h]; rfl
theorem guard_cv (op : BinOp) (x y : Operand) (a b c d : Int) (w : World) : (eqGuard op 23 x y (cv a b) (cv c d)).run Try.prog w = .ok () w :=
  run_eqGuard_agg w op 23 x y _ _ (by kernel_rfl)
theorem eql_same (a b : Int) : (a == a && b == b) = true := by simp

end Go.Proofs.Ytknnobijdojjhaa
