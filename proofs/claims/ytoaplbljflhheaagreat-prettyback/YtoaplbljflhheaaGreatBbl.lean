/-
 Contracts and plain facts on the way to PrettyBack. Conditions: as each says.
-/
import Derived.Laws.StructEq
import Derived.Lib.QuietBelow
import Derived.Test.YtoaplbljflhheaaGreatBbk
set_option maxHeartbeats 40000000
set_option maxRecDepth 100000
set_option linter.unusedVariables false
set_option linter.unusedSimpArgs false
namespace Go.Proofs.YtoaplbljflhheaaGreat
open _root_.Go.Proofs.Tryz
section
open Go.RowKit Go.Sort
def eqN (x y : Nd) : Bool := (x.kind == y.kind) && ((x.size == y.size) && ((x.num == y.num) && (x.text.data.toList == y.text.data.toList)))
def Uc (l m : List Nd) : Bool := decide (l.length = m.length) && (List.range l.length).all fun i => eqN (nd l i) (nd m i)
theorem a8d {l m : List Nd} (h : ¬ l.length = m.length) : Uc l m = false := by rw [Uc, decide_eq_false h, Bool.false_and]
theorem a8e {l m : List Nd} {i : Nat} (hi : i < l.length) (h : eqN (nd l i) (nd m i) = false) : Uc l m = false := by
 rw [Uc, Bool.and_eq_false_iff];right;rw [List.all_eq_false];exact ⟨i, List.mem_range.2 hi, by rw [h]; simp⟩
theorem Ub {l m : List Nd} (h : l.length = m.length) (ha : ∀ i, i < l.length -> eqN (nd l i) (nd m i) = true) : Uc l m = true := by
 rw [Uc, decide_eq_true h, Bool.true_and, List.all_eq_true];intro i hi;exact ha i (List.mem_range.1 hi)
end
end Go.Proofs.YtoaplbljflhheaaGreat
