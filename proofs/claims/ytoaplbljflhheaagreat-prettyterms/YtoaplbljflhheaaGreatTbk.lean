/-
 Contracts and plain facts on the way to PrettyTerms. Conditions: as each says.
-/
import Derived.Laws.StructEq
import Derived.Lib.QuietBelow
import Derived.Test.YtoaplbljflhheaaGreatTbj
set_option maxHeartbeats 40000000
set_option maxRecDepth 100000
set_option linter.unusedVariables false
set_option linter.unusedSimpArgs false
namespace Go.Proofs.YtoaplbljflhheaaGreat
open Go.RowKit Go.Sort
def eqN (x y : Nd) : Bool := (x.kind == y.kind) && ((x.size == y.size) && ((x.num == y.num) && (x.text.data.toList == y.text.data.toList)))
def N2 (l m : List Nd) : Bool := decide (l.length = m.length) && (List.range l.length).all fun i => eqN (nd l i) (nd m i)
theorem a2s {l m : List Nd} (h : ¬ l.length = m.length) : N2 l m = false := by rw [N2, decide_eq_false h, Bool.false_and]
theorem a2t {l m : List Nd} {i : Nat} (hi : i < l.length) (h : eqN (nd l i) (nd m i) = false) : N2 l m = false := by
 rw [N2, Bool.and_eq_false_iff]
 right
 rw [List.all_eq_false]
 exact ⟨i, List.mem_range.2 hi, by rw [h]; simp⟩
theorem Pk {l m : List Nd} (h : l.length = m.length) (ha : ∀ i, i < l.length → eqN (nd l i) (nd m i) = true) : N2 l m = true := by
 rw [N2, decide_eq_true h, Bool.true_and, List.all_eq_true]
 intro i hi
 exact ha i (List.mem_range.1 hi)
end Go.Proofs.YtoaplbljflhheaaGreat
