/-
  Expressions in as many round brackets as may be, and in more, reckoned. Conditions: fewer than 100 brackets.
-/
import Derived.Test.YtbknflaooemigaaAw
namespace Go.Proofs.Ytbknflaooemigaa
open Go.RowKit Go.Sort
set_option linter.unusedVariables false

def deepT (k : Nat) : List UInt8 := List.replicate k 40 ++ 120 :: List.replicate k 41
def deepR (k : Nat) : Bool := match toksF 300 (deepT k) 1 1 with
  | .ok T => match wholeP (exprP T.length) T with
    | .ok (.cons i .nil .nil) _ => decide (k ≤ 40) && i.kind == 26 && i.line == 1 && i.col == k + 1
    | .bad c l j => decide (40 < k) && c == 6 && l == 1 && j == 41
    | _ => false
  | .error _ => false
theorem deep_all : (List.range 100).all deepR = true := by kernel_rfl

end Go.Proofs.Ytbknflaooemigaa
