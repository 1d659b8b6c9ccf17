/-
 Contracts and plain facts on the way to PrettyBack. Conditions: as each says.
-/
import Derived.Lib.AppendStr
import Derived.Test.YtoaplbljflhheaaGreatBav
set_option maxHeartbeats 40000000
set_option maxRecDepth 100000
set_option linter.unusedVariables false
set_option linter.unusedSimpArgs false
namespace Go.Proofs.YtoaplbljflhheaaGreat
open _root_.Go.Proofs.Tryz
section
open Go.RowKit
def c3f (s : ByteArray) (w : World) (v i : Value) (wr : World) : Prop :=
 ∃ k : Nat, k <= s.size ∧ i = .int .i64 k ∧ Own wr w.heap.size v (34 :: body (s.data.toList.take k)) ∧ Below w.heap.size w wr
theorem c3f.step {s : ByteArray} {w wr w1 : World} {v' : Value} {k : Nat} {m : List UInt8} (h : k < s.size) (hm : esc s[k] = m) (ho : Own w1 w.heap.size v' (34 :: body (s.data.toList.take k) ++ m)) (hb : Below w.heap.size w wr) (hb1 : Below w.heap.size wr w1) :
  c3f s w v' (.int .i64 ((k : Int) + 1)) w1 := by
 refine ⟨k + 1, h, by go_num, ?_, hb.trans hb1⟩;rw [Qg s k h, hm];exact ho
end
end Go.Proofs.YtoaplbljflhheaaGreat
