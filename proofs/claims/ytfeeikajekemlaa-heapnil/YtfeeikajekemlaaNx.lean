/-
  The walk of HeapNil, whatever the operation. Conditions: none.
-/
import Derived.Test.YtfeeikajekemlaaNw
namespace Go.Proofs.Ytfeeikajekemlaa
open Go.RowKit
theorem heapNil_walk (o : Op) (a : Option Addr) (n c : Nat) (w : World) : Calls Try.prog 8 #[.agg (opCells o a n c).toArray] w fun e w' => e = .returned (.bool true) ∧ Below w.heap.size w w' := by
  obtain ⟨kd, f, i, s, ⟨kv, nv, rv, iv⟩, ⟨kx, nx, rx, ix⟩, l⟩ := o
  by_cases h : 1000 < s.size ∨ 300 < n
  · exact nil_great kd f i s kv nv rv iv kx nx rx ix a n c w h
  · exact nil_small kd f i s kv nv rv iv kx nx rx ix a n c w (fun e => h (.inl e)) (fun e => h (.inr e))
end Go.Proofs.Ytfeeikajekemlaa
