/-
 Contracts and plain facts on the way to PrettyBack. Conditions: as each says.
-/
import Derived.Test.YtoaplbljflhheaaGreatBah
set_option maxHeartbeats 40000000
set_option maxRecDepth 100000
set_option linter.unusedVariables false
set_option linter.unusedSimpArgs false
namespace Go.Proofs.YtoaplbljflhheaaGreat
open _root_.Go.Proofs.Tryz
section
open Go.RowKit Go.Deep Go.ChangeShapes Go.WideShapes
theorem a81 {H : Type} {enc : TypeId × Value -> H} {w : World} {base : Nat} {spare : Nat -> Bool} {held : Bool} {fuel : Nat} {a : Option Addr} {len cap : Nat} {x : DataW H × List MemPlace} (h : DataW.trod enc prog w base spare held fuel 22 [.slice a len cap] = some x) : a = none -> len = 0 ∧ cap = 0 := by
 rcases open_slice underlying22 h with ⟨h0, _⟩ | ⟨a', len', cap', m, n, D, Pl, hcs, _⟩
 ·simp at h0;exact fun _ => ⟨h0.2.1, h0.2.2⟩
 ·simp at hcs;intro e;rw [e] at hcs;exact absurd hcs.1 (by simp)
end
end Go.Proofs.YtoaplbljflhheaaGreat
