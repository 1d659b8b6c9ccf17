/-
  Plain facts: what a cell holds stays, when blocks are laid behind. Conditions: none.
-/
import Derived.Test.YtknnobijdojjhaaMinus
import Derived.Handy
namespace Go.Proofs.Ytknnobijdojjhaa
open Go.RowKit

theorem cell_carry {w w' : World} {b o : Nat} {v : Value} (h : Below w.heap.size w w') (q : w.cell? ⟨b, o, none⟩ = some v) : w'.cell? ⟨b, o, none⟩ = some v := by
  rw [(bcell h).1 b o (block_lt_of_cell q)]; exact q
theorem froz_carry {w w' : World} {b o : Nat} {v : Value} (h : Below w.heap.size w w') (q : w.cell? ⟨b, o, none⟩ = some v) {o' : Nat} (f : w.frozen? ⟨b, o', none⟩ = false) : w'.frozen? ⟨b, o', none⟩ = false := by
  rw [(bcell h).2 b o' (block_lt_of_cell q)]; exact f
theorem below_alloc (w : World) (O : Obj) : Below w.heap.size w (w.alloc O) := by go_grown
theorem cell_alloc {w : World} {b o : Nat} {v : Value} (q : w.cell? ⟨b, o, none⟩ = some v) (O : Obj) : (w.alloc O).cell? ⟨b, o, none⟩ = some v := cell_carry (below_alloc w O) q
theorem froz_alloc {w : World} {b o : Nat} {v : Value} (q : w.cell? ⟨b, o, none⟩ = some v) {o' : Nat} (f : w.frozen? ⟨b, o', none⟩ = false) (O : Obj) : (w.alloc O).frozen? ⟨b, o', none⟩ = false := froz_carry (below_alloc w O) q f

end Go.Proofs.Ytknnobijdojjhaa
