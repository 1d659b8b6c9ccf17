/-
  A scope whose label is jumped back to by goto: the round is walked once. No program is spoken of. Conditions: as said.
-/
import Derived.Test.YtbknflaooemigaaBase
import Derived.ScopeJumps
import Derived.WalkMore
namespace Go.Proofs.Ytbknflaooemigaa
open Go.RowKit

/-- A scope whose label is jumped back to: the round is walked once. -/
theorem wp_scope_goto {P : Program} {a : Act} {w : World} {Q : Exit → Act → World → Prop} {c rest : Code} (l : Nat) (J : Act → World → Prop) (μ : Act → World → Nat) (hf : findLabel c l = some (Code.skip.seq rest))
    (round : ∀ a w, J a w → rest.wp P (Exit.jump l (fun a' w' => J a' w' ∧ μ a' w' < μ a w) Q) a w)
    (first : (∀ a w, J a w → rest.wp P (Exit.jump l J Q) a w) → c.wp P (Exit.jump l J Q) a w) : (Code.scope c).wp P Q a w :=
  wp_scope_jumps l J μ hf (first fun a w h => wp_mono (round a w h) fun e a' w' h' => by
    cases e with
    | goto => exact ⟨h'.1, h'.2.1⟩
    | _ => exact h') fun a w h => wp_seq (wp_skip (round a w h))

end Go.Proofs.Ytbknflaooemigaa
