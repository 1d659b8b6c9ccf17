/-
  No cell of these rows narrows 'for every input' (looked for: loops, veiled, ifaces, maps, wideKeys, modest, calm, conditions, laid).
  DERIVED. THE GIVEN ROWS OF THIS SEAT. 7 by the template 'for every input the law returns true; each argument reads behind the call as it read before'; 0 by the template 'total and deterministic' (their statements: YtknnobijdojjhaaTotals.lean).
  GIVEN WITH THE SEED: the statements are not yours to turn. If you find one false, say at which input.
  Laid BY PROGRAM, IN A SANDBOX (cutbox-rows.mjs): the forced cells as the released guide's own fill.sh prints them over the translation 710c092aeeaf91fa… (all of the seat's roots in one cut). By AI agents, Wed Nov 11 2026. No macro, syntax, notation, axiom, sorry.
-/
import Derived.Test.YtknnobijdojjhaaChecked
import GoSem.Claim
import GoSem.ClaimJoined
import GoSem.ClaimMapViews
import Derived.JoinedTies
import Derived.KernelRfl
namespace Go.Proofs.Ytknnobijdojjhaa
/- THE CELL 'sum', in the pinned program and in every row, IS THE sha256 OF THE DUMP (.gsa) THAT YtknnobijdojjhaaProg.lean LOADS. Nothing in Lean hashes anything: it is a label: what it is worth is what the hold of that sum in a sandbox is worth. -/
noncomputable def Try.pinned : Pinned := { name := "ytknnobijdojjhaa", sum := "710c092aeeaf91fa1ac96dacdce7eb86f4988c0f7072f77ceb3bfb587eeff604", checked := Try.checked }
namespace Rows
def none {H : Type} : Left H := { results := [], args := [] }

/-- 'hindcastlaw02.GaussSums': WHATEVER THE INPUT: true; the input reads as it did. -/
def gaussSumsSpec : ChangeSpec := { name := "gaussSums", fn := fun _ => fun
  | [d1, d2] => { results := [.lit (.bool true)], args := [d1, d2] }
  | _ => none }
def gaussSumsRow : OpenClaim := { program := "ytknnobijdojjhaa", sum := "710c092aeeaf91fa1ac96dacdce7eb86f4988c0f7072f77ceb3bfb587eeff604", func := "hindcast/hindcastlaw02.GaussSums", spec := "gaussSums", apart := false }
def GaussSumsSaid : Prop := gaussSumsRow.holds Try.pinned (OpenSpec.ofChange gaussSumsSpec)

/-- ITS FALSE NEIGHBOUR: 'it returns false'. Refute it at one input. -/
def gaussSumsWrong : ChangeSpec := { name := "gaussSums", fn := fun _ => fun
  | [d1, d2] => { results := [.lit (.bool false)], args := [d1, d2] }
  | _ => none }
def GaussSumsWrongFalsely : Prop := gaussSumsRow.holds Try.pinned (OpenSpec.ofChange gaussSumsWrong)

/-- 'hindcastlaw02.GaussProducts': WHATEVER THE INPUT: true; the input reads as it did. -/
def gaussProductsSpec : ChangeSpec := { name := "gaussProducts", fn := fun _ => fun
  | [d1, d2] => { results := [.lit (.bool true)], args := [d1, d2] }
  | _ => none }
def gaussProductsRow : OpenClaim := { program := "ytknnobijdojjhaa", sum := "710c092aeeaf91fa1ac96dacdce7eb86f4988c0f7072f77ceb3bfb587eeff604", func := "hindcast/hindcastlaw02.GaussProducts", spec := "gaussProducts", apart := false }
def GaussProductsSaid : Prop := gaussProductsRow.holds Try.pinned (OpenSpec.ofChange gaussProductsSpec)

/-- ITS FALSE NEIGHBOUR: 'it returns false'. Refute it at one input. -/
def gaussProductsWrong : ChangeSpec := { name := "gaussProducts", fn := fun _ => fun
  | [d1, d2] => { results := [.lit (.bool false)], args := [d1, d2] }
  | _ => none }
def GaussProductsWrongFalsely : Prop := gaussProductsRow.holds Try.pinned (OpenSpec.ofChange gaussProductsWrong)

/-- 'hindcastlaw02.GaussRing': WHATEVER THE INPUT: true; the input reads as it did. -/
def gaussRingSpec : ChangeSpec := { name := "gaussRing", fn := fun _ => fun
  | [d1, d2, d3] => { results := [.lit (.bool true)], args := [d1, d2, d3] }
  | _ => none }
def gaussRingRow : OpenClaim := { program := "ytknnobijdojjhaa", sum := "710c092aeeaf91fa1ac96dacdce7eb86f4988c0f7072f77ceb3bfb587eeff604", func := "hindcast/hindcastlaw02.GaussRing", spec := "gaussRing", apart := false }
def GaussRingSaid : Prop := gaussRingRow.holds Try.pinned (OpenSpec.ofChange gaussRingSpec)

/-- ITS FALSE NEIGHBOUR: 'it returns false'. Refute it at one input. -/
def gaussRingWrong : ChangeSpec := { name := "gaussRing", fn := fun _ => fun
  | [d1, d2, d3] => { results := [.lit (.bool false)], args := [d1, d2, d3] }
  | _ => none }
def GaussRingWrongFalsely : Prop := gaussRingRow.holds Try.pinned (OpenSpec.ofChange gaussRingWrong)

/-- 'hindcastlaw02.GaussNorms': WHATEVER THE INPUT: true; the input reads as it did. -/
def gaussNormsSpec : ChangeSpec := { name := "gaussNorms", fn := fun _ => fun
  | [d] => { results := [.lit (.bool true)], args := [d] }
  | _ => none }
def gaussNormsRow : OpenClaim := { program := "ytknnobijdojjhaa", sum := "710c092aeeaf91fa1ac96dacdce7eb86f4988c0f7072f77ceb3bfb587eeff604", func := "hindcast/hindcastlaw02.GaussNorms", spec := "gaussNorms", apart := false }
def GaussNormsSaid : Prop := gaussNormsRow.holds Try.pinned (OpenSpec.ofChange gaussNormsSpec)

/-- ITS FALSE NEIGHBOUR: 'it returns false'. Refute it at one input. -/
def gaussNormsWrong : ChangeSpec := { name := "gaussNorms", fn := fun _ => fun
  | [d] => { results := [.lit (.bool false)], args := [d] }
  | _ => none }
def GaussNormsWrongFalsely : Prop := gaussNormsRow.holds Try.pinned (OpenSpec.ofChange gaussNormsWrong)

/-- 'hindcastlaw02.GaussParts': WHATEVER THE INPUT: true; the input reads as it did. -/
def gaussPartsSpec : ChangeSpec := { name := "gaussParts", fn := fun _ => fun
  | [d1, d2] => { results := [.lit (.bool true)], args := [d1, d2] }
  | _ => none }
def gaussPartsRow : OpenClaim := { program := "ytknnobijdojjhaa", sum := "710c092aeeaf91fa1ac96dacdce7eb86f4988c0f7072f77ceb3bfb587eeff604", func := "hindcast/hindcastlaw02.GaussParts", spec := "gaussParts", apart := false }
def GaussPartsSaid : Prop := gaussPartsRow.holds Try.pinned (OpenSpec.ofChange gaussPartsSpec)

/-- ITS FALSE NEIGHBOUR: 'it returns false'. Refute it at one input. -/
def gaussPartsWrong : ChangeSpec := { name := "gaussParts", fn := fun _ => fun
  | [d1, d2] => { results := [.lit (.bool false)], args := [d1, d2] }
  | _ => none }
def GaussPartsWrongFalsely : Prop := gaussPartsRow.holds Try.pinned (OpenSpec.ofChange gaussPartsWrong)

/-- 'hindcastlaw02.GaussTexts': WHATEVER THE INPUT: true; the input reads as it did. -/
def gaussTextsSpec : ChangeSpec := { name := "gaussTexts", fn := fun _ => fun
  | [d] => { results := [.lit (.bool true)], args := [d] }
  | _ => none }
def gaussTextsRow : OpenClaim := { program := "ytknnobijdojjhaa", sum := "710c092aeeaf91fa1ac96dacdce7eb86f4988c0f7072f77ceb3bfb587eeff604", func := "hindcast/hindcastlaw02.GaussTexts", spec := "gaussTexts", apart := false }
def GaussTextsSaid : Prop := gaussTextsRow.holds Try.pinned (OpenSpec.ofChange gaussTextsSpec)

/-- ITS FALSE NEIGHBOUR: 'it returns false'. Refute it at one input. -/
def gaussTextsWrong : ChangeSpec := { name := "gaussTexts", fn := fun _ => fun
  | [d] => { results := [.lit (.bool false)], args := [d] }
  | _ => none }
def GaussTextsWrongFalsely : Prop := gaussTextsRow.holds Try.pinned (OpenSpec.ofChange gaussTextsWrong)

/-- 'hindcastlaw02.GaussReads': WHATEVER THE INPUT: true; the input reads as it did. -/
def gaussReadsSpec : ChangeSpec := { name := "gaussReads", fn := fun _ => fun
  | [d] => { results := [.lit (.bool true)], args := [d] }
  | _ => none }
def gaussReadsRow : OpenClaim := { program := "ytknnobijdojjhaa", sum := "710c092aeeaf91fa1ac96dacdce7eb86f4988c0f7072f77ceb3bfb587eeff604", func := "hindcast/hindcastlaw02.GaussReads", spec := "gaussReads", apart := false }
def GaussReadsSaid : Prop := gaussReadsRow.holds Try.pinned (OpenSpec.ofChange gaussReadsSpec)

/-- ITS FALSE NEIGHBOUR: 'it returns false'. Refute it at one input. -/
def gaussReadsWrong : ChangeSpec := { name := "gaussReads", fn := fun _ => fun
  | [d] => { results := [.lit (.bool false)], args := [d] }
  | _ => none }
def GaussReadsWrongFalsely : Prop := gaussReadsRow.holds Try.pinned (OpenSpec.ofChange gaussReadsWrong)

/- THE SECOND FORM. 'bulk': how many values and letters a reading holds, each counted each time it is reached (what is shared counts as often as it is met; a slice's spare places count too). A statement '..UptoSaid' is the law's where the arguments, and the package variables that the reading takes, are together of bulk at most 1048576: NARROWER than '..Said'. Prove '..Said' where nothing that the law and all that it calls make is longer than what came in: it says more and counts as full. Else prove '..UptoSaid'. A law counts once. -/
mutual
def uptoBulk {H : Type} : DataW H → Nat
  | .lit (.string bytes) => bytes.length + 1
  | .lit _ => 1
  | .nil => 1
  | .ptr d => uptoBulk d + 1
  | .slice elems spare => uptoBulkAll elems + uptoBulkAll spare + 1
  | .agg parts => uptoBulkAll parts + 1
  | .iface _ d => uptoBulk d + 1
  | .map entries => uptoBulkEntries entries + 1
  | .held _ => 1
def uptoBulkAll {H : Type} : List (DataW H) → Nat
  | [] => 0
  | d :: r => uptoBulk d + uptoBulkAll r
def uptoBulkEntries {H : Type} : List (Lit × DataW H) → Nat
  | [] => 0
  | x :: r => uptoBulkEntry x + uptoBulkEntries r
def uptoBulkEntry {H : Type} : Lit × DataW H → Nat
  | (.string bytes, d) => bytes.length + uptoBulk d + 1
  | (_, d) => uptoBulk d + 1
 end
def uptoSmall : (H : Type) → List (DataW H) → Bool := fun _ ds => decide (uptoBulkAll ds ≤ 1048576)
def OpenSpec.upto (s : _root_.Go.ChangeSpec) : _root_.Go.OpenSpec := { _root_.Go.OpenSpec.ofChange s with cond := some uptoSmall }

/-- 'hindcastlaw02.GaussSums', WHERE WHAT IT READS IS OF BULK AT MOST 1048576: true; the input reads as it did. -/
def gaussSumsUptoRow : OpenClaim := { program := "ytknnobijdojjhaa", sum := "710c092aeeaf91fa1ac96dacdce7eb86f4988c0f7072f77ceb3bfb587eeff604", func := "hindcast/hindcastlaw02.GaussSums", spec := "gaussSums", apart := false, narrowed := true }
def GaussSumsUptoSaid : Prop := gaussSumsUptoRow.holds Try.pinned (OpenSpec.upto gaussSumsSpec)

/-- 'hindcastlaw02.GaussProducts', WHERE WHAT IT READS IS OF BULK AT MOST 1048576: true; the input reads as it did. -/
def gaussProductsUptoRow : OpenClaim := { program := "ytknnobijdojjhaa", sum := "710c092aeeaf91fa1ac96dacdce7eb86f4988c0f7072f77ceb3bfb587eeff604", func := "hindcast/hindcastlaw02.GaussProducts", spec := "gaussProducts", apart := false, narrowed := true }
def GaussProductsUptoSaid : Prop := gaussProductsUptoRow.holds Try.pinned (OpenSpec.upto gaussProductsSpec)

/-- 'hindcastlaw02.GaussRing', WHERE WHAT IT READS IS OF BULK AT MOST 1048576: true; the input reads as it did. -/
def gaussRingUptoRow : OpenClaim := { program := "ytknnobijdojjhaa", sum := "710c092aeeaf91fa1ac96dacdce7eb86f4988c0f7072f77ceb3bfb587eeff604", func := "hindcast/hindcastlaw02.GaussRing", spec := "gaussRing", apart := false, narrowed := true }
def GaussRingUptoSaid : Prop := gaussRingUptoRow.holds Try.pinned (OpenSpec.upto gaussRingSpec)

/-- 'hindcastlaw02.GaussNorms', WHERE WHAT IT READS IS OF BULK AT MOST 1048576: true; the input reads as it did. -/
def gaussNormsUptoRow : OpenClaim := { program := "ytknnobijdojjhaa", sum := "710c092aeeaf91fa1ac96dacdce7eb86f4988c0f7072f77ceb3bfb587eeff604", func := "hindcast/hindcastlaw02.GaussNorms", spec := "gaussNorms", apart := false, narrowed := true }
def GaussNormsUptoSaid : Prop := gaussNormsUptoRow.holds Try.pinned (OpenSpec.upto gaussNormsSpec)

/-- 'hindcastlaw02.GaussParts', WHERE WHAT IT READS IS OF BULK AT MOST 1048576: true; the input reads as it did. -/
def gaussPartsUptoRow : OpenClaim := { program := "ytknnobijdojjhaa", sum := "710c092aeeaf91fa1ac96dacdce7eb86f4988c0f7072f77ceb3bfb587eeff604", func := "hindcast/hindcastlaw02.GaussParts", spec := "gaussParts", apart := false, narrowed := true }
def GaussPartsUptoSaid : Prop := gaussPartsUptoRow.holds Try.pinned (OpenSpec.upto gaussPartsSpec)

/-- 'hindcastlaw02.GaussTexts', WHERE WHAT IT READS IS OF BULK AT MOST 1048576: true; the input reads as it did. -/
def gaussTextsUptoRow : OpenClaim := { program := "ytknnobijdojjhaa", sum := "710c092aeeaf91fa1ac96dacdce7eb86f4988c0f7072f77ceb3bfb587eeff604", func := "hindcast/hindcastlaw02.GaussTexts", spec := "gaussTexts", apart := false, narrowed := true }
def GaussTextsUptoSaid : Prop := gaussTextsUptoRow.holds Try.pinned (OpenSpec.upto gaussTextsSpec)

/-- 'hindcastlaw02.GaussReads', WHERE WHAT IT READS IS OF BULK AT MOST 1048576: true; the input reads as it did. -/
def gaussReadsUptoRow : OpenClaim := { program := "ytknnobijdojjhaa", sum := "710c092aeeaf91fa1ac96dacdce7eb86f4988c0f7072f77ceb3bfb587eeff604", func := "hindcast/hindcastlaw02.GaussReads", spec := "gaussReads", apart := false, narrowed := true }
def GaussReadsUptoSaid : Prop := gaussReadsUptoRow.holds Try.pinned (OpenSpec.upto gaussReadsSpec)

end Rows
end Go.Proofs.Ytknnobijdojjhaa
