/-
  No cell of these rows narrows 'for every input' (looked for: loops, veiled, ifaces, maps, wideKeys, modest, calm, conditions, laid).
  DERIVED. THE GIVEN ROWS OF THIS SEAT. 5 by the template 'for every input the law returns true; each argument reads behind the call as it read before'; 0 by the template 'total and deterministic' (their statements: YtoaplbljflhheaaGreatTotals.lean).
  GIVEN WITH THE SEED: the statements are not yours to turn. If you find one false, say at which input.
  Laid BY PROGRAM, IN A SANDBOX (cutbox-rows.mjs): the forced cells as the released guide's own fill.sh prints them over the translation 94659f59eaea03c2… (all of the seat's roots in one cut). By AI agents, Wed Nov 11 2026. No macro, syntax, notation, axiom, sorry.
-/
import Derived.Test.YtoaplbljflhheaaGreatChecked
import GoSem.Claim
import GoSem.ClaimJoined
import GoSem.ClaimMapViews
import Derived.JoinedTies
import Derived.KernelRfl
namespace Go.Proofs.YtoaplbljflhheaaGreat
/- THE CELL 'sum', in the pinned program and in every row, IS THE sha256 OF THE DUMP (.gsa) THAT YtoaplbljflhheaaGreatProg.lean LOADS. Nothing in Lean hashes anything: it is a label: what it is worth is what the hold of that sum in a sandbox is worth. -/
noncomputable def Tryz.pinned : Pinned := { name := "ytoaplbljflhheaagreat", sum := "94659f59eaea03c2e60d764bf3a5c3923a8237c3508e64b8b328babca74360e1", checked := Tryz.checked }
namespace Rows
def none {H : Type} : Left H := { results := [], args := [] }

/-- 'hindcastlaw07.PrettyWrites': WHATEVER THE INPUT: true; the input reads as it did. -/
def prettyWritesSpec : ChangeSpec := { name := "prettyWrites", fn := fun _ => fun
  | [d] => { results := [.lit (.bool true)], args := [d] }
  | _ => none }
def prettyWritesRow : OpenClaim := { program := "ytoaplbljflhheaagreat", sum := "94659f59eaea03c2e60d764bf3a5c3923a8237c3508e64b8b328babca74360e1", func := "hindcast/hindcastlaw07.PrettyWrites", spec := "prettyWrites", inPlace := ["internal/abi.NoEscape", "internal/bytealg.MakeNoZero"], unfollowed := true, recurses := true, apart := false }
def PrettyWritesSaid : Prop := prettyWritesRow.holds Tryz.pinned (OpenSpec.ofChange prettyWritesSpec)

/-- ITS FALSE NEIGHBOUR: 'it returns false'. Refute it at one input. -/
def prettyWritesWrong : ChangeSpec := { name := "prettyWrites", fn := fun _ => fun
  | [d] => { results := [.lit (.bool false)], args := [d] }
  | _ => none }
def PrettyWritesWrongFalsely : Prop := prettyWritesRow.holds Tryz.pinned (OpenSpec.ofChange prettyWritesWrong)

/-- 'hindcastlaw07.PrettyExprs': WHATEVER THE INPUT: true; the input reads as it did. -/
def prettyExprsSpec : ChangeSpec := { name := "prettyExprs", fn := fun _ => fun
  | [d] => { results := [.lit (.bool true)], args := [d] }
  | _ => none }
def prettyExprsRow : OpenClaim := { program := "ytoaplbljflhheaagreat", sum := "94659f59eaea03c2e60d764bf3a5c3923a8237c3508e64b8b328babca74360e1", func := "hindcast/hindcastlaw07.PrettyExprs", spec := "prettyExprs", inPlace := ["internal/abi.NoEscape", "internal/bytealg.MakeNoZero"], unfollowed := true, recurses := true, apart := false }
def PrettyExprsSaid : Prop := prettyExprsRow.holds Tryz.pinned (OpenSpec.ofChange prettyExprsSpec)

/-- ITS FALSE NEIGHBOUR: 'it returns false'. Refute it at one input. -/
def prettyExprsWrong : ChangeSpec := { name := "prettyExprs", fn := fun _ => fun
  | [d] => { results := [.lit (.bool false)], args := [d] }
  | _ => none }
def PrettyExprsWrongFalsely : Prop := prettyExprsRow.holds Tryz.pinned (OpenSpec.ofChange prettyExprsWrong)

/-- 'hindcastlaw07.PrettyBack': WHATEVER THE INPUT: true; the input reads as it did. -/
def prettyBackSpec : ChangeSpec := { name := "prettyBack", fn := fun _ => fun
  | [d] => { results := [.lit (.bool true)], args := [d] }
  | _ => none }
def prettyBackRow : OpenClaim := { program := "ytoaplbljflhheaagreat", sum := "94659f59eaea03c2e60d764bf3a5c3923a8237c3508e64b8b328babca74360e1", func := "hindcast/hindcastlaw07.PrettyBack", spec := "prettyBack", inPlace := ["internal/abi.NoEscape", "internal/bytealg.MakeNoZero"], unfollowed := true, recurses := true, apart := false }
def PrettyBackSaid : Prop := prettyBackRow.holds Tryz.pinned (OpenSpec.ofChange prettyBackSpec)

/-- ITS FALSE NEIGHBOUR: 'it returns false'. Refute it at one input. -/
def prettyBackWrong : ChangeSpec := { name := "prettyBack", fn := fun _ => fun
  | [d] => { results := [.lit (.bool false)], args := [d] }
  | _ => none }
def PrettyBackWrongFalsely : Prop := prettyBackRow.holds Tryz.pinned (OpenSpec.ofChange prettyBackWrong)

/-- 'hindcastlaw07.PrettyAgain': WHATEVER THE INPUT: true; the input reads as it did. -/
def prettyAgainSpec : ChangeSpec := { name := "prettyAgain", fn := fun _ => fun
  | [d] => { results := [.lit (.bool true)], args := [d] }
  | _ => none }
def prettyAgainRow : OpenClaim := { program := "ytoaplbljflhheaagreat", sum := "94659f59eaea03c2e60d764bf3a5c3923a8237c3508e64b8b328babca74360e1", func := "hindcast/hindcastlaw07.PrettyAgain", spec := "prettyAgain", inPlace := ["internal/abi.NoEscape", "internal/bytealg.MakeNoZero"], unfollowed := true, recurses := true, apart := false }
def PrettyAgainSaid : Prop := prettyAgainRow.holds Tryz.pinned (OpenSpec.ofChange prettyAgainSpec)

/-- ITS FALSE NEIGHBOUR: 'it returns false'. Refute it at one input. -/
def prettyAgainWrong : ChangeSpec := { name := "prettyAgain", fn := fun _ => fun
  | [d] => { results := [.lit (.bool false)], args := [d] }
  | _ => none }
def PrettyAgainWrongFalsely : Prop := prettyAgainRow.holds Tryz.pinned (OpenSpec.ofChange prettyAgainWrong)

/-- 'hindcastlaw07.PrettyTerms': WHATEVER THE INPUT: true; the input reads as it did. -/
def prettyTermsSpec : ChangeSpec := { name := "prettyTerms", fn := fun _ => fun
  | [d] => { results := [.lit (.bool true)], args := [d] }
  | _ => none }
def prettyTermsRow : OpenClaim := { program := "ytoaplbljflhheaagreat", sum := "94659f59eaea03c2e60d764bf3a5c3923a8237c3508e64b8b328babca74360e1", func := "hindcast/hindcastlaw07.PrettyTerms", spec := "prettyTerms", inPlace := ["internal/abi.NoEscape", "internal/bytealg.MakeNoZero"], unfollowed := true, recurses := true, apart := false }
def PrettyTermsSaid : Prop := prettyTermsRow.holds Tryz.pinned (OpenSpec.ofChange prettyTermsSpec)

/-- ITS FALSE NEIGHBOUR: 'it returns false'. Refute it at one input. -/
def prettyTermsWrong : ChangeSpec := { name := "prettyTerms", fn := fun _ => fun
  | [d] => { results := [.lit (.bool false)], args := [d] }
  | _ => none }
def PrettyTermsWrongFalsely : Prop := prettyTermsRow.holds Tryz.pinned (OpenSpec.ofChange prettyTermsWrong)

/- THE SECOND FORM. 'bulk': how many values and letters a reading holds, each counted each time it is reached (what is shared counts as often as it is met; a slice's spare places count too). A statement '..UptoSaid' is the law's where the arguments, and the package variables that the reading takes, are together of bulk at most 1048576: NARROWER than '..Said'. Prove '..Said' where nothing that the law and all that it calls make is longer than what came in: it says more and counts as full. Else prove '..UptoSaid'. A law counts once. -/
mutual
def uptoBulk {H : Type} : DataW H → Nat
  | .lit (.string bytes) => bytes.length + 1
  | .lit _ => 1
  | .nil => 1
  | .ptr d => uptoBulk d + 1
  | .slice elems spare => uptoBulkAll elems + uptoBulkAll spare + 1
  | .agg parts => uptoBulkAll parts + 1
  | .iface _ d => uptoBulk d + 1
  | .map entries => uptoBulkEntries entries + 1
  | .held _ => 1
def uptoBulkAll {H : Type} : List (DataW H) → Nat
  | [] => 0
  | d :: r => uptoBulk d + uptoBulkAll r
def uptoBulkEntries {H : Type} : List (Lit × DataW H) → Nat
  | [] => 0
  | x :: r => uptoBulkEntry x + uptoBulkEntries r
def uptoBulkEntry {H : Type} : Lit × DataW H → Nat
  | (.string bytes, d) => bytes.length + uptoBulk d + 1
  | (_, d) => uptoBulk d + 1
 end
def uptoSmall : (H : Type) → List (DataW H) → Bool := fun _ ds => decide (uptoBulkAll ds ≤ 1048576)
def OpenSpec.upto (s : _root_.Go.ChangeSpec) : _root_.Go.OpenSpec := { _root_.Go.OpenSpec.ofChange s with cond := some uptoSmall }

/-- 'hindcastlaw07.PrettyWrites', WHERE WHAT IT READS IS OF BULK AT MOST 1048576: true; the input reads as it did. -/
def prettyWritesUptoRow : OpenClaim := { program := "ytoaplbljflhheaagreat", sum := "94659f59eaea03c2e60d764bf3a5c3923a8237c3508e64b8b328babca74360e1", func := "hindcast/hindcastlaw07.PrettyWrites", spec := "prettyWrites", inPlace := ["internal/abi.NoEscape", "internal/bytealg.MakeNoZero"], unfollowed := true, recurses := true, apart := false, narrowed := true }
def PrettyWritesUptoSaid : Prop := prettyWritesUptoRow.holds Tryz.pinned (OpenSpec.upto prettyWritesSpec)

/-- 'hindcastlaw07.PrettyExprs', WHERE WHAT IT READS IS OF BULK AT MOST 1048576: true; the input reads as it did. -/
def prettyExprsUptoRow : OpenClaim := { program := "ytoaplbljflhheaagreat", sum := "94659f59eaea03c2e60d764bf3a5c3923a8237c3508e64b8b328babca74360e1", func := "hindcast/hindcastlaw07.PrettyExprs", spec := "prettyExprs", inPlace := ["internal/abi.NoEscape", "internal/bytealg.MakeNoZero"], unfollowed := true, recurses := true, apart := false, narrowed := true }
def PrettyExprsUptoSaid : Prop := prettyExprsUptoRow.holds Tryz.pinned (OpenSpec.upto prettyExprsSpec)

/-- 'hindcastlaw07.PrettyBack', WHERE WHAT IT READS IS OF BULK AT MOST 1048576: true; the input reads as it did. -/
def prettyBackUptoRow : OpenClaim := { program := "ytoaplbljflhheaagreat", sum := "94659f59eaea03c2e60d764bf3a5c3923a8237c3508e64b8b328babca74360e1", func := "hindcast/hindcastlaw07.PrettyBack", spec := "prettyBack", inPlace := ["internal/abi.NoEscape", "internal/bytealg.MakeNoZero"], unfollowed := true, recurses := true, apart := false, narrowed := true }
def PrettyBackUptoSaid : Prop := prettyBackUptoRow.holds Tryz.pinned (OpenSpec.upto prettyBackSpec)

/-- 'hindcastlaw07.PrettyAgain', WHERE WHAT IT READS IS OF BULK AT MOST 1048576: true; the input reads as it did. -/
def prettyAgainUptoRow : OpenClaim := { program := "ytoaplbljflhheaagreat", sum := "94659f59eaea03c2e60d764bf3a5c3923a8237c3508e64b8b328babca74360e1", func := "hindcast/hindcastlaw07.PrettyAgain", spec := "prettyAgain", inPlace := ["internal/abi.NoEscape", "internal/bytealg.MakeNoZero"], unfollowed := true, recurses := true, apart := false, narrowed := true }
def PrettyAgainUptoSaid : Prop := prettyAgainUptoRow.holds Tryz.pinned (OpenSpec.upto prettyAgainSpec)

/-- 'hindcastlaw07.PrettyTerms', WHERE WHAT IT READS IS OF BULK AT MOST 1048576: true; the input reads as it did. -/
def prettyTermsUptoRow : OpenClaim := { program := "ytoaplbljflhheaagreat", sum := "94659f59eaea03c2e60d764bf3a5c3923a8237c3508e64b8b328babca74360e1", func := "hindcast/hindcastlaw07.PrettyTerms", spec := "prettyTerms", inPlace := ["internal/abi.NoEscape", "internal/bytealg.MakeNoZero"], unfollowed := true, recurses := true, apart := false, narrowed := true }
def PrettyTermsUptoSaid : Prop := prettyTermsUptoRow.holds Tryz.pinned (OpenSpec.upto prettyTermsSpec)

end Rows
end Go.Proofs.YtoaplbljflhheaaGreat
