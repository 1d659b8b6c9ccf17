/-
  QuoteJoins: the statement, out of the walk. Conditions: none.
-/
import Derived.Test.YtcjliachoahndaaRows
import Derived.Test.YtcjliachoahndaaFin
import Derived.WalkKit
import Derived.ProofKit
import Derived.OpenShut
import Derived.ShutString
namespace Go.Proofs.Ytcjliachoahndaa.quoteJoins
open Go.ChangeShapes Go.WideShapes Go.ChangeAt Go.RowKit
open Go.ChangeMaps (open_string shut_string)
set_option linter.unusedVariables false      -- a walk need not use every 'w<i>' (that an integer argument fits its kind)

theorem own : ownKnob Try.prog.godebug = none := by kernel_rfl

theorem walk (a0 : ByteArray) (a1 : ByteArray) (w0 : a0.size ≤ maxLen) (w1 : a1.size ≤ maxLen) (w : World) :
    Calls Try.prog 6 #[.string a0, .string a1] w fun e w' => e = .returned (.bool true) ∧ Below w.heap.size w w' := by
  by_cases hl : 1000 < a0.size ∨ 1000 < a1.size
  · exact joins_long a0 a1 w (by omega) (Lib.hid awake_any)
  · have hA := lit_size a0 1000 (by omega)
    have hB := lit_size a1 1000 (by omega)
    have hA2 := lit_two a0
    have hB2 := lit_two a1
    have hz : (a0 ++ a1).size ≤ 2000 := by rw [ByteArray.size_append]; omega
    have hJ := join_lit a0 a1
    have hp := congrArg ByteArray.size hJ
    rw [ByteArray.size_append, ByteArray.size_extract, ByteArray.size_extract, Nat.min_eq_left (Nat.sub_le _ _), Nat.min_self] at hp
    refine joins_core a0 a1 (bs (lit a0.data.toList)) (bs (lit a1.data.toList)) (bs (lit (a0 ++ a1).data.toList)) (a0 ++ a1) _ _ w (by omega) (by omega) hA2 hB2 (by omega) (by omega)
      ((bs (lit a0.data.toList)).size - 1) (bs (lit (a0 ++ a1).data.toList)).size (by omega) (by omega) (Lib.hid awake_any) rfl rfl (fun w => run_string_add_sum w _ _ (by omega)) ?_
      (Lib.hid fun w => quote_any a0 w (by omega)) (Lib.hid fun w => quote_any a1 w (by omega)) (Lib.hid fun w => quote_any (a0 ++ a1) w (by omega))
      (Lib.hid fun w => same_below (size_lit a0 (by omega) w)) (Lib.hid fun w => same_below (size_lit a1 (by omega) w)) (Lib.hid fun w => same_below (size_lit (a0 ++ a1) (by omega) w))
    intro w
    rw [run_string_add_sum w _ _ (by rw [ByteArray.size_extract, ByteArray.size_extract]; omega), hJ]

set_option maxRecDepth 100000 in
theorem lifted (os : Os) (started : os.Started) (H : Type) (enc : TypeId × Value → H) :
    ReturnsInHanded {} Try.checked os 6 .any (Rows.quoteJoinsSpec.pre6 enc Try.prog Try.f6 Rows.quoteJoinsRow.domain false) (Rows.quoteJoinsSpec.post enc Try.prog Try.f6 false true false false) := by
  refine returnsInHanded_of_change (C := Try.checked) own started (by kernel_rfl) Try.func6
    (ChangeSpec.witness6 (enc := enc) (C := Try.checked) false ⟨#[], #[.string ByteArray.empty, .string ByteArray.empty], []⟩ 8 (by kernel_rfl) (by kernel_rfl) (by kernel_rfl) (by kernel_rfl)) ?_
  intro W base args ds gs before hval0 hW hcnd _
  have hval : ∀ (j : Nat) t v, Try.f6.params[j]? = some t → args[j]? = some v → Value.okWide Try.prog W .any base t v := hval0
  have hW' := hW
  obtain ⟨p, q, hA0, hV, rfl, hfz, hnd⟩ := hW
  have hA : DataW.TrodAll enc Try.prog W 0 (fun _ => true) true Try.f6.params.toList args.toList ds p := hA0
  rw [Try.params6] at hA hval
  obtain ⟨v0, vs0, d0, ds0, p0, q0, hargs, rfl, rfl, h0, r0⟩ := trodAll_cons hA
  obtain ⟨v1, vs1, d1, ds1, p1, q1, rfl, rfl, rfl, h1, r1⟩ := trodAll_cons r0
  obtain ⟨rfl, rfl, rfl⟩ := trodAll_nil r1
  obtain rfl : args = #[v0, v1] := by cases args; simp_all
  obtain ⟨rfl, rfl⟩ := trodVars_none hV
  obtain ⟨a0, rfl, rfl, rfl, w0⟩ := open_string Try.underlying9 (hval 0 9 v0 rfl rfl) h0
  obtain ⟨a1, rfl, rfl, rfl, w1⟩ := open_string Try.underlying9 (hval 1 9 v1 rfl rfl) h1
  clear hA0 hval0
  simp only [List.append_nil] at hW'
  refine (walk a0 a1 w0 w1 W).mono fun e W' ⟨he, hg⟩ => ?_
  subst he
  exact ⟨_, rfl, _, _, _, [], [], [], hW', (trodAll_cons_mk (shut_bool Try.underlying4 _) trodAll_mk0), (trodAll_cons_mk (shut_string Try.underlying9 w0) (trodAll_cons_mk (shut_string Try.underlying9 w1) trodAll_mk0)), rfl, hg.frame _, fun h => by cases h⟩

theorem over : Rows.quoteJoinsRow.holds Try.pinned (OpenSpec.ofChange Rows.quoteJoinsSpec) :=
  OpenClaim.holds_of_wide 6 Try.f6 rfl rfl rfl rfl rfl rfl rfl ⟨rfl, rfl, rfl, rfl, rfl⟩ rfl rfl rfl rfl rfl (by kernel_rfl) Try.func6 (by kernel_rfl)
    (of_decide_eq_true (by kernel_rfl)) (by unfold Func.isWrapper; first | (rw [if_pos (by decide +kernel)]; kernel_rfl) | (rw [if_neg (by decide +kernel)]; exact ⟨rfl, rfl⟩))
    (fun os started H enc _ => lifted os started H enc)

/-- ████ THE STATEMENT ████ -/
theorem proved : Rows.QuoteJoinsSaid :=
  over
end Go.Proofs.Ytcjliachoahndaa.quoteJoins
