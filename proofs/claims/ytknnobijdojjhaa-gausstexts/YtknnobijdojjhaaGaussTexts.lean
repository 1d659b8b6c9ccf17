/-
  For every complex number the law GaussTexts returns true: its text is the document's, and is read as the number. Conditions: none.
-/
import Derived.Test.YtknnobijdojjhaaRows
import Derived.Test.YtknnobijdojjhaaLTx
import Derived.Test.YtknnobijdojjhaaOpen
import Derived.WalkKit
import Derived.ProofKit
import Derived.OpenShut
import Derived.ShutString
namespace Go.Proofs.Ytknnobijdojjhaa.gaussTexts
open Go.ChangeShapes Go.WideShapes Go.ChangeAt Go.RowKit Go.Sort
open Go.ChangeMaps (open_string shut_string)
set_option linter.unusedVariables false

theorem own : ownKnob Try.prog.godebug = none := by kernel_rfl

theorem walk (a0 b0 : Int) (wa0 : (Lit.int .i64 a0).wf = true) (wb0 : (Lit.int .i64 b0).wf = true) (w : World) :
    Calls Try.prog 8 #[cv a0 b0] w fun e w' => e = .returned (.bool true) ∧ Below w.heap.size w w' := by
  have hx := r24_lo a0
  have hy := r24_lo b0
  have hp : ∀ w, Calls Try.prog 26 #[.string (bs (gtext (r24 a0) (r24 b0)))] w fun e w' => e = .returned (pr (r24 a0) (r24 b0) 0) ∧ Below w.heap.size w w' :=
    ans_of (gparse_any _ (by rw [bs_size]; exact gtext_len _ _ hx hy)) (by rw [bs_list]; exact gtext_spec _ _ hx hy) rfl
  exact texts_core a0 b0 _ _ _ w (eql_cv _ _ _ _ _ (eql_same _ _)) (fun op o1 o2 a b c d w => guard_cv op o1 o2 a b c d w) (Lib.hid (gtext_any a0 b0)) (Lib.hid hp) (Lib.hid (rgtext_any a0 b0)) (Lib.hid (gof_any a0 b0)) (Lib.hid awake_any)

set_option maxRecDepth 100000 in
theorem lifted (os : Os) (started : os.Started) (H : Type) (enc : TypeId × Value → H) :
    ReturnsInHanded {} Try.checked os 8 .any (Rows.gaussTextsSpec.pre6 enc Try.prog Try.f8 Rows.gaussTextsRow.domain false) (Rows.gaussTextsSpec.post enc Try.prog Try.f8 false true false false) := by
  refine returnsInHanded_of_change (C := Try.checked) own started (by kernel_rfl) Try.func8
    (ChangeSpec.witness6 (enc := enc) (C := Try.checked) false ⟨#[], #[.agg #[.int .i64 0, .int .i64 0]], []⟩ 8 (by kernel_rfl) (by kernel_rfl) (by kernel_rfl) (by kernel_rfl)) ?_
  intro W base args ds gs before hval0 hW hcnd _
  have hval : ∀ (j : Nat) t v, Try.f8.params[j]? = some t → args[j]? = some v → Value.okWide Try.prog W .any base t v := hval0
  have hW' := hW
  obtain ⟨p, q, hA0, hV, rfl, hfz, hnd⟩ := hW
  have hA : DataW.TrodAll enc Try.prog W 0 (fun _ => true) true Try.f8.params.toList args.toList ds p := hA0
  rw [Try.params8] at hA hval
  obtain ⟨v0, vs0, d0, ds0, p0, q0, hargs, rfl, rfl, h0, r0⟩ := trodAll_cons hA
  obtain ⟨rfl, rfl, rfl⟩ := trodAll_nil r0
  obtain rfl : args = #[v0] := by cases args; simp_all
  obtain ⟨rfl, rfl⟩ := trodVars_none hV
  obtain ⟨a0, b0, rfl, rfl, rfl, wa0, wb0⟩ := open_cv (hval 0 23 v0 rfl rfl) h0
  clear hA0 hval0
  simp only [List.append_nil] at hW'
  refine (walk a0 b0 wa0 wb0 W).mono fun e W' ⟨he, hg⟩ => ?_
  subst he
  exact ⟨_, rfl, _, _, _, [], [], [], hW', (trodAll_cons_mk (shut_bool Try.underlying4 _) trodAll_mk0), (trodAll_cons_mk (shut_cv wa0 wb0) trodAll_mk0), rfl, hg.frame _, fun h => by cases h⟩

theorem over : Rows.gaussTextsRow.holds Try.pinned (OpenSpec.ofChange Rows.gaussTextsSpec) :=
  OpenClaim.holds_of_wide 8 Try.f8 rfl rfl rfl rfl rfl rfl rfl ⟨rfl, rfl, rfl, rfl, rfl⟩ rfl rfl rfl rfl rfl (by kernel_rfl) Try.func8 (by kernel_rfl)
    (of_decide_eq_true (by kernel_rfl)) (by unfold Func.isWrapper; first | (rw [if_pos (by decide +kernel)]; kernel_rfl) | (rw [if_neg (by decide +kernel)]; exact ⟨rfl, rfl⟩))
    (fun os started H enc _ => lifted os started H enc)

theorem proved : Rows.GaussTextsSaid := over
end Go.Proofs.Ytknnobijdojjhaa.gaussTexts
