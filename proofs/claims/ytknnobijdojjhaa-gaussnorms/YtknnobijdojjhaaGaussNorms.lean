/-
  For every complex number the law GaussNorms returns true: its Norm is the document's, and it times its turned one has no Im, its Re being its Norm, going round. Conditions: none.
-/
import Derived.Test.YtknnobijdojjhaaRows
import Derived.Test.YtknnobijdojjhaaLNo
import Derived.Test.YtknnobijdojjhaaMd
import Derived.Test.YtknnobijdojjhaaOpen
import Derived.WalkKit
import Derived.ProofKit
import Derived.OpenShut
import Derived.ShutString
namespace Go.Proofs.Ytknnobijdojjhaa.gaussNorms
open Go.ChangeShapes Go.WideShapes Go.ChangeAt Go.RowKit Go.Sort
open Go.ChangeMaps (open_string shut_string)
set_option linter.unusedVariables false

theorem own : ownKnob Try.prog.godebug = none := by kernel_rfl

theorem walk (a0 b0 : Int) (wa0 : (Lit.int .i64 a0).wf = true) (wb0 : (Lit.int .i64 b0).wf = true) (w : World) :
    Calls Try.prog 6 #[cv a0 b0] w fun e w' => e = .returned (.bool true) ∧ Below w.heap.size w w' := by
  have h1 := mul_bound (r24_lo a0) (r24_lo a0)
  have h2 := mul_bound (r24_lo b0) (r24_lo b0)
  have hn : 0 ≤ r24 a0 * r24 a0 + r24 b0 * r24 b0 := Int.add_nonneg (sq_nonneg _) (sq_nonneg _)
  have hz : r24 0 = 0 := by decide
  refine norms_core a0 b0 (r24 a0 * r24 a0 + r24 b0 * r24 b0) _ _ (r24 (r24 a0 * r24 a0 + r24 b0 * r24 b0)) (r24 0) w hn (eql_cv _ _ _ _ _ (eql_same _ _)) (fun op o1 o2 a b c d w => guard_cv op o1 o2 a b c d w) (Lib.hid (norm_any a0 b0)) (Lib.hid (rnorm_any a0 b0)) (Lib.hid (turn_any a0 b0)) (Lib.hid (mul_to a0 b0 _ _ _ _ ?_ ?_)) (Lib.hid (gof_any _ _)) (Lib.hid awake_any)
  · exact r24_same (md_sub (md_mul (md_refl _) (md_trans (md_r _) (md_r _))) (md_mul (md_refl _) (md_trans (md_r _) (md_r _)))) (md_refl _) (by rw [Int.mul_neg]; omega)
  · exact r24_same (md_add (md_mul (md_refl _) (md_trans (md_r _) (md_r _))) (md_mul (md_refl _) (md_trans (md_r _) (md_r _)))) (md_refl _) (by rw [Int.mul_neg, Int.mul_comm (r24 b0)]; omega)

set_option maxRecDepth 100000 in
theorem lifted (os : Os) (started : os.Started) (H : Type) (enc : TypeId × Value → H) :
    ReturnsInHanded {} Try.checked os 6 .any (Rows.gaussNormsSpec.pre6 enc Try.prog Try.f6 Rows.gaussNormsRow.domain false) (Rows.gaussNormsSpec.post enc Try.prog Try.f6 false true false false) := by
  refine returnsInHanded_of_change (C := Try.checked) own started (by kernel_rfl) Try.func6
    (ChangeSpec.witness6 (enc := enc) (C := Try.checked) false ⟨#[], #[.agg #[.int .i64 0, .int .i64 0]], []⟩ 8 (by kernel_rfl) (by kernel_rfl) (by kernel_rfl) (by kernel_rfl)) ?_
  intro W base args ds gs before hval0 hW hcnd _
  have hval : ∀ (j : Nat) t v, Try.f6.params[j]? = some t → args[j]? = some v → Value.okWide Try.prog W .any base t v := hval0
  have hW' := hW
  obtain ⟨p, q, hA0, hV, rfl, hfz, hnd⟩ := hW
  have hA : DataW.TrodAll enc Try.prog W 0 (fun _ => true) true Try.f6.params.toList args.toList ds p := hA0
  rw [Try.params6] at hA hval
  obtain ⟨v0, vs0, d0, ds0, p0, q0, hargs, rfl, rfl, h0, r0⟩ := trodAll_cons hA
  obtain ⟨rfl, rfl, rfl⟩ := trodAll_nil r0
  obtain rfl : args = #[v0] := by cases args; simp_all
  obtain ⟨rfl, rfl⟩ := trodVars_none hV
  obtain ⟨a0, b0, rfl, rfl, rfl, wa0, wb0⟩ := open_cv (hval 0 23 v0 rfl rfl) h0
  clear hA0 hval0
  simp only [List.append_nil] at hW'
  refine (walk a0 b0 wa0 wb0 W).mono fun e W' ⟨he, hg⟩ => ?_
  subst he
  exact ⟨_, rfl, _, _, _, [], [], [], hW', (trodAll_cons_mk (shut_bool Try.underlying4 _) trodAll_mk0), (trodAll_cons_mk (shut_cv wa0 wb0) trodAll_mk0), rfl, hg.frame _, fun h => by cases h⟩

theorem over : Rows.gaussNormsRow.holds Try.pinned (OpenSpec.ofChange Rows.gaussNormsSpec) :=
  OpenClaim.holds_of_wide 6 Try.f6 rfl rfl rfl rfl rfl rfl rfl ⟨rfl, rfl, rfl, rfl, rfl⟩ rfl rfl rfl rfl rfl (by kernel_rfl) Try.func6 (by kernel_rfl)
    (of_decide_eq_true (by kernel_rfl)) (by unfold Func.isWrapper; first | (rw [if_pos (by decide +kernel)]; kernel_rfl) | (rw [if_neg (by decide +kernel)]; exact ⟨rfl, rfl⟩))
    (fun os started H enc _ => lifted os started H enc)

theorem proved : Rows.GaussNormsSaid := over
end Go.Proofs.Ytknnobijdojjhaa.gaussNorms
