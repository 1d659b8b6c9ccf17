/-
  For every three complex numbers the law GaussRing returns true: sums and products are the same in any order, and products of sums are sums of products. Conditions: none.
-/
import Derived.Test.YtknnobijdojjhaaRows
import Derived.Test.YtknnobijdojjhaaLRi
import Derived.Test.YtknnobijdojjhaaMd
import Derived.Test.YtknnobijdojjhaaOpen
import Derived.WalkKit
import Derived.ProofKit
import Derived.OpenShut
import Derived.ShutString
namespace Go.Proofs.Ytknnobijdojjhaa.gaussRing
open Go.ChangeShapes Go.WideShapes Go.ChangeAt Go.RowKit Go.Sort
open Go.ChangeMaps (open_string shut_string)
set_option linter.unusedVariables false

theorem own : ownKnob Try.prog.godebug = none := by kernel_rfl

theorem walk (a0 b0 : Int) (wa0 : (Lit.int .i64 a0).wf = true) (wb0 : (Lit.int .i64 b0).wf = true) (a1 b1 : Int) (wa1 : (Lit.int .i64 a1).wf = true) (wb1 : (Lit.int .i64 b1).wf = true) (a2 b2 : Int) (wa2 : (Lit.int .i64 a2).wf = true) (wb2 : (Lit.int .i64 b2).wf = true) (w : World) :
    Calls Try.prog 5 #[cv a0 b0, cv a1 b1, cv a2 b2] w fun e w' => e = .returned (.bool true) ∧ Below w.heap.size w w' := by
  exact ring_core a0 b0 a1 b1 a2 b2 (r24 (r24 a0 + r24 a1)) (r24 (r24 b0 + r24 b1)) (r24 (r24 a1 + r24 a2)) (r24 (r24 b1 + r24 b2)) (r24 (r24 (r24 (r24 a0 + r24 a1)) + r24 a2)) (r24 (r24 (r24 (r24 b0 + r24 b1)) + r24 b2)) (r24 (r24 a0 * r24 a1 - r24 b0 * r24 b1)) (r24 (r24 a0 * r24 b1 + r24 b0 * r24 a1)) (r24 (r24 a1 * r24 a2 - r24 b1 * r24 b2)) (r24 (r24 a1 * r24 b2 + r24 b1 * r24 a2)) (r24 (r24 a0 * r24 a2 - r24 b0 * r24 b2)) (r24 (r24 a0 * r24 b2 + r24 b0 * r24 a2)) (r24 (r24 (r24 (r24 a0 * r24 a1 - r24 b0 * r24 b1)) * r24 a2 - r24 (r24 (r24 a0 * r24 b1 + r24 b0 * r24 a1)) * r24 b2)) (r24 (r24 (r24 (r24 a0 * r24 a1 - r24 b0 * r24 b1)) * r24 b2 + r24 (r24 (r24 a0 * r24 b1 + r24 b0 * r24 a1)) * r24 a2)) (r24 (r24 a0 * r24 (r24 (r24 a1 + r24 a2)) - r24 b0 * r24 (r24 (r24 b1 + r24 b2)))) (r24 (r24 a0 * r24 (r24 (r24 b1 + r24 b2)) + r24 b0 * r24 (r24 (r24 a1 + r24 a2)))) w (neq_cv _ _ _ _ _ (by simp)) (neq_cv _ _ _ _ _ (by simp)) (neq_cv _ _ _ _ _ (by simp)) (neq_cv _ _ _ _ _ (by simp)) (eql_cv _ _ _ _ _ (eql_same _ _)) (fun op o1 o2 a b c d w => guard_cv op o1 o2 a b c d w)
    (Lib.hid (add_to a0 b0 a1 b1 _ _ rfl rfl))
    (Lib.hid (add_to a1 b1 a0 b0 _ _ (congrArg r24 (Int.add_comm _ _)) (congrArg r24 (Int.add_comm _ _))))
    (Lib.hid (mul_to a0 b0 a1 b1 _ _ rfl rfl))
    (Lib.hid (mul_to a1 b1 a0 b0 _ _ (congrArg r24 (by rw [Int.mul_comm (r24 a1), Int.mul_comm (r24 b1)])) (congrArg r24 (by rw [Int.mul_comm (r24 a1), Int.mul_comm (r24 b1), Int.add_comm]))))
    (Lib.hid (add_to _ _ a2 b2 _ _ rfl rfl))
    (Lib.hid (add_to a1 b1 a2 b2 _ _ rfl rfl))
    (Lib.hid (add_to a0 b0 _ _ _ _ (r24_same (md_add (md_r a0) (md_trans (md_r _) (md_trans (md_r _) (md_add (md_r a1) (md_r a2))))) (md_add (md_trans (md_r _) (md_trans (md_r _) (md_add (md_r a0) (md_r a1)))) (md_r a2)) (by omega)) (r24_same (md_add (md_r b0) (md_trans (md_r _) (md_trans (md_r _) (md_add (md_r b1) (md_r b2))))) (md_add (md_trans (md_r _) (md_trans (md_r _) (md_add (md_r b0) (md_r b1)))) (md_r b2)) (by omega))))
    (Lib.hid (mul_to _ _ a2 b2 _ _ rfl rfl))
    (Lib.hid (mul_to a1 b1 a2 b2 _ _ rfl rfl))
    (Lib.hid (mul_to a0 b0 _ _ _ _ (r24_same (md_sub (md_mul (md_r a0) (md_trans (md_r _) (md_trans (md_r _) (md_sub (md_mul (md_r a1) (md_r a2)) (md_mul (md_r b1) (md_r b2)))))) (md_mul (md_r b0) (md_trans (md_r _) (md_trans (md_r _) (md_add (md_mul (md_r a1) (md_r b2)) (md_mul (md_r b1) (md_r a2))))))) (md_sub (md_mul (md_trans (md_r _) (md_trans (md_r _) (md_sub (md_mul (md_r a0) (md_r a1)) (md_mul (md_r b0) (md_r b1))))) (md_r a2)) (md_mul (md_trans (md_r _) (md_trans (md_r _) (md_add (md_mul (md_r a0) (md_r b1)) (md_mul (md_r b0) (md_r a1))))) (md_r b2))) (ring_u0 _ _ _ _ _ _)) (r24_same (md_add (md_mul (md_r a0) (md_trans (md_r _) (md_trans (md_r _) (md_add (md_mul (md_r a1) (md_r b2)) (md_mul (md_r b1) (md_r a2)))))) (md_mul (md_r b0) (md_trans (md_r _) (md_trans (md_r _) (md_sub (md_mul (md_r a1) (md_r a2)) (md_mul (md_r b1) (md_r b2))))))) (md_add (md_mul (md_trans (md_r _) (md_trans (md_r _) (md_sub (md_mul (md_r a0) (md_r a1)) (md_mul (md_r b0) (md_r b1))))) (md_r b2)) (md_mul (md_trans (md_r _) (md_trans (md_r _) (md_add (md_mul (md_r a0) (md_r b1)) (md_mul (md_r b0) (md_r a1))))) (md_r a2))) (ring_u1 _ _ _ _ _ _))))
    (Lib.hid (mul_to a0 b0 _ _ _ _ rfl rfl))
    (Lib.hid (mul_to a0 b0 a2 b2 _ _ rfl rfl))
    (Lib.hid (add_to _ _ _ _ _ _ (r24_same (md_add (md_trans (md_r _) (md_trans (md_r _) (md_sub (md_mul (md_r a0) (md_r a1)) (md_mul (md_r b0) (md_r b1))))) (md_trans (md_r _) (md_trans (md_r _) (md_sub (md_mul (md_r a0) (md_r a2)) (md_mul (md_r b0) (md_r b2)))))) (md_sub (md_mul (md_r a0) (md_trans (md_r _) (md_trans (md_r _) (md_add (md_r a1) (md_r a2))))) (md_mul (md_r b0) (md_trans (md_r _) (md_trans (md_r _) (md_add (md_r b1) (md_r b2)))))) (ring_v0 _ _ _ _ _ _)) (r24_same (md_add (md_trans (md_r _) (md_trans (md_r _) (md_add (md_mul (md_r a0) (md_r b1)) (md_mul (md_r b0) (md_r a1))))) (md_trans (md_r _) (md_trans (md_r _) (md_add (md_mul (md_r a0) (md_r b2)) (md_mul (md_r b0) (md_r a2)))))) (md_add (md_mul (md_r a0) (md_trans (md_r _) (md_trans (md_r _) (md_add (md_r b1) (md_r b2))))) (md_mul (md_r b0) (md_trans (md_r _) (md_trans (md_r _) (md_add (md_r a1) (md_r a2)))))) (ring_v1 _ _ _ _ _ _))))
    (Lib.hid awake_any)

set_option maxRecDepth 100000 in
theorem lifted (os : Os) (started : os.Started) (H : Type) (enc : TypeId × Value → H) :
    ReturnsInHanded {} Try.checked os 5 .any (Rows.gaussRingSpec.pre6 enc Try.prog Try.f5 Rows.gaussRingRow.domain false) (Rows.gaussRingSpec.post enc Try.prog Try.f5 false true false false) := by
  refine returnsInHanded_of_change (C := Try.checked) own started (by kernel_rfl) Try.func5
    (ChangeSpec.witness6 (enc := enc) (C := Try.checked) false ⟨#[], #[.agg #[.int .i64 0, .int .i64 0], .agg #[.int .i64 0, .int .i64 0], .agg #[.int .i64 0, .int .i64 0]], []⟩ 8 (by kernel_rfl) (by kernel_rfl) (by kernel_rfl) (by kernel_rfl)) ?_
  intro W base args ds gs before hval0 hW hcnd _
  have hval : ∀ (j : Nat) t v, Try.f5.params[j]? = some t → args[j]? = some v → Value.okWide Try.prog W .any base t v := hval0
  have hW' := hW
  obtain ⟨p, q, hA0, hV, rfl, hfz, hnd⟩ := hW
  have hA : DataW.TrodAll enc Try.prog W 0 (fun _ => true) true Try.f5.params.toList args.toList ds p := hA0
  rw [Try.params5] at hA hval
  obtain ⟨v0, vs0, d0, ds0, p0, q0, hargs, rfl, rfl, h0, r0⟩ := trodAll_cons hA
  obtain ⟨v1, vs1, d1, ds1, p1, q1, rfl, rfl, rfl, h1, r1⟩ := trodAll_cons r0
  obtain ⟨v2, vs2, d2, ds2, p2, q2, rfl, rfl, rfl, h2, r2⟩ := trodAll_cons r1
  obtain ⟨rfl, rfl, rfl⟩ := trodAll_nil r2
  obtain rfl : args = #[v0, v1, v2] := by cases args; simp_all
  obtain ⟨rfl, rfl⟩ := trodVars_none hV
  obtain ⟨a0, b0, rfl, rfl, rfl, wa0, wb0⟩ := open_cv (hval 0 23 v0 rfl rfl) h0
  obtain ⟨a1, b1, rfl, rfl, rfl, wa1, wb1⟩ := open_cv (hval 1 23 v1 rfl rfl) h1
  obtain ⟨a2, b2, rfl, rfl, rfl, wa2, wb2⟩ := open_cv (hval 2 23 v2 rfl rfl) h2
  clear hA0 hval0
  simp only [List.append_nil] at hW'
  refine (walk a0 b0 wa0 wb0 a1 b1 wa1 wb1 a2 b2 wa2 wb2 W).mono fun e W' ⟨he, hg⟩ => ?_
  subst he
  exact ⟨_, rfl, _, _, _, [], [], [], hW', (trodAll_cons_mk (shut_bool Try.underlying4 _) trodAll_mk0), (trodAll_cons_mk (shut_cv wa0 wb0) (trodAll_cons_mk (shut_cv wa1 wb1) (trodAll_cons_mk (shut_cv wa2 wb2) trodAll_mk0))), rfl, hg.frame _, fun h => by cases h⟩

theorem over : Rows.gaussRingRow.holds Try.pinned (OpenSpec.ofChange Rows.gaussRingSpec) :=
  OpenClaim.holds_of_wide 5 Try.f5 rfl rfl rfl rfl rfl rfl rfl ⟨rfl, rfl, rfl, rfl, rfl⟩ rfl rfl rfl rfl rfl (by kernel_rfl) Try.func5 (by kernel_rfl)
    (of_decide_eq_true (by kernel_rfl)) (by unfold Func.isWrapper; first | (rw [if_pos (by decide +kernel)]; kernel_rfl) | (rw [if_neg (by decide +kernel)]; exact ⟨rfl, rfl⟩))
    (fun os started H enc _ => lifted os started H enc)

theorem proved : Rows.GaussRingSaid := over
end Go.Proofs.Ytknnobijdojjhaa.gaussRing
