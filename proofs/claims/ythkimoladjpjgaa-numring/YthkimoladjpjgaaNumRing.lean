/-
  For every three int64 numbers the law NumRing returns true: sums and products in any order, and products of sums as sums of products, are the same. Conditions: none.
-/
import Derived.Test.YthkimoladjpjgaaRows
import Derived.Test.YthkimoladjpjgaaNum
import Derived.Test.YthkimoladjpjgaaWrap
import Derived.WalkKit
import Derived.ProofKit
import Derived.OpenShut
import Derived.ShutString
namespace Go.Proofs.Ythkimoladjpjgaa.numRing
open Go.ChangeShapes Go.WideShapes Go.ChangeAt Go.RowKit
open Go.ChangeMaps (open_string shut_string)
set_option linter.unusedVariables false      -- a walk need not use every 'w<i>' (that an integer argument fits its kind)

theorem own : ownKnob Try.prog.godebug = none := by kernel_rfl

theorem walk (a0 : Int) (a1 : Int) (a2 : Int) (w0 : (Lit.int .i64 a0).wf = true) (w1 : (Lit.int .i64 a1).wf = true) (w2 : (Lit.int .i64 a2).wf = true) (w : World) :
    Calls Try.prog 5 #[.int .i64 a0, .int .i64 a1, .int .i64 a2] w fun e w' => e = .returned (.bool true) ∧ Grown w w' := by
  have hab := fun w => add_any a0 a1 w
  have hba := fun w => add_any a1 a0 w
  have hmab := fun w => mul_any a0 a1 w
  have hmba := fun w => mul_any a1 a0 w
  have habc := fun w => add_any (wrap64 (a0 + a1)) a2 w
  have hbc := fun w => add_any a1 a2 w
  have ha_bc := fun w => add_any a0 (wrap64 (a1 + a2)) w
  have hmabc := fun w => mul_any (wrap64 (a0 * a1)) a2 w
  have hmbc := fun w => mul_any a1 a2 w
  have hma_bc := fun w => mul_any a0 (wrap64 (a1 * a2)) w
  have hmaS := fun w => mul_any a0 (wrap64 (a1 + a2)) w
  have hmac := fun w => mul_any a0 a2 w
  have hsum := fun w => add_any (wrap64 (a0 * a1)) (wrap64 (a0 * a2)) w
  have hsub := fun w => sub_any a0 a1 w
  have hneg := fun w => neg_any a1 w
  have hanb := fun w => add_any a0 (wrap64 (-a1)) w
  rw [Int.add_comm a1 a0] at hba
  rw [Int.mul_comm a1 a0] at hmba
  rw [w64_addl] at habc
  rw [w64_addr, ← Int.add_assoc] at ha_bc
  rw [w64_mull] at hmabc
  rw [w64_mulr, ← Int.mul_assoc] at hma_bc
  rw [w64_mulr, Int.mul_add] at hmaS
  rw [w64_addl, w64_addr] at hsum
  rw [w64_sub] at hanb
  generalize wrap64 (a0 + a1) = s at *
  generalize wrap64 (a0 * a1) = m at *
  generalize wrap64 (a1 + a2) = v at *
  generalize wrap64 (a1 * a2) = x at *
  generalize wrap64 (a0 * a2) = y at *
  generalize wrap64 (-a1) = nb at *
  generalize wrap64 (a0 + a1 + a2) = t at *
  generalize wrap64 (a0 * a1 * a2) = u at *
  generalize wrap64 (a0 * a1 + a0 * a2) = q at *
  generalize wrap64 (a0 - a1) = d at *
  have Hab := Lib.hid hab
  clear hab
  have Hba := Lib.hid hba
  clear hba
  have Hmab := Lib.hid hmab
  clear hmab
  have Hmba := Lib.hid hmba
  clear hmba
  have Habc := Lib.hid habc
  clear habc
  have Hbc := Lib.hid hbc
  clear hbc
  have Ha_bc := Lib.hid ha_bc
  clear ha_bc
  have Hmabc := Lib.hid hmabc
  clear hmabc
  have Hmbc := Lib.hid hmbc
  clear hmbc
  have Hma_bc := Lib.hid hma_bc
  clear hma_bc
  have HmaS := Lib.hid hmaS
  clear hmaS
  have Hmac := Lib.hid hmac
  clear hmac
  have Hsum := Lib.hid hsum
  clear hsum
  have Hsub := Lib.hid hsub
  clear hsub
  have Hneg := Lib.hid hneg
  clear hneg
  have Hanb := Lib.hid hanb
  clear hanb
  go_enter Try.func5, Try.ntmps5
  go_wp2_with fail
  refine (Hab.out _).mono ?_
  rintro e w' ⟨rfl, rfl⟩
  go_wp2_with fail
  refine (Hba.out _).mono ?_
  rintro e w' ⟨rfl, rfl⟩
  go_wp2_with fail
  refine (Hmab.out _).mono ?_
  rintro e w' ⟨rfl, rfl⟩
  go_wp2_with fail
  refine (Hmba.out _).mono ?_
  rintro e w' ⟨rfl, rfl⟩
  go_wp2_with fail
  refine (Hab.out _).mono ?_
  rintro e w' ⟨rfl, rfl⟩
  go_wp2_with fail
  refine (Habc.out _).mono ?_
  rintro e w' ⟨rfl, rfl⟩
  go_wp2_with fail
  refine (Hbc.out _).mono ?_
  rintro e w' ⟨rfl, rfl⟩
  go_wp2_with fail
  refine (Ha_bc.out _).mono ?_
  rintro e w' ⟨rfl, rfl⟩
  go_wp2_with fail
  refine (Hmab.out _).mono ?_
  rintro e w' ⟨rfl, rfl⟩
  go_wp2_with fail
  refine (Hmabc.out _).mono ?_
  rintro e w' ⟨rfl, rfl⟩
  go_wp2_with fail
  refine (Hmbc.out _).mono ?_
  rintro e w' ⟨rfl, rfl⟩
  go_wp2_with fail
  refine (Hma_bc.out _).mono ?_
  rintro e w' ⟨rfl, rfl⟩
  go_wp2_with fail
  refine (Hbc.out _).mono ?_
  rintro e w' ⟨rfl, rfl⟩
  go_wp2_with fail
  refine (HmaS.out _).mono ?_
  rintro e w' ⟨rfl, rfl⟩
  go_wp2_with fail
  refine (Hmab.out _).mono ?_
  rintro e w' ⟨rfl, rfl⟩
  go_wp2_with fail
  refine (Hmac.out _).mono ?_
  rintro e w' ⟨rfl, rfl⟩
  go_wp2_with fail
  refine (Hsum.out _).mono ?_
  rintro e w' ⟨rfl, rfl⟩
  go_wp2_with fail
  refine (Hsub.out _).mono ?_
  rintro e w' ⟨rfl, rfl⟩
  go_wp2_with fail
  refine (Hneg.out _).mono ?_
  rintro e w' ⟨rfl, rfl⟩
  go_wp2_with fail
  refine (Hanb.out _).mono ?_
  rintro e w' ⟨rfl, rfl⟩
  go_wp2_with fail
  refine (awake_any _).mono ?_
  rintro e w' ⟨rfl, rfl⟩
  go_wp2
  go_ret
  exact ⟨rfl, Grown.refl _⟩

set_option maxRecDepth 100000 in
theorem lifted (os : Os) (started : os.Started) (H : Type) (enc : TypeId × Value → H) :
    ReturnsInHanded {} Try.checked os 5 .any (Rows.numRingSpec.pre6 enc Try.prog Try.f5 Rows.numRingRow.domain false) (Rows.numRingSpec.post enc Try.prog Try.f5 false true false false) := by
  refine returnsInHanded_of_change (C := Try.checked) own started (by kernel_rfl) Try.func5
    (ChangeSpec.witness6 (enc := enc) (C := Try.checked) false ⟨#[], #[.int .i64 0, .int .i64 0, .int .i64 0], []⟩ 8 (by kernel_rfl) (by kernel_rfl) (by kernel_rfl) (by kernel_rfl)) ?_
  intro W base args ds gs before hval0 hW hcnd _
  have hval : ∀ (j : Nat) t v, Try.f5.params[j]? = some t → args[j]? = some v → Value.okWide Try.prog W .any base t v := hval0
  have hW' := hW
  obtain ⟨p, q, hA0, hV, rfl, hfz, hnd⟩ := hW
  have hA : DataW.TrodAll enc Try.prog W 0 (fun _ => true) true Try.f5.params.toList args.toList ds p := hA0
  rw [Try.params5] at hA hval
  obtain ⟨v0, vs0, d0, ds0, p0, q0, hargs, rfl, rfl, h0, r0⟩ := trodAll_cons hA
  obtain ⟨v1, vs1, d1, ds1, p1, q1, rfl, rfl, rfl, h1, r1⟩ := trodAll_cons r0
  obtain ⟨v2, vs2, d2, ds2, p2, q2, rfl, rfl, rfl, h2, r2⟩ := trodAll_cons r1
  obtain ⟨rfl, rfl, rfl⟩ := trodAll_nil r2
  obtain rfl : args = #[v0, v1, v2] := by cases args; simp_all
  obtain ⟨rfl, rfl⟩ := trodVars_none hV
  obtain ⟨a0, rfl, rfl, rfl, w0⟩ := open_int Try.underlying2 (hval 0 2 v0 rfl rfl) h0
  obtain ⟨a1, rfl, rfl, rfl, w1⟩ := open_int Try.underlying2 (hval 1 2 v1 rfl rfl) h1
  obtain ⟨a2, rfl, rfl, rfl, w2⟩ := open_int Try.underlying2 (hval 2 2 v2 rfl rfl) h2
  clear hA0 hval0
  simp only [List.append_nil] at hW'
  refine (walk a0 a1 a2 w0 w1 w2 W).mono fun e W' ⟨he, hg⟩ => ?_
  subst he
  exact ⟨_, rfl, post_of_same (pa := []) (pv := []) hW' (fun _ _ _ => (trodAll_cons_mk (shut_bool Try.underlying4 _) trodAll_mk0)) (fun sp _ => (trodAll_cons_mk (shut_int Try.underlying2 w0) (trodAll_cons_mk (shut_int Try.underlying2 w1) (trodAll_cons_mk (shut_int Try.underlying2 w2) trodAll_mk0)))) (fun _ _ => rfl) rfl
    (hg.frame _) hg.2.1 (ok_one (by kernel_rfl) rfl (okWide_bool_mk Try.underlying4 _))⟩

theorem over : Rows.numRingRow.holds Try.pinned (OpenSpec.ofChange Rows.numRingSpec) :=
  OpenClaim.holds_of_wide 5 Try.f5 rfl rfl rfl rfl rfl rfl rfl ⟨rfl, rfl, rfl, rfl, rfl⟩ rfl rfl rfl rfl rfl (by kernel_rfl) Try.func5 (by kernel_rfl)
    (of_decide_eq_true (by kernel_rfl)) (by unfold Func.isWrapper; first | (rw [if_pos (by decide +kernel)]; kernel_rfl) | (rw [if_neg (by decide +kernel)]; exact ⟨rfl, rfl⟩))
    (fun os started H enc _ => lifted os started H enc)

/-- ████ THE STATEMENT ████ -/
theorem proved : Rows.NumRingSaid :=
  over
end Go.Proofs.Ythkimoladjpjgaa.numRing
