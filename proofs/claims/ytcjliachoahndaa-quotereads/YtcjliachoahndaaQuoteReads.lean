/-
  QuoteReads: the statement, out of the walk. Conditions: none.
-/
import Derived.Test.YtcjliachoahndaaRows
import Derived.Test.YtcjliachoahndaaFin
import Derived.Test.YtcjliachoahndaaRs
import Derived.WalkKit
import Derived.ProofKit
import Derived.OpenShut
import Derived.ShutString
namespace Go.Proofs.Ytcjliachoahndaa.quoteReads
open Go.ChangeShapes Go.WideShapes Go.ChangeAt Go.RowKit
open Go.ChangeMaps (open_string shut_string)
set_option linter.unusedVariables false      -- a walk need not use every 'w<i>' (that an integer argument fits its kind)

theorem own : ownKnob Try.prog.godebug = none := by kernel_rfl

theorem walk (a0 : ByteArray) (w0 : a0.size ≤ maxLen) (w : World) :
    Calls Try.prog 4 #[.string a0] w fun e w' => e = .returned (.bool true) ∧ Below w.heap.size w w' := by
  by_cases hl : 3000 < a0.size
  · exact reads_long a0 w (by omega) (Lib.hid awake_any)
  · have hs : a0.size ≤ 3000 := by omega
    have H9 := fun w => unquote_any a0 w (by omega)
    have H12 := fun w => end_any a0 w (by omega) _ rfl
    have H13 := fun w => rread_any a0 w (by omega)
    unfold unqOf at H9
    rw [size_list] at H9
    cases hok : (readOf a0.data.toList).2.2 with
    | false =>
      rw [hok] at H9 H12
      rw [if_neg (by simp)] at H9
      simp only [outR, hok] at H13
      exact reads_no a0 _ w (by omega) _ false (.inl rfl) (Lib.hid awake_any) (Lib.hid H9) (Lib.hid H12) (Lib.hid H13)
    | true =>
      obtain ⟨h1, h2, h3⟩ := unq_read a0.data.toList hok
      rw [size_list] at h2
      rw [hok] at H9 H12
      simp only [outR, hok, if_true] at H13
      by_cases hN : (readOf a0.data.toList).2.1 = a0.size
      · rw [if_pos ⟨rfl, hN⟩] at H9
        rw [hN] at H12 H13
        exact reads_yes a0 _ w (by omega) (Lib.hid awake_any) (Lib.hid H9) (Lib.hid H12) (Lib.hid H13)
      · rw [if_neg (by simp [hN])] at H9
        exact reads_no a0 _ w (by omega) _ true (.inr ⟨rfl, by omega⟩) (Lib.hid awake_any) (Lib.hid H9) (Lib.hid H12) (Lib.hid H13)

set_option maxRecDepth 100000 in
theorem lifted (os : Os) (started : os.Started) (H : Type) (enc : TypeId × Value → H) :
    ReturnsInHanded {} Try.checked os 4 .any (Rows.quoteReadsSpec.pre6 enc Try.prog Try.f4 Rows.quoteReadsRow.domain false) (Rows.quoteReadsSpec.post enc Try.prog Try.f4 false true false false) := by
  refine returnsInHanded_of_change (C := Try.checked) own started (by kernel_rfl) Try.func4
    (ChangeSpec.witness6 (enc := enc) (C := Try.checked) false ⟨#[], #[.string ByteArray.empty], []⟩ 8 (by kernel_rfl) (by kernel_rfl) (by kernel_rfl) (by kernel_rfl)) ?_
  intro W base args ds gs before hval0 hW hcnd _
  have hval : ∀ (j : Nat) t v, Try.f4.params[j]? = some t → args[j]? = some v → Value.okWide Try.prog W .any base t v := hval0
  have hW' := hW
  obtain ⟨p, q, hA0, hV, rfl, hfz, hnd⟩ := hW
  have hA : DataW.TrodAll enc Try.prog W 0 (fun _ => true) true Try.f4.params.toList args.toList ds p := hA0
  rw [Try.params4] at hA hval
  obtain ⟨v0, vs0, d0, ds0, p0, q0, hargs, rfl, rfl, h0, r0⟩ := trodAll_cons hA
  obtain ⟨rfl, rfl, rfl⟩ := trodAll_nil r0
  obtain rfl : args = #[v0] := by cases args; simp_all
  obtain ⟨rfl, rfl⟩ := trodVars_none hV
  obtain ⟨a0, rfl, rfl, rfl, w0⟩ := open_string Try.underlying9 (hval 0 9 v0 rfl rfl) h0
  clear hA0 hval0
  simp only [List.append_nil] at hW'
  refine (walk a0 w0 W).mono fun e W' ⟨he, hg⟩ => ?_
  subst he
  exact ⟨_, rfl, _, _, _, [], [], [], hW', (trodAll_cons_mk (shut_bool Try.underlying4 _) trodAll_mk0), (trodAll_cons_mk (shut_string Try.underlying9 w0) trodAll_mk0), rfl, hg.frame _, fun h => by cases h⟩

theorem over : Rows.quoteReadsRow.holds Try.pinned (OpenSpec.ofChange Rows.quoteReadsSpec) :=
  OpenClaim.holds_of_wide 4 Try.f4 rfl rfl rfl rfl rfl rfl rfl ⟨rfl, rfl, rfl, rfl, rfl⟩ rfl rfl rfl rfl rfl (by kernel_rfl) Try.func4 (by kernel_rfl)
    (of_decide_eq_true (by kernel_rfl)) (by unfold Func.isWrapper; first | (rw [if_pos (by decide +kernel)]; kernel_rfl) | (rw [if_neg (by decide +kernel)]; exact ⟨rfl, rfl⟩))
    (fun os started H enc _ => lifted os started H enc)

/-- ████ THE STATEMENT ████ -/
theorem proved : Rows.QuoteReadsSaid :=
  over
end Go.Proofs.Ytcjliachoahndaa.quoteReads
