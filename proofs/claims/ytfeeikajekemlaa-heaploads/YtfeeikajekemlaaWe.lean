/-
  Contracts of heap.mayBe and ref's May. Conditions: as said.
-/
import Derived.Test.YtfeeikajekemlaaWa
namespace Go.Proofs.Ytfeeikajekemlaa
open Go.RowKit
set_option linter.unusedVariables false
set_option linter.unusedSimpArgs false
set_option maxRecDepth 100000

theorem tolist_nil (s : ByteArray) : s.toList = [] ↔ s.size = 0 := by
  rw [ByteArray.toList_eq, ← size_list]
  exact List.length_eq_zero_iff.symm
theorem tolist_ne {s : ByteArray} (h : ¬ s.size = 0) : s.toList.isEmpty = false ∧ ¬ s.toList = [] := by
  have : ¬ s.toList = [] := fun e => h ((tolist_nil s).1 e)
  refine ⟨?_, this⟩
  cases hl : s.toList with
  | nil => exact absurd hl this
  | cons a l => rfl
set_option maxHeartbeats 4000000 in
theorem mayBe_any (x : Oc) (w : World) (hn : x.n ≤ 4000000) (ht : x.text.size ≤ 4000000) : Calls Try.prog 49 #[ocV x] w fun e w' => e = .returned (.bool (mayC x)) ∧ Below w.heap.size w w' := by
  obtain ⟨k, f, t, a, n, c⟩ := x
  simp only at hn ht
  obtain ⟨b, hb⟩ : ∃ b, mayC ⟨k, f, t, a, n, c⟩ = b := ⟨_, rfl⟩
  rw [hb]
  replace hb := Lib.hid hb
  by_cases hs : t.size = 0
  · obtain rfl : t = { data := #[] } := empty_of t (by omega)
    clear hs
    rcases (by omega : k = 3 ∨ k = 6 ∨ k = 7 ∨ (k ≠ 3 ∧ k ≠ 6 ∧ k ≠ 7)) with rfl | rfl | rfl | ⟨h3, h6, h7⟩
    · go_enter Try.func49, Try.ntmps49
      go_wp2_with fail
      all_goals (go_ret; refine ⟨ret_bool ?_, by go_grown⟩; rw [← hb.out]; simp [mayC]; try (first | (intro h; exact absurd h (by decide)) | (intro _; rfl)))
    · go_enter Try.func49, Try.ntmps49
      go_wp2_with fail
      all_goals (go_ret; refine ⟨ret_bool ?_, by go_grown⟩; rw [← hb.out]; simp [mayC]; try (first | (intro h; exact absurd h (by decide)) | (intro _; rfl)))
    · go_enter Try.func49, Try.ntmps49
      go_wp2_with fail
      all_goals (go_ret; refine ⟨ret_bool ?_, by go_grown⟩; rw [← hb.out]; simp [mayC]; try (first | (intro h; exact absurd h (by decide)) | (intro _; rfl)))
    · have e3 : ((k : Int) == 3) = false := by rw [beq_eq_false_iff_ne]; omega
      have e6 : ((k : Int) == 6) = false := by rw [beq_eq_false_iff_ne]; omega
      have e7 : ((k : Int) == 7) = false := by rw [beq_eq_false_iff_ne]; omega
      go_enter Try.func49, Try.ntmps49
      go_wp2_with fail
      all_goals (go_ret; refine ⟨ret_bool ?_, by go_grown⟩; rw [← hb.out]; simp [mayC, h3, h6, h7])
  · obtain ⟨q1, q2⟩ := tolist_ne hs
    have hp : 0 < t.size := by omega
    rcases (by omega : k = 3 ∨ k = 6 ∨ k = 7 ∨ (k ≠ 3 ∧ k ≠ 6 ∧ k ≠ 7)) with rfl | rfl | rfl | ⟨h3, h6, h7⟩
    · by_cases hn0 : n = 0
      · subst hn0
        go_enter Try.func49, Try.ntmps49
        go_wp2_with fail
        all_goals (go_ret; refine ⟨ret_bool ?_, by go_grown⟩; rw [← hb.out]; simp [mayC, q1, hp]; try rfl)
      · go_enter Try.func49, Try.ntmps49
        go_wp2_with fail
        all_goals (go_ret; refine ⟨ret_bool ?_, by go_grown⟩; rw [← hb.out]; simp [mayC, q1, hp, hn0])
    · go_enter Try.func49, Try.ntmps49
      go_wp2_with fail
      all_goals (go_ret; refine ⟨ret_bool ?_, by go_grown⟩; rw [← hb.out]; simp [mayC, hs])
    · go_enter Try.func49, Try.ntmps49
      go_wp2_with fail
      all_goals (go_ret; refine ⟨ret_bool ?_, by go_grown⟩; rw [← hb.out]; simp [mayC, hs])
    · have e3 : ((k : Int) == 3) = false := by rw [beq_eq_false_iff_ne]; omega
      have e6 : ((k : Int) == 6) = false := by rw [beq_eq_false_iff_ne]; omega
      have e7 : ((k : Int) == 7) = false := by rw [beq_eq_false_iff_ne]; omega
      go_enter Try.func49, Try.ntmps49
      go_wp2_with fail
      all_goals (go_ret; refine ⟨ret_bool ?_, by go_grown⟩; rw [← hb.out]; simp [mayC, h3, h6, h7])

set_option maxHeartbeats 4000000 in
theorem may_any (x : Oc) (w : World) (hn : x.n ≤ 4000000) (ht : x.text.size ≤ 4000000) : Calls Try.prog 43 #[ocV x] w fun e w' => e = .returned (.bool (mayC x)) ∧ Below w.heap.size w w' := by
  obtain ⟨k, f, t, a, n, c⟩ := x
  simp only at hn ht
  obtain ⟨b, hb⟩ : ∃ b, mayC ⟨k, f, t, a, n, c⟩ = b := ⟨_, rfl⟩
  rw [hb]
  replace hb := Lib.hid hb
  by_cases hs : t.size = 0
  · obtain rfl : t = { data := #[] } := empty_of t (by omega)
    clear hs
    rcases (by omega : k = 3 ∨ k = 6 ∨ k = 7 ∨ (k ≠ 3 ∧ k ≠ 6 ∧ k ≠ 7)) with rfl | rfl | rfl | ⟨h3, h6, h7⟩
    · go_enter Try.func43, Try.ntmps43
      go_wp2_with fail
      all_goals (go_ret; refine ⟨ret_bool ?_, by go_grown⟩; rw [← hb.out]; simp [mayC]; try (first | (intro h; exact absurd h (by decide)) | (intro _; rfl)))
    · go_enter Try.func43, Try.ntmps43
      go_wp2_with fail
      all_goals (go_ret; refine ⟨ret_bool ?_, by go_grown⟩; rw [← hb.out]; simp [mayC]; try (first | (intro h; exact absurd h (by decide)) | (intro _; rfl)))
    · go_enter Try.func43, Try.ntmps43
      go_wp2_with fail
      all_goals (go_ret; refine ⟨ret_bool ?_, by go_grown⟩; rw [← hb.out]; simp [mayC]; try (first | (intro h; exact absurd h (by decide)) | (intro _; rfl)))
    · have e3 : ((k : Int) == 3) = false := by rw [beq_eq_false_iff_ne]; omega
      have e6 : ((k : Int) == 6) = false := by rw [beq_eq_false_iff_ne]; omega
      have e7 : ((k : Int) == 7) = false := by rw [beq_eq_false_iff_ne]; omega
      go_enter Try.func43, Try.ntmps43
      go_wp2_with fail
      all_goals (go_ret; refine ⟨ret_bool ?_, by go_grown⟩; rw [← hb.out]; simp [mayC, h3, h6, h7])
  · obtain ⟨q1, q2⟩ := tolist_ne hs
    have hp : 0 < t.size := by omega
    rcases (by omega : k = 3 ∨ k = 6 ∨ k = 7 ∨ (k ≠ 3 ∧ k ≠ 6 ∧ k ≠ 7)) with rfl | rfl | rfl | ⟨h3, h6, h7⟩
    · by_cases hn0 : n = 0
      · subst hn0
        go_enter Try.func43, Try.ntmps43
        go_wp2_with fail
        all_goals (go_ret; refine ⟨ret_bool ?_, by go_grown⟩; rw [← hb.out]; simp [mayC, q1, hp]; try rfl)
      · go_enter Try.func43, Try.ntmps43
        go_wp2_with fail
        all_goals (go_ret; refine ⟨ret_bool ?_, by go_grown⟩; rw [← hb.out]; simp [mayC, q1, hp, hn0])
    · go_enter Try.func43, Try.ntmps43
      go_wp2_with fail
      all_goals (go_ret; refine ⟨ret_bool ?_, by go_grown⟩; rw [← hb.out]; simp [mayC, hs])
    · go_enter Try.func43, Try.ntmps43
      go_wp2_with fail
      all_goals (go_ret; refine ⟨ret_bool ?_, by go_grown⟩; rw [← hb.out]; simp [mayC, hs])
    · have e3 : ((k : Int) == 3) = false := by rw [beq_eq_false_iff_ne]; omega
      have e6 : ((k : Int) == 6) = false := by rw [beq_eq_false_iff_ne]; omega
      have e7 : ((k : Int) == 7) = false := by rw [beq_eq_false_iff_ne]; omega
      go_enter Try.func43, Try.ntmps43
      go_wp2_with fail
      all_goals (go_ret; refine ⟨ret_bool ?_, by go_grown⟩; rw [← hb.out]; simp [mayC, h3, h6, h7])

end Go.Proofs.Ytfeeikajekemlaa
