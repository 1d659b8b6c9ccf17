/-
  Contracts of the statements' own small and awake: the document's examples. Conditions: none.
-/
import Derived.Test.YtogpfbmkbnooeaaMay
namespace Go.Proofs.Ytogpfbmkbnooeaa
open Go.RowKit
set_option linter.unusedVariables false

/-- The chain, by so many steps. -/
def chainF (S : Nat → Int) (stop : Nat) : Nat → Nat → Option (List Nat)
  | 0, _ => some []
  | f + 1, k => if k < stop then if S k < 0 ∨ (stop : Int) - 1 - k < S k then none else (chainF S stop f (k + 1 + (S k).toNat)).map (k :: ·) else some []

theorem chainF_eq {S : Nat → Int} {stop : Nat} : ∀ {f k : Nat}, stop - k ≤ f → chainF S stop f k = chain S stop k := by
  intro f
  induction f with
  | zero => intro k h; rw [chain_end (by omega)]; rfl
  | succ f ih =>
    intro k h
    rw [chainF]
    by_cases hk : k < stop
    · rw [if_pos hk]
      by_cases hb : S k < 0 ∨ (stop : Int) - 1 - k < S k
      · rw [if_pos hb, chain_bad hk hb]
      · rw [if_neg hb, chain_step hk hb, ih (by omega)]
    · rw [if_neg hk, chain_end hk]

def kidsF (S : Nat → Int) (j : Nat) : Option (List Nat) := chainF S (j + 1 + (S j).toNat) (S j).toNat (j + 1)
theorem kidsF_eq (S : Nat → Int) (j : Nat) : kidsF S j = chain S (j + 1 + (S j).toNat) (j + 1) := chainF_eq (by omega)

theorem may_by (l : List Nd) (h0 : 0 < l.length) (h1 : sz l 0 = (l.length : Int) - 1) (h2 : kindAt l 0 = 1)
    (h3 : ∀ j, j < l.length → (decide (0 ≤ sz l j ∧ j + sz l j ≤ (l.length : Int) - 1) && (kidsF (sz l) j).isSome && fieldOk l j && askB (kindAt l j) (nd l j).num (((kidsF (sz l) j).getD []).map (kindAt l))) = true) : Right (sz l) l.length ∧ mayB l = true := by
  have hR : Right (sz l) l.length := ⟨h0, h1, fun j hj => by
    have := h3 j hj
    rw [Bool.and_eq_true, Bool.and_eq_true, Bool.and_eq_true, decide_eq_true_eq, kidsF_eq] at this
    exact ⟨this.1.1.1.1, this.1.1.1.2, this.1.1.2⟩⟩
  refine ⟨hR, ?_⟩
  rw [mayB, rightB_true hR, decide_eq_true h2, Bool.true_and, Bool.true_and, List.all_eq_true]
  intro j hj
  have := h3 j (List.mem_range.1 hj)
  rw [Bool.and_eq_true, Bool.and_eq_true, Bool.and_eq_true, kidsF_eq] at this
  rw [Bool.and_eq_true]
  exact ⟨this.1.2, this.2⟩

def oneL : List Nd := [⟨1, 0, 0, 0, 0, { data := #[] }⟩]
def smallL : List Nd := [⟨1, 0, 0, 7, 0, { data := #[] }⟩, ⟨4, 0, 0, 6, 0, { data := #[109, 97, 105, 110] }⟩, ⟨14, 0, 0, 0, 0, { data := #[] }⟩, ⟨6, 0, 0, 4, 0, { data := #[] }⟩, ⟨9, 0, 0, 3, 0, { data := #[] }⟩, ⟨24, 0, 0, 0, 1, { data := #[] }⟩, ⟨6, 0, 0, 0, 0, { data := #[] }⟩, ⟨6, 0, 0, 0, 0, { data := #[] }⟩]

theorem one_may : mayB oneL = true := (may_by oneL (by decide) (by decide) (by decide) (by decide)).2
theorem small_right : Right (sz smallL) 8 := (may_by smallL (by decide) (by decide) (by decide) (by decide)).1
theorem small_may : mayB smallL = true := (may_by smallL (by decide) (by decide) (by decide) (by decide)).2
theorem small_kids : kidsAt (sz smallL) 8 4 = [5, 6, 7] := by
  rw [kidsAt, if_pos ⟨by decide, rightB_true small_right⟩]
  show kidsOf (sz smallL) 4 = _
  rw [kidsOf, ← kidsF_eq]
  decide

theorem small_wf : ∀ i, i < 8 → (nd smallL i).wf := by
  intro i hi
  match i, hi with
  | 0, _ => exact ⟨by decide, by unfold i64In; decide, by unfold i64In; decide, by unfold i64In; decide, by unfold i64In; decide, by decide⟩
  | 1, _ => exact ⟨by decide, by unfold i64In; decide, by unfold i64In; decide, by unfold i64In; decide, by unfold i64In; decide, by decide⟩
  | 2, _ => exact ⟨by decide, by unfold i64In; decide, by unfold i64In; decide, by unfold i64In; decide, by unfold i64In; decide, by decide⟩
  | 3, _ => exact ⟨by decide, by unfold i64In; decide, by unfold i64In; decide, by unfold i64In; decide, by unfold i64In; decide, by decide⟩
  | 4, _ => exact ⟨by decide, by unfold i64In; decide, by unfold i64In; decide, by unfold i64In; decide, by unfold i64In; decide, by decide⟩
  | 5, _ => exact ⟨by decide, by unfold i64In; decide, by unfold i64In; decide, by unfold i64In; decide, by unfold i64In; decide, by decide⟩
  | 6, _ => exact ⟨by decide, by unfold i64In; decide, by unfold i64In; decide, by unfold i64In; decide, by unfold i64In; decide, by decide⟩
  | 7, _ => exact ⟨by decide, by unfold i64In; decide, by unfold i64In; decide, by unfold i64In; decide, by unfold i64In; decide, by decide⟩

theorem row_of_block {w : World} {g : Nat} {l : List Nd} (hw : ∀ i, i < l.length → (nd l i).wf) (h : ∀ i, i < l.length → At w g (i * 6) (nd l i)) : Row w (some ⟨g, 0, none⟩) l := fun i hi => ⟨g, 0, rfl, by rw [Nat.zero_add]; exact h i hi, hw i hi⟩

set_option maxHeartbeats 1000000 in
set_option maxRecDepth 100000 in
theorem small_any (w : World) : Calls Try.prog 26 #[] w fun e w' => ∃ g, e = .returned (.slice (some ⟨g, 0, none⟩) 8 8) ∧ Row w' (some ⟨g, 0, none⟩) smallL ∧ Below w.heap.size w w' := by
  go_enter Try.func26, Try.ntmps26
  go_wp2
  go_ret
  refine ⟨w.heap.size, rfl, row_of_block small_wf ?_, below_alloc _ _⟩
  intro i hi
  match i, hi with
  | 0, _ => exact ⟨by simp [go_sem]; rfl, by simp [go_sem]; rfl, by simp [go_sem]; rfl, by simp [go_sem]; rfl, by simp [go_sem]; rfl, by simp [go_sem]; rfl⟩
  | 1, _ => exact ⟨by simp [go_sem]; rfl, by simp [go_sem]; rfl, by simp [go_sem]; rfl, by simp [go_sem]; rfl, by simp [go_sem]; rfl, by simp [go_sem]; rfl⟩
  | 2, _ => exact ⟨by simp [go_sem]; rfl, by simp [go_sem]; rfl, by simp [go_sem]; rfl, by simp [go_sem]; rfl, by simp [go_sem]; rfl, by simp [go_sem]; rfl⟩
  | 3, _ => exact ⟨by simp [go_sem]; rfl, by simp [go_sem]; rfl, by simp [go_sem]; rfl, by simp [go_sem]; rfl, by simp [go_sem]; rfl, by simp [go_sem]; rfl⟩
  | 4, _ => exact ⟨by simp [go_sem]; rfl, by simp [go_sem]; rfl, by simp [go_sem]; rfl, by simp [go_sem]; rfl, by simp [go_sem]; rfl, by simp [go_sem]; rfl⟩
  | 5, _ => exact ⟨by simp [go_sem]; rfl, by simp [go_sem]; rfl, by simp [go_sem]; rfl, by simp [go_sem]; rfl, by simp [go_sem]; rfl, by simp [go_sem]; rfl⟩
  | 6, _ => exact ⟨by simp [go_sem]; rfl, by simp [go_sem]; rfl, by simp [go_sem]; rfl, by simp [go_sem]; rfl, by simp [go_sem]; rfl, by simp [go_sem]; rfl⟩
  | 7, _ => exact ⟨by simp [go_sem]; rfl, by simp [go_sem]; rfl, by simp [go_sem]; rfl, by simp [go_sem]; rfl, by simp [go_sem]; rfl, by simp [go_sem]; rfl⟩

theorem one_row (w : World) : Row (w.alloc (.cells #[.int .u8 1, .int .i64 0, .int .i64 0, .int .i64 0, .int .i64 0, .string { data := #[] }] 31)) (some ⟨w.heap.size, 0, none⟩) oneL := by
  refine row_of_block ?_ ?_
  · intro i hi
    obtain rfl : i = 0 := by simp [oneL] at hi; omega
    exact ⟨by decide, by unfold i64In; decide, by unfold i64In; decide, by unfold i64In; decide, by unfold i64In; decide, by decide⟩
  · intro i hi
    obtain rfl : i = 0 := by simp [oneL] at hi; omega
    exact ⟨by simp [go_sem]; rfl, by simp [go_sem]; rfl, by simp [go_sem]; rfl, by simp [go_sem]; rfl, by simp [go_sem]; rfl, by simp [go_sem]; rfl⟩

set_option maxHeartbeats 2000000 in
set_option maxRecDepth 100000 in
theorem awake_any (w : World) : Calls Try.prog 9 #[] w fun e w' => e = .returned (.bool true) ∧ Below w.heap.size w w' := by
  go_enter Try.func9, Try.ntmps9
  go_wp2_with fail
  refine (small_any _).mono ?_
  rintro e w1 ⟨g1, rfl, hr1, hb1⟩
  replace hr1 := Lib.hid hr1
  replace hb1 := Lib.hid hb1
  go_wp2_with fail
  refine (kids_any _ 8 8 smallL _ rfl (by decide) hr1.out 4 (by unfold i64In; decide) [5, 6, 7] small_kids).mono ?_
  rintro e w2 ⟨v, rfl, hown, hb2⟩
  obtain ⟨a', cap', rfl, hcell⟩ := ownI_open hown
  obtain ⟨g, rfl, _, k0⟩ := hcell 0 (by decide)
  obtain ⟨g', hg', _, k1⟩ := hcell 1 (by decide)
  cases hg'
  obtain ⟨g', hg', _, k2⟩ := hcell 2 (by decide)
  cases hg'
  replace k0 : w2.cell? ⟨g, 0, none⟩ = some (.int .i64 5) := k0
  replace k1 : w2.cell? ⟨g, 1, none⟩ = some (.int .i64 6) := k1
  replace k2 : w2.cell? ⟨g, 2, none⟩ = some (.int .i64 7) := k2
  replace hb2 := Lib.hid (below_step hb1.out hb2)
  rw [show [5, 6, 7].length = 3 from rfl]
  clear hown hcell hr1 hb1
  go_wp2_with fail
  refine (may_any _ 1 1 oneL _ rfl (by decide) (one_row w2) true one_may).mono ?_
  rintro e w3 ⟨rfl, hb3⟩
  replace k0 := cell_carry hb3 (cell_alloc k0 _)
  replace k1 := cell_carry hb3 (cell_alloc k1 _)
  replace k2 := cell_carry hb3 (cell_alloc k2 _)
  replace hb3 := Lib.hid (below_step (below_step hb2.out (below_alloc _ _)) hb3)
  clear hb2
  go_wp2_with fail
  refine (small_any _).mono ?_
  rintro e w4 ⟨g4, rfl, hr4, hb4⟩
  replace k0 := cell_carry hb4 k0
  replace k1 := cell_carry hb4 k1
  replace k2 := cell_carry hb4 k2
  replace hr4 := Lib.hid hr4
  replace hb4 := Lib.hid (below_step hb3.out hb4)
  go_wp2_with fail
  refine (may_any _ 8 8 smallL _ rfl (by decide) hr4.out true small_may).mono ?_
  rintro e w5 ⟨rfl, hb5⟩
  replace k0 := cell_carry hb5 k0
  replace k1 := cell_carry hb5 k1
  replace k2 := cell_carry hb5 k2
  replace hb5 := Lib.hid (below_step hb4.out hb5)
  go_wp2_with fail
  refine (name_any _ _ true (by decide)).mono ?_
  rintro e w6 ⟨rfl, hb6⟩
  replace hb6 := Lib.hid (below_step hb5.out hb6)
  go_wp2_with fail
  refine (name_any _ _ false (by decide)).mono ?_
  rintro e w7 ⟨rfl, hb7⟩
  replace hb7 := Lib.hid (below_step hb6.out hb7)
  go_wp2_with fail
  go_ret
  exact ⟨rfl, hb7.out⟩

end Go.Proofs.Ytogpfbmkbnooeaa
