/-
 The document's signs of a level. Conditions: a level of 1 to 6.
-/
import Derived.Test.YtbknflaooemigaaGreatDk
namespace Go.Proofs.YtbknflaooemigaaGreat
open Go.RowKit Go.Sort
set_option linter.unusedVariables false

def IRow (w : World) (g : Nat) (L : List Int) : Prop := w.heap[g]? = some (.cells (L.map fun x => Value.int .i64 x).toArray 2 (0, 0))
theorem IRow.cell {w : World} {g : Nat} {L : List Int} (h : IRow w g L) {i : Nat} {x : Int} (hi : L[i]? = some x) : w.cell? ⟨g, i, none⟩ = some (.int .i64 x) := by
 rw [cell_of_row w g i _ 2 (0, 0) h]
 simp [hi]
theorem IRow.carry {w w' : World} {g : Nat} {L : List Int} (h : IRow w g L) (hb : Below w.heap.size w w') : IRow w' g L := (hb.block g (lt_of_heap h)).trans h
theorem IRow.oth {b g : Nat} {w w' : World} {L : List Int} (h : IRow w g L) (ho : Oth b w w') (hg : g ≠ b) : IRow w' g L := (ho.block g hg).trans h
theorem irow_made (w : World) (L : List Int) : IRow (w.alloc (.cells (L.map fun x => Value.int .i64 x).toArray 2)) w.heap.size L := by
 unfold IRow World.alloc
 simp
def SigR (w : World) (L : List (List UInt8)) (k : Nat) (e : Ending) (w' : World) : Prop := ∃ g h, e = .returned (.tuple #[.slice (some ⟨g, 0, none⟩) k k, .slice (some ⟨h, 0, none⟩) k k]) ∧ SRow w' g L ∧ IRow w' h (L.map opOf) ∧ w.heap.size ≤ g ∧ w.heap.size ≤ h ∧ Below w.heap.size w w'

set_option maxHeartbeats 1000000 in
theorem sign_1 (w : World) : Calls Tryz.prog 27 #[.int .i64 1] w (SigR w (sg 1) 1) := by
 go_enter Tryz.func27, Tryz.ntmps27
 go_wp2
 refine bodyPost_ret (v := .tuple #[.slice (some ⟨w.heap.size, 0, none⟩) 1 1, .slice (some ⟨w.heap.size + 1, 0, none⟩) 1 1]) (by simp [results, Tryz.results27, go_sem]) rfl ⟨w.heap.size, w.heap.size + 1, rfl, ?_, ?_, Nat.le_refl _, Nat.le_succ _, by go_grown⟩
 ·exact (srow_made w (sg 1)).carry (below_alloc _ _)
 ·have z := irow_made (w.alloc (.cells #[.string { data := #[124, 124] }] 9)) ((sg 1).map opOf)
  rw [World.size_alloc] at z
  exact z
set_option maxHeartbeats 1000000 in
theorem sign_2 (w : World) : Calls Tryz.prog 27 #[.int .i64 2] w (SigR w (sg 2) 1) := by
 go_enter Tryz.func27, Tryz.ntmps27
 go_wp2
 refine bodyPost_ret (v := .tuple #[.slice (some ⟨w.heap.size, 0, none⟩) 1 1, .slice (some ⟨w.heap.size + 1, 0, none⟩) 1 1]) (by simp [results, Tryz.results27, go_sem]) rfl ⟨w.heap.size, w.heap.size + 1, rfl, ?_, ?_, Nat.le_refl _, Nat.le_succ _, by go_grown⟩
 ·exact (srow_made w (sg 2)).carry (below_alloc _ _)
 ·have z := irow_made (w.alloc (.cells #[.string { data := #[38, 38] }] 9)) ((sg 2).map opOf)
  rw [World.size_alloc] at z
  exact z
set_option maxHeartbeats 1000000 in
theorem sign_3 (w : World) : Calls Tryz.prog 27 #[.int .i64 3] w (SigR w (sg 3) 2) := by
 go_enter Tryz.func27, Tryz.ntmps27
 go_wp2
 refine bodyPost_ret (v := .tuple #[.slice (some ⟨w.heap.size, 0, none⟩) 2 2, .slice (some ⟨w.heap.size + 1, 0, none⟩) 2 2]) (by simp [results, Tryz.results27, go_sem]) rfl ⟨w.heap.size, w.heap.size + 1, rfl, ?_, ?_, Nat.le_refl _, Nat.le_succ _, by go_grown⟩
 ·exact (srow_made w (sg 3)).carry (below_alloc _ _)
 ·have z := irow_made (w.alloc (.cells #[.string { data := #[61, 61] }, .string { data := #[33, 61] }] 9)) ((sg 3).map opOf)
  rw [World.size_alloc] at z
  exact z
set_option maxHeartbeats 1000000 in
theorem sign_4 (w : World) : Calls Tryz.prog 27 #[.int .i64 4] w (SigR w (sg 4) 4) := by
 go_enter Tryz.func27, Tryz.ntmps27
 go_wp2
 refine bodyPost_ret (v := .tuple #[.slice (some ⟨w.heap.size, 0, none⟩) 4 4, .slice (some ⟨w.heap.size + 1, 0, none⟩) 4 4]) (by simp [results, Tryz.results27, go_sem]) rfl ⟨w.heap.size, w.heap.size + 1, rfl, ?_, ?_, Nat.le_refl _, Nat.le_succ _, by go_grown⟩
 ·exact (srow_made w (sg 4)).carry (below_alloc _ _)
 ·have z := irow_made (w.alloc (.cells #[.string { data := #[60] }, .string { data := #[60, 61] }, .string { data := #[62] }, .string { data := #[62, 61] }] 9)) ((sg 4).map opOf)
  rw [World.size_alloc] at z
  exact z
set_option maxHeartbeats 1000000 in
theorem sign_5 (w : World) : Calls Tryz.prog 27 #[.int .i64 5] w (SigR w (sg 5) 2) := by
 go_enter Tryz.func27, Tryz.ntmps27
 go_wp2
 refine bodyPost_ret (v := .tuple #[.slice (some ⟨w.heap.size, 0, none⟩) 2 2, .slice (some ⟨w.heap.size + 1, 0, none⟩) 2 2]) (by simp [results, Tryz.results27, go_sem]) rfl ⟨w.heap.size, w.heap.size + 1, rfl, ?_, ?_, Nat.le_refl _, Nat.le_succ _, by go_grown⟩
 ·exact (srow_made w (sg 5)).carry (below_alloc _ _)
 ·have z := irow_made (w.alloc (.cells #[.string { data := #[43] }, .string { data := #[45] }] 9)) ((sg 5).map opOf)
  rw [World.size_alloc] at z
  exact z
set_option maxHeartbeats 1000000 in
theorem sign_6 (w : World) : Calls Tryz.prog 27 #[.int .i64 6] w (SigR w (sg 6) 3) := by
 go_enter Tryz.func27, Tryz.ntmps27
 go_wp2
 refine bodyPost_ret (v := .tuple #[.slice (some ⟨w.heap.size, 0, none⟩) 3 3, .slice (some ⟨w.heap.size + 1, 0, none⟩) 3 3]) (by simp [results, Tryz.results27, go_sem]) rfl ⟨w.heap.size, w.heap.size + 1, rfl, ?_, ?_, Nat.le_refl _, Nat.le_succ _, by go_grown⟩
 ·exact (srow_made w (sg 6)).carry (below_alloc _ _)
 ·have z := irow_made (w.alloc (.cells #[.string { data := #[42] }, .string { data := #[47] }, .string { data := #[37] }] 9)) ((sg 6).map opOf)
  rw [World.size_alloc] at z
  exact z
end Go.Proofs.YtbknflaooemigaaGreat
