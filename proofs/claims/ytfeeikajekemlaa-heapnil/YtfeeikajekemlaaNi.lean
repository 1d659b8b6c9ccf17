/-
  What a nil heap answers; a new heap. Conditions: as said.
-/
import Derived.Test.YtfeeikajekemlaaWc
import Derived.Test.YtfeeikajekemlaaWk
namespace Go.Proofs.Ytfeeikajekemlaa
open Go.RowKit
set_option linter.unusedVariables false
set_option linter.unusedSimpArgs false
set_option maxRecDepth 100000

set_option maxHeartbeats 4000000 in
theorem str_nil (s : ByteArray) (hs : s.size ≤ 100000) (w : World) : Calls Try.prog 23 #[.pointer none, .string s] w fun e w' => e = .returned (.tuple #[vlV v0, .bool false]) ∧ Below w.heap.size w w' := by
  have H1 : Hid (∀ w' : World, Calls Try.prog 41 #[.agg #[.int .u8 3, .int .i64 0, .string s, .slice none 0 0]] w' fun e w'' => e = .returned (.int .i64 (partC ⟨3, 0, s, none, 0, 0⟩ : Nat)) ∧ Below w'.heap.size w' w'') := Lib.hid fun w' => part_any ⟨3, 0, s, none, 0, 0⟩ w' hs (Nat.zero_le _)
  generalize partC ⟨3, 0, s, none, 0, 0⟩ = P at H1
  go_enter Try.func23, Try.ntmps23
  go_wp2_with (first | ((with_reducible refine (H1.out _).mono ?_); rintro e w2 ⟨rfl, hb2⟩; have HB2 := Lib.hid (below_step (by go_grown) hb2 : Below w.heap.size w w2); have hz2 : w.heap.size < w2.heap.size := (by have := hb2.size; simp at this; omega); have R2 := Lib.hid (((zero_box w).alloc _).of_block (hb2.block w.heap.size (by simp; omega))); clear hb2) | ((with_reducible refine (room_nil _ _).mono ?_); rintro e w3 ⟨rfl, hb3⟩; have HB3 := Lib.hid (below_step HB2.out hb3); have R3 := R2.out.of_block (hb3.block w.heap.size (by omega)); clear hb3; have r0 : w3.cell? ⟨w.heap.size, 0, none⟩ = some (.int .u8 0) := R3.cell (i := 0) (by omega); have r1 : w3.cell? ⟨w.heap.size, 1, none⟩ = some (.int .i64 0) := R3.cell (i := 1) (by omega); have r2 : w3.cell? ⟨w.heap.size, 2, none⟩ = some (.int .i64 0) := R3.cell (i := 2) (by omega); have r3 : w3.cell? ⟨w.heap.size, 3, none⟩ = some (.int .i64 0) := R3.cell (i := 3) (by omega); have rf : ∀ o, w3.frozen? ⟨w.heap.size, o, none⟩ = false := (fun o => R3.frozen o); clear R3))
  refine bodyPost_ret (v := .tuple #[vlV v0, .bool false]) (by simp [results, Try.results23, go_sem, r0, r1, r2, r3, v0]) rfl ⟨rfl, ?_⟩
  exact (((HB3.out.setCell (by simp) _).setCell (by simp) _).setCell (by simp) _).setCell (by simp) _

set_option maxHeartbeats 4000000 in
theorem list_nil (f : Int) (kz : Nat) (nz rz iz : Int) (hf : ¬ f < 0) (w : World) : Calls Try.prog 24 #[.pointer none, .int .i64 f, .int .i64 0, .agg #[.int .u8 kz, .int .i64 nz, .int .i64 rz, .int .i64 iz]] w fun e w' => e = .returned (.tuple #[vlV v0, .bool false]) ∧ Below w.heap.size w w' := by
  go_enter Try.func24, Try.ntmps24
  go_wp2_with ((with_reducible refine (room_nil _ _).mono ?_); rintro e w2 ⟨rfl, hb2⟩; have HB2 := Lib.hid (below_step (by go_grown) hb2 : Below w.heap.size w w2); have hz2 : w.heap.size + 1 < w2.heap.size := (by have := hb2.size; simp at this; omega); have R2 := (zero_box1 w _).of_block (hb2.block (w.heap.size + 1) (by simp)); clear hb2; have r0 : w2.cell? ⟨w.heap.size + 1, 0, none⟩ = some (.int .u8 0) := R2.cell (i := 0) (by omega); have r1 : w2.cell? ⟨w.heap.size + 1, 1, none⟩ = some (.int .i64 0) := R2.cell (i := 1) (by omega); have r2 : w2.cell? ⟨w.heap.size + 1, 2, none⟩ = some (.int .i64 0) := R2.cell (i := 2) (by omega); have r3 : w2.cell? ⟨w.heap.size + 1, 3, none⟩ = some (.int .i64 0) := R2.cell (i := 3) (by omega); have rf : ∀ o, w2.frozen? ⟨w.heap.size + 1, o, none⟩ = false := (fun o => R2.frozen o); clear R2)
  refine bodyPost_ret (v := .tuple #[vlV v0, .bool false]) (by simp [results, Try.results24, go_sem, hz2, r0, r1, r2, r3, v0]) rfl ⟨rfl, ?_⟩
  first | exact (((HB2.out.setCell (by simp) _).setCell (by simp) _).setCell (by simp) _).setCell (by simp) _ | exact ((((HB2.out.alloc HB2.out.size _).setCell (by simp) _).setCell (by simp) _).setCell (by simp) _).setCell (by simp) _

set_option maxHeartbeats 4000000 in
theorem rec_nil (f : Int) (a : Option Addr) (n c : Nat) (hf : ¬ f < 0) (w : World) : Calls Try.prog 25 #[.pointer none, .int .i64 f, .slice a n c] w fun e w' => e = .returned (.tuple #[vlV v0, .bool false]) ∧ Below w.heap.size w w' := by
  go_enter Try.func25, Try.ntmps25
  go_wp2_with ((with_reducible refine (room_nil _ _).mono ?_); rintro e w2 ⟨rfl, hb2⟩; have HB2 := Lib.hid (below_step (by go_grown) hb2 : Below w.heap.size w w2); have hz2 : w.heap.size < w2.heap.size := (by have := hb2.size; simp at this; omega); have R2 := (zero_box w).of_block (hb2.block (w.heap.size) (by simp)); clear hb2; have r0 : w2.cell? ⟨w.heap.size, 0, none⟩ = some (.int .u8 0) := R2.cell (i := 0) (by omega); have r1 : w2.cell? ⟨w.heap.size, 1, none⟩ = some (.int .i64 0) := R2.cell (i := 1) (by omega); have r2 : w2.cell? ⟨w.heap.size, 2, none⟩ = some (.int .i64 0) := R2.cell (i := 2) (by omega); have r3 : w2.cell? ⟨w.heap.size, 3, none⟩ = some (.int .i64 0) := R2.cell (i := 3) (by omega); have rf : ∀ o, w2.frozen? ⟨w.heap.size, o, none⟩ = false := (fun o => R2.frozen o); clear R2)
  refine bodyPost_ret (v := .tuple #[vlV v0, .bool false]) (by simp [results, Try.results25, go_sem, hz2, r0, r1, r2, r3, v0]) rfl ⟨rfl, ?_⟩
  first | exact (((HB2.out.setCell (by simp) _).setCell (by simp) _).setCell (by simp) _).setCell (by simp) _ | exact ((((HB2.out.alloc HB2.out.size _).setCell (by simp) _).setCell (by simp) _).setCell (by simp) _).setCell (by simp) _

set_option maxHeartbeats 4000000 in
theorem text_nil (kd : Nat) (n re im : Int) (w : World) : Calls Try.prog 26 #[.pointer none, .agg #[.int .u8 kd, .int .i64 n, .int .i64 re, .int .i64 im]] w fun e w' => e = .returned (.tuple #[.string { data := #[] }, .bool false]) ∧ Below w.heap.size w w' := by
  have HM : Hid (∀ w' : World, Calls Try.prog 44 #[.pointer none, .agg #[.int .u8 kd, .int .i64 n, .int .i64 re, .int .i64 im]] w' fun e w'' => e = .returned (.tuple #[.agg #[.int .u8 0, .int .i64 0, .string { data := #[] }, .slice none 0 0], .bool false]) ∧ Below w'.heap.size w' w'') := Lib.hid fun w' => meant_nil ⟨kd, n, re, im⟩ w'
  go_enter Try.func26, Try.ntmps26
  go_wp2_with ((with_reducible refine (HM.out _).mono ?_); rintro e w2 ⟨rfl, hb⟩; have hB : Below w.heap.size w w2 := below_step (by go_grown) hb; clear hb)
  go_quiet (fail)
  go_wp2_with fail
  go_ret2
  exact ⟨rfl, (hB.alloc hB.size _).trans ((below_drewN _ _).mono (by simp; have := hB.size; omega))⟩

set_option maxHeartbeats 4000000 in
theorem size_nil (kd : Nat) (n re im : Int) (w : World) : Calls Try.prog 27 #[.pointer none, .agg #[.int .u8 kd, .int .i64 n, .int .i64 re, .int .i64 im]] w fun e w' => e = .returned (.tuple #[.int .i64 0, .int .u8 3]) ∧ Below w.heap.size w w' := by
  have HM : Hid (∀ w' : World, Calls Try.prog 44 #[.pointer none, .agg #[.int .u8 kd, .int .i64 n, .int .i64 re, .int .i64 im]] w' fun e w'' => e = .returned (.tuple #[.agg #[.int .u8 0, .int .i64 0, .string { data := #[] }, .slice none 0 0], .bool false]) ∧ Below w'.heap.size w' w'') := Lib.hid fun w' => meant_nil ⟨kd, n, re, im⟩ w'
  go_enter Try.func27, Try.ntmps27
  go_wp2_with ((with_reducible refine (HM.out _).mono ?_); rintro e w2 ⟨rfl, hb⟩; have hB : Below w.heap.size w w2 := below_step (by go_grown) hb; clear hb)
  go_ret2
  exact ⟨rfl, hB.alloc hB.size _⟩

set_option maxHeartbeats 4000000 in
theorem get_nil (kd : Nat) (n re im : Int) (i : Int) (w : World) : Calls Try.prog 20 #[.pointer none, .agg #[.int .u8 kd, .int .i64 n, .int .i64 re, .int .i64 im], .int .i64 i] w fun e w' => e = .returned (.tuple #[vlV v0, .int .u8 3]) ∧ Below w.heap.size w w' := by
  have HM : Hid (∀ w' : World, Calls Try.prog 44 #[.pointer none, .agg #[.int .u8 kd, .int .i64 n, .int .i64 re, .int .i64 im]] w' fun e w'' => e = .returned (.tuple #[.agg #[.int .u8 0, .int .i64 0, .string { data := #[] }, .slice none 0 0], .bool false]) ∧ Below w'.heap.size w' w'') := Lib.hid fun w' => meant_nil ⟨kd, n, re, im⟩ w'
  go_enter Try.func20, Try.ntmps20
  go_wp2_with ((with_reducible refine (HM.out _).mono ?_); rintro e w2 ⟨rfl, hb⟩; have hB : Below w.heap.size w w2 := below_step (by go_grown) hb; have hz2 : w.heap.size + 1 < w2.heap.size := (by have := hb.size; simp at this; omega); have R2 := (zero_box1 w _).of_block (hb.block (w.heap.size + 1) (by simp)); clear hb; have r0 : w2.cell? ⟨w.heap.size + 1, 0, none⟩ = some (.int .u8 0) := R2.cell (i := 0) (by omega); have r1 : w2.cell? ⟨w.heap.size + 1, 1, none⟩ = some (.int .i64 0) := R2.cell (i := 1) (by omega); have r2 : w2.cell? ⟨w.heap.size + 1, 2, none⟩ = some (.int .i64 0) := R2.cell (i := 2) (by omega); have r3 : w2.cell? ⟨w.heap.size + 1, 3, none⟩ = some (.int .i64 0) := R2.cell (i := 3) (by omega); have rf : ∀ o, w2.frozen? ⟨w.heap.size + 1, o, none⟩ = false := (fun o => R2.frozen o); clear R2)
  refine bodyPost_ret (v := .tuple #[vlV v0, .int .u8 3]) (by simp [results, Try.results20, go_sem, hz2, r0, r1, r2, r3, v0]) rfl ⟨rfl, ?_⟩
  first | exact ((((hB.alloc hB.size _).setCell (by simp) _).setCell (by simp) _).setCell (by simp) _).setCell (by simp) _ | exact ((((hB.setCell (by simp) _).setCell (by simp) _).setCell (by simp) _).setCell (by simp) _).alloc (by simp; omega) _

set_option maxHeartbeats 4000000 in
theorem put_nil (kd : Nat) (n re im : Int) (i : Int) (kx : Nat) (nx rx ix : Int) (w : World) : Calls Try.prog 19 #[.pointer none, .agg #[.int .u8 kd, .int .i64 n, .int .i64 re, .int .i64 im], .int .i64 i, .agg #[.int .u8 kx, .int .i64 nx, .int .i64 rx, .int .i64 ix]] w fun e w' => e = .returned (.int .u8 3) ∧ Below w.heap.size w w' := by
  have HM : Hid (∀ w' : World, Calls Try.prog 44 #[.pointer none, .agg #[.int .u8 kd, .int .i64 n, .int .i64 re, .int .i64 im]] w' fun e w'' => e = .returned (.tuple #[.agg #[.int .u8 0, .int .i64 0, .string { data := #[] }, .slice none 0 0], .bool false]) ∧ Below w'.heap.size w' w'') := Lib.hid fun w' => meant_nil ⟨kd, n, re, im⟩ w'
  go_enter Try.func19, Try.ntmps19
  go_wp2_with ((with_reducible refine (HM.out _).mono ?_); rintro e w2 ⟨rfl, hb⟩; have hB : Below w.heap.size w w2 := below_step (by go_grown) hb; clear hb)
  go_ret
  exact ⟨rfl, hB.alloc hB.size _⟩

theorem cells_nil (w : World) : Calls Try.prog 13 #[.pointer none] w fun e w' => e = .returned (.int .i64 0) ∧ w = w' := by
  go_enter Try.func13, Try.ntmps13
  go_wp2_with fail
  go_ret
  exact ⟨rfl, rfl⟩

theorem all_nil (w : World) : Calls Try.prog 15 #[.pointer none] w fun e w' => e = .returned (.slice none 0 0) ∧ w = w' := by
  go_enter Try.func15, Try.ntmps15
  go_wp2_with fail
  go_ret
  exact ⟨rfl, rfl⟩

theorem copy_nil (w : World) : Calls Try.prog 22 #[.pointer none] w fun e w' => e = .returned (.pointer none) ∧ w = w' := by
  go_enter Try.func22, Try.ntmps22
  go_wp2_with fail
  go_ret
  exact ⟨rfl, rfl⟩

/-- A new heap. -/
theorem new_bad (cells : Int) (w : World) (h : cells < 0 ∨ 65536 < cells) : Calls Try.prog 9 #[.int .i64 cells] w fun e w' => e = .returned (.tuple #[.pointer none, .int .i64 1]) ∧ w = w' := by
  by_cases h0 : cells < 0
  · go_enter Try.func9, Try.ntmps9
    go_wp2_with fail
    go_ret2
    exact ⟨rfl, rfl⟩
  · have h1 : 65536 < cells := by omega
    go_enter Try.func9, Try.ntmps9
    go_wp2_with fail
    go_ret2
    exact ⟨rfl, rfl⟩
theorem new_ok (room : Nat) (w : World) (h : room ≤ 65536) (own : Owns) (k : Nat) (hk : k ≠ 0) (fz : Fz w own) : Calls Try.prog 9 #[.int .i64 (room : Int)] w fun e w' => e = .returned (.tuple #[.pointer (some ⟨w.heap.size, 0, none⟩), .int .i64 0]) ∧ ∃ own', Hp w' own' k w.heap.size room m0 ∧ Fz w' own' ∧ Stp w.heap.size k own own' w w' ∧ Below w.heap.size w w' := by
  go_enter Try.func9, Try.ntmps9
  go_wp2_with fail
  go_ret2
  refine ⟨rfl, fun b => if b = w.heap.size then (k, 0) else own b, ⟨.slice none 0 0, .slice none 0 0, fun _ => 0, fun _ => 0, fun _ => true, fun _ => oc0, hk, ok0 room, h, ?_, by simp, World.ownsRow_nil _ _ _ _, fun g hg => by simp [Value.ownBlock] at hg, World.ownsRow_nil _ _ _ _, fun g hg => by simp [Value.ownBlock] at hg, fun i hi => by simp [m0] at hi⟩, ?_, ?_, by go_grown⟩
  · exact World.rowIs_alloc w #[.int .i64 room, .int .i64 0, .slice none 0 0, .slice none 0 0] 69 (hpF room m0.cells (.slice none 0 0) (.slice none 0 0)) (fun i hi => by
      have : i < 4 := hi
      match i, this with
      | 0, _ => rfl
      | 1, _ => rfl
      | 2, _ => rfl
      | 3, _ => rfl)
  · intro b hb
    have hb2 : w.heap.size + 1 ≤ b := by simpa using hb
    simp only
    rw [if_neg (by omega)]
    exact fz b (by omega)
  · refine ⟨rfl, rfl, rfl, by simp, fun b hb => if_neg (by omega), fun b hb _ => heap_alloc_old _ _ hb⟩

end Go.Proofs.Ytfeeikajekemlaa
