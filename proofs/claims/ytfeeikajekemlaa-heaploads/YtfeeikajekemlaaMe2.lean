/-
  The walks of heap.meant, case by case. Conditions: as said.
-/
import Derived.Test.YtfeeikajekemlaaHp
import Derived.Test.YtfeeikajekemlaaWa
namespace Go.Proofs.Ytfeeikajekemlaa
open Go.RowKit
set_option linter.unusedVariables false
set_option maxRecDepth 100000

set_option maxHeartbeats 1000000 in
theorem meant_hi_t (p kd N : Nat) (n re im : Int) (A : Option Addr) (cA : Nat) (w : World) (c2 : w.cell? ⟨p, 2, none⟩ = some (.slice A N cA)) (hN : N ≤ 65536) (e3 : ((kd : Int) == 3) = true) (en : (n == 0) = false) (h1 : ¬ n < 1) (h2 : (N : Int) < n) :
    Calls Try.prog 44 #[.pointer (some ⟨p, 0, none⟩), .agg #[.int .u8 kd, .int .i64 n, .int .i64 re, .int .i64 im]] w fun e w' => e = .returned (.tuple #[ocV oc0, .bool false]) ∧ Below w.heap.size w w' := by
  go_enter Try.func44, Try.ntmps44
  go_wp2_with fail
  obtain ⟨W, hW⟩ : ∃ W, W = ((w.alloc (.cells #[.int .u8 kd, .int .i64 n, .int .i64 re, .int .i64 im] 35)).alloc (.cells #[.int .u8 0, .int .i64 0, .string { data := #[] }, .slice none 0 0] 45)) := ⟨_, rfl⟩
  rw [← hW]
  have hB : Below w.heap.size w W := by rw [hW]; go_grown
  have hz : W.heap.size = w.heap.size + 1 + 1 := by rw [hW]; simp
  replace c2 := cell_carry hB c2
  have q0 : W.cell? ⟨w.heap.size, 0, none⟩ = some (.int .u8 kd) := by rw [hW]; simp [go_sem]
  have q1 : W.cell? ⟨w.heap.size, 1, none⟩ = some (.int .i64 n) := by rw [hW]; simp [go_sem]
  have r0 : W.cell? ⟨w.heap.size + 1, 0, none⟩ = some (.int .u8 0) := by rw [hW]; simp [go_sem]
  have r1 : W.cell? ⟨w.heap.size + 1, 1, none⟩ = some (.int .i64 0) := by rw [hW]; simp [go_sem]
  have r2 : W.cell? ⟨w.heap.size + 1, 2, none⟩ = some (.string { data := #[] }) := by rw [hW]; simp [go_sem]
  have r3 : W.cell? ⟨w.heap.size + 1, 3, none⟩ = some (.slice none 0 0) := by rw [hW]; simp [go_sem]
  have fr : ∀ o, W.frozen? ⟨w.heap.size + 1, o, none⟩ = false := fun o => by rw [hW]; simp [go_sem]
  clear hW
  have d1 : decide (n < 1) = false := by simpa using h1
  have d2 : decide ((N : Int) < n) = true := by simpa using h2
  go_quiet (fail)
  go_wp2_with fail
  refine bodyPost_ret (v := .tuple #[ocV oc0, .bool false]) (by simp [results, Try.results44, go_sem, oc0, r0, r1, r2, r3]) rfl ⟨rfl, ?_⟩
  exact ((((hB.trans ((below_drewN _ _).mono hB.size)).setCell (by simp) _).setCell (by simp) _).setCell (by simp) _).setCell (by simp) _

set_option maxHeartbeats 1000000 in
theorem meant_hi_o (p kd N : Nat) (n re im : Int) (A : Option Addr) (cA : Nat) (w : World) (c2 : w.cell? ⟨p, 2, none⟩ = some (.slice A N cA)) (hN : N ≤ 65536) (e3 : ((kd : Int) == 3) = false) (h1 : ¬ n < 1) (h2 : (N : Int) < n) :
    Calls Try.prog 44 #[.pointer (some ⟨p, 0, none⟩), .agg #[.int .u8 kd, .int .i64 n, .int .i64 re, .int .i64 im]] w fun e w' => e = .returned (.tuple #[ocV oc0, .bool false]) ∧ Below w.heap.size w w' := by
  go_enter Try.func44, Try.ntmps44
  go_wp2_with fail
  obtain ⟨W, hW⟩ : ∃ W, W = ((w.alloc (.cells #[.int .u8 kd, .int .i64 n, .int .i64 re, .int .i64 im] 35)).alloc (.cells #[.int .u8 0, .int .i64 0, .string { data := #[] }, .slice none 0 0] 45)) := ⟨_, rfl⟩
  rw [← hW]
  have hB : Below w.heap.size w W := by rw [hW]; go_grown
  have hz : W.heap.size = w.heap.size + 1 + 1 := by rw [hW]; simp
  replace c2 := cell_carry hB c2
  have q0 : W.cell? ⟨w.heap.size, 0, none⟩ = some (.int .u8 kd) := by rw [hW]; simp [go_sem]
  have q1 : W.cell? ⟨w.heap.size, 1, none⟩ = some (.int .i64 n) := by rw [hW]; simp [go_sem]
  have r0 : W.cell? ⟨w.heap.size + 1, 0, none⟩ = some (.int .u8 0) := by rw [hW]; simp [go_sem]
  have r1 : W.cell? ⟨w.heap.size + 1, 1, none⟩ = some (.int .i64 0) := by rw [hW]; simp [go_sem]
  have r2 : W.cell? ⟨w.heap.size + 1, 2, none⟩ = some (.string { data := #[] }) := by rw [hW]; simp [go_sem]
  have r3 : W.cell? ⟨w.heap.size + 1, 3, none⟩ = some (.slice none 0 0) := by rw [hW]; simp [go_sem]
  have fr : ∀ o, W.frozen? ⟨w.heap.size + 1, o, none⟩ = false := fun o => by rw [hW]; simp [go_sem]
  clear hW
  have d1 : decide (n < 1) = false := by simpa using h1
  have d2 : decide ((N : Int) < n) = true := by simpa using h2
  go_quiet (fail)
  go_wp2_with fail
  refine bodyPost_ret (v := .tuple #[ocV oc0, .bool false]) (by simp [results, Try.results44, go_sem, oc0, r0, r1, r2, r3]) rfl ⟨rfl, ?_⟩
  exact ((((hB.trans ((below_drewN _ _).mono hB.size)).setCell (by simp) _).setCell (by simp) _).setCell (by simp) _).setCell (by simp) _

end Go.Proofs.Ytfeeikajekemlaa
