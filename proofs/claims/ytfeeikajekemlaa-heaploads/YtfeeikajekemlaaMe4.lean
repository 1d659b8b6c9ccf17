/-
  The walks of heap.meant, case by case. Conditions: as said.
-/
import Derived.Test.YtfeeikajekemlaaHp
import Derived.Test.YtfeeikajekemlaaWa
import Derived.IntWalk
namespace Go.Proofs.Ytfeeikajekemlaa
open Go.RowKit
set_option linter.unusedVariables false
set_option maxRecDepth 100000

set_option maxHeartbeats 1000000 in
theorem meant_eq_t (p kd N : Nat) (n re im : Int) (A : Option Addr) (cA : Nat) (w : World) (c2 : w.cell? ⟨p, 2, none⟩ = some (.slice A N cA)) (hN : N ≤ 65536) (i g b kx : Nat) (ox : Int) (tx : ByteArray) (a : Option Addr) (nn cc : Nat) (hn : n = (i : Int) + 1) (hi : i < N) (hA : A = some ⟨g, 0, none⟩) (g0 : w.cell? ⟨g, i, none⟩ = some (.pointer (some ⟨b, 0, none⟩))) (b0 : w.cell? ⟨b, 0, none⟩ = some (.int .u8 kx)) (b1 : w.cell? ⟨b, 1, none⟩ = some (.int .i64 ox)) (b2 : w.cell? ⟨b, 2, none⟩ = some (.string tx)) (b3 : w.cell? ⟨b, 3, none⟩ = some (.slice a nn cc)) (e3 : ((kd : Int) == 3) = true) (en : (n == 0) = false) (hk : kx = kd) :
    Calls Try.prog 44 #[.pointer (some ⟨p, 0, none⟩), .agg #[.int .u8 kd, .int .i64 n, .int .i64 re, .int .i64 im]] w fun e w' => e = .returned (.tuple #[ocV ⟨kx, ox, tx, a, nn, cc⟩, .bool true]) ∧ Below w.heap.size w w' := by
  subst hn hA hk
  go_enter Try.func44, Try.ntmps44
  go_wp2_with fail
  obtain ⟨W, hW⟩ : ∃ W, W = ((w.alloc (.cells #[.int .u8 kx, .int .i64 ((i : Int) + 1), .int .i64 re, .int .i64 im] 35)).alloc (.cells #[.int .u8 0, .int .i64 0, .string { data := #[] }, .slice none 0 0] 45)) := ⟨_, rfl⟩
  rw [← hW]
  have hB : Below w.heap.size w W := by rw [hW]; go_grown
  have hz : W.heap.size = w.heap.size + 1 + 1 := by rw [hW]; simp
  replace c2 := cell_carry hB c2
  have q0 : W.cell? ⟨w.heap.size, 0, none⟩ = some (.int .u8 kx) := by rw [hW]; simp [go_sem]
  have q1 : W.cell? ⟨w.heap.size, 1, none⟩ = some (.int .i64 ((i : Int) + 1)) := by rw [hW]; simp [go_sem]
  have r0 : W.cell? ⟨w.heap.size + 1, 0, none⟩ = some (.int .u8 0) := by rw [hW]; simp [go_sem]
  have r1 : W.cell? ⟨w.heap.size + 1, 1, none⟩ = some (.int .i64 0) := by rw [hW]; simp [go_sem]
  have r2 : W.cell? ⟨w.heap.size + 1, 2, none⟩ = some (.string { data := #[] }) := by rw [hW]; simp [go_sem]
  have r3 : W.cell? ⟨w.heap.size + 1, 3, none⟩ = some (.slice none 0 0) := by rw [hW]; simp [go_sem]
  have fr : ∀ o, W.frozen? ⟨w.heap.size + 1, o, none⟩ = false := fun o => by rw [hW]; simp [go_sem]
  clear hW
  replace g0 := cell_carry hB g0
  replace b0 := cell_carry hB b0
  replace b1 := cell_carry hB b1
  replace b2 := cell_carry hB b2
  replace b3 := cell_carry hB b3
  have d1 : decide ((i : Int) + 1 < 1) = false := by simp; omega
  have d2 : decide ((N : Int) < (i : Int) + 1) = false := by simp; omega
  have wr : IntKind.i64.wrap ((i : Int) + 1 - 1) = i := by rw [IntWalk.i64_in _ (by omega)]; omega
  have d3 : ((kx : Int) != kx) = false := by simp
  go_quiet (fail)
  go_wp2_with fail
  go_region
  go_wp2_with fail
  refine bodyPost_ret (v := .tuple #[ocV ⟨kx, ox, tx, a, nn, cc⟩, .bool true]) (by simp [results, Try.results44, go_sem, r0, r1, r2, r3]) rfl ⟨rfl, ?_⟩
  exact ((((hB.trans ((below_drewN _ _).mono hB.size)).setCell (by simp) _).setCell (by simp) _).setCell (by simp) _).setCell (by simp) _

set_option maxHeartbeats 1000000 in
theorem meant_eq_o (p kd N : Nat) (n re im : Int) (A : Option Addr) (cA : Nat) (w : World) (c2 : w.cell? ⟨p, 2, none⟩ = some (.slice A N cA)) (hN : N ≤ 65536) (i g b kx : Nat) (ox : Int) (tx : ByteArray) (a : Option Addr) (nn cc : Nat) (hn : n = (i : Int) + 1) (hi : i < N) (hA : A = some ⟨g, 0, none⟩) (g0 : w.cell? ⟨g, i, none⟩ = some (.pointer (some ⟨b, 0, none⟩))) (b0 : w.cell? ⟨b, 0, none⟩ = some (.int .u8 kx)) (b1 : w.cell? ⟨b, 1, none⟩ = some (.int .i64 ox)) (b2 : w.cell? ⟨b, 2, none⟩ = some (.string tx)) (b3 : w.cell? ⟨b, 3, none⟩ = some (.slice a nn cc)) (e3 : ((kd : Int) == 3) = false) (hk : kx = kd) :
    Calls Try.prog 44 #[.pointer (some ⟨p, 0, none⟩), .agg #[.int .u8 kd, .int .i64 n, .int .i64 re, .int .i64 im]] w fun e w' => e = .returned (.tuple #[ocV ⟨kx, ox, tx, a, nn, cc⟩, .bool true]) ∧ Below w.heap.size w w' := by
  subst hn hA hk
  go_enter Try.func44, Try.ntmps44
  go_wp2_with fail
  obtain ⟨W, hW⟩ : ∃ W, W = ((w.alloc (.cells #[.int .u8 kx, .int .i64 ((i : Int) + 1), .int .i64 re, .int .i64 im] 35)).alloc (.cells #[.int .u8 0, .int .i64 0, .string { data := #[] }, .slice none 0 0] 45)) := ⟨_, rfl⟩
  rw [← hW]
  have hB : Below w.heap.size w W := by rw [hW]; go_grown
  have hz : W.heap.size = w.heap.size + 1 + 1 := by rw [hW]; simp
  replace c2 := cell_carry hB c2
  have q0 : W.cell? ⟨w.heap.size, 0, none⟩ = some (.int .u8 kx) := by rw [hW]; simp [go_sem]
  have q1 : W.cell? ⟨w.heap.size, 1, none⟩ = some (.int .i64 ((i : Int) + 1)) := by rw [hW]; simp [go_sem]
  have r0 : W.cell? ⟨w.heap.size + 1, 0, none⟩ = some (.int .u8 0) := by rw [hW]; simp [go_sem]
  have r1 : W.cell? ⟨w.heap.size + 1, 1, none⟩ = some (.int .i64 0) := by rw [hW]; simp [go_sem]
  have r2 : W.cell? ⟨w.heap.size + 1, 2, none⟩ = some (.string { data := #[] }) := by rw [hW]; simp [go_sem]
  have r3 : W.cell? ⟨w.heap.size + 1, 3, none⟩ = some (.slice none 0 0) := by rw [hW]; simp [go_sem]
  have fr : ∀ o, W.frozen? ⟨w.heap.size + 1, o, none⟩ = false := fun o => by rw [hW]; simp [go_sem]
  clear hW
  replace g0 := cell_carry hB g0
  replace b0 := cell_carry hB b0
  replace b1 := cell_carry hB b1
  replace b2 := cell_carry hB b2
  replace b3 := cell_carry hB b3
  have d1 : decide ((i : Int) + 1 < 1) = false := by simp; omega
  have d2 : decide ((N : Int) < (i : Int) + 1) = false := by simp; omega
  have wr : IntKind.i64.wrap ((i : Int) + 1 - 1) = i := by rw [IntWalk.i64_in _ (by omega)]; omega
  have d3 : ((kx : Int) != kx) = false := by simp
  go_quiet (fail)
  go_wp2_with fail
  go_region
  go_wp2_with fail
  refine bodyPost_ret (v := .tuple #[ocV ⟨kx, ox, tx, a, nn, cc⟩, .bool true]) (by simp [results, Try.results44, go_sem, r0, r1, r2, r3]) rfl ⟨rfl, ?_⟩
  exact ((((hB.trans ((below_drewN _ _).mono hB.size)).setCell (by simp) _).setCell (by simp) _).setCell (by simp) _).setCell (by simp) _

end Go.Proofs.Ytfeeikajekemlaa
