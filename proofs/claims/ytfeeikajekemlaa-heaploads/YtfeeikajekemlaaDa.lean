/-
  The document's Names over rows of objects. Conditions: at most 65536 objects.
-/
import Derived.Test.YtfeeikajekemlaaWk
import Derived.IntWalk
namespace Go.Proofs.Ytfeeikajekemlaa
open Go.RowKit
set_option linter.unusedVariables false
set_option linter.unusedSimpArgs false
set_option maxRecDepth 100000

theorem h_box (w : World) (room cells : Int) (s : Value) : (w.alloc (.cells #[.int .i64 room, .int .i64 cells, s] 31)).rowIs w.heap.size 31 3 (fun j => if j = 0 then .int .i64 room else if j = 1 then .int .i64 cells else s) :=
  World.rowIs_alloc w #[.int .i64 room, .int .i64 cells, s] 31 _ (fun i hi => by
    have : i < 3 := hi
    match i, this with
    | 0, _ => rfl
    | 1, _ => rfl
    | 2, _ => rfl)
theorem vl_box1 (w : World) (A : Obj) (v : Vl) : ((w.alloc A).alloc (.cells #[.int .u8 v.kind, .int .i64 v.n, .int .i64 v.re, .int .i64 v.im] 35)).rowIs (w.heap.size + 1) 35 4 (flV [v]) := by
  have := vl_box (w.alloc A) v
  simpa using this

set_option maxHeartbeats 1000000 in
theorem names_lo (room cells : Int) (kd N : Nat) (n re im : Int) (A : Option Addr) (cA : Nat) (w : World) (hN : N ≤ 65536) (h1 : n < 1) :
    Calls Try.prog 35 #[.agg #[.int .i64 room, .int .i64 cells, .slice A N cA], .agg #[.int .u8 kd, .int .i64 n, .int .i64 re, .int .i64 im]] w fun e w' => e = .returned (.bool false) ∧ Below w.heap.size w w' := by
  go_enter Try.func35, Try.ntmps35
  go_wp2_with fail
  obtain ⟨W, hW⟩ : ∃ W, W = ((w.alloc (.cells #[.int .i64 room, .int .i64 cells, .slice A N cA] 31)).alloc (.cells #[.int .u8 kd, .int .i64 n, .int .i64 re, .int .i64 im] 35)) := ⟨_, rfl⟩
  rw [← hW]
  have hB : Below w.heap.size w W := by rw [hW]; go_grown
  have p2 : W.cell? ⟨w.heap.size, 2, none⟩ = some (.slice A N cA) := by rw [hW]; simp [go_sem]
  have q0 : W.cell? ⟨w.heap.size + 1, 0, none⟩ = some (.int .u8 kd) := by rw [hW]; simp [go_sem]
  have q1 : W.cell? ⟨w.heap.size + 1, 1, none⟩ = some (.int .i64 n) := by rw [hW]; simp [go_sem]
  clear hW
  have d1 : decide (1 ≤ n) = false := by simp; omega
  go_quiet (fail)
  go_wp2_with fail
  go_ret
  exact ⟨rfl, hB.trans ((below_drewN _ _).mono hB.size)⟩

set_option maxHeartbeats 1000000 in
theorem names_hi (room cells : Int) (kd N : Nat) (n re im : Int) (A : Option Addr) (cA : Nat) (w : World) (hN : N ≤ 65536) (h1 : ¬ n < 1) (h2 : (N : Int) < n) :
    Calls Try.prog 35 #[.agg #[.int .i64 room, .int .i64 cells, .slice A N cA], .agg #[.int .u8 kd, .int .i64 n, .int .i64 re, .int .i64 im]] w fun e w' => e = .returned (.bool false) ∧ Below w.heap.size w w' := by
  go_enter Try.func35, Try.ntmps35
  go_wp2_with fail
  obtain ⟨W, hW⟩ : ∃ W, W = ((w.alloc (.cells #[.int .i64 room, .int .i64 cells, .slice A N cA] 31)).alloc (.cells #[.int .u8 kd, .int .i64 n, .int .i64 re, .int .i64 im] 35)) := ⟨_, rfl⟩
  rw [← hW]
  have hB : Below w.heap.size w W := by rw [hW]; go_grown
  have p2 : W.cell? ⟨w.heap.size, 2, none⟩ = some (.slice A N cA) := by rw [hW]; simp [go_sem]
  have q0 : W.cell? ⟨w.heap.size + 1, 0, none⟩ = some (.int .u8 kd) := by rw [hW]; simp [go_sem]
  have q1 : W.cell? ⟨w.heap.size + 1, 1, none⟩ = some (.int .i64 n) := by rw [hW]; simp [go_sem]
  clear hW
  have d1 : decide (1 ≤ n) = true := by simp; omega
  have d2 : decide (n ≤ (N : Int)) = false := by simp; omega
  go_quiet (fail)
  go_wp2_with fail
  go_ret
  exact ⟨rfl, hB.trans ((below_drewN _ _).mono hB.size)⟩

set_option maxHeartbeats 1000000 in
theorem names_ix (room cells : Int) (kd N : Nat) (n re im : Int) (A : Option Addr) (cA : Nat) (w : World) (hN : N ≤ 65536) (i b o kx : Nat) (hn : n = (i : Int) + 1) (hi : i < N) (hA : A = some ⟨b, o, none⟩) (b0 : w.cell? ⟨b, o + i * 4, none⟩ = some (.int .u8 kx)) :
    Calls Try.prog 35 #[.agg #[.int .i64 room, .int .i64 cells, .slice A N cA], .agg #[.int .u8 kd, .int .i64 n, .int .i64 re, .int .i64 im]] w fun e w' => e = .returned (.bool ((kx : Int) == kd)) ∧ Below w.heap.size w w' := by
  subst hn hA
  go_enter Try.func35, Try.ntmps35
  go_wp2_with fail
  obtain ⟨W, hW⟩ : ∃ W, W = ((w.alloc (.cells #[.int .i64 room, .int .i64 cells, .slice (some ⟨b, o, none⟩) N cA] 31)).alloc (.cells #[.int .u8 kd, .int .i64 ((i : Int) + 1), .int .i64 re, .int .i64 im] 35)) := ⟨_, rfl⟩
  rw [← hW]
  have hB : Below w.heap.size w W := by rw [hW]; go_grown
  have p2 : W.cell? ⟨w.heap.size, 2, none⟩ = some (.slice (some ⟨b, o, none⟩) N cA) := by rw [hW]; simp [go_sem]
  have q0 : W.cell? ⟨w.heap.size + 1, 0, none⟩ = some (.int .u8 kd) := by rw [hW]; simp [go_sem]
  have q1 : W.cell? ⟨w.heap.size + 1, 1, none⟩ = some (.int .i64 ((i : Int) + 1)) := by rw [hW]; simp [go_sem]
  clear hW
  replace b0 := cell_carry hB b0
  have d1 : decide (1 ≤ (i : Int) + 1) = true := by simp; omega
  have d2 : decide ((i : Int) + 1 ≤ (N : Int)) = true := by simp; omega
  have wr : IntKind.i64.wrap ((i : Int) + 1 - 1) = i := by rw [IntWalk.i64_in _ (by omega)]; omega
  go_quiet (fail)
  go_wp2_with fail
  go_ret
  exact ⟨rfl, hB.trans ((below_drewN _ _).mono hB.size)⟩

theorem beq_int (a b : Nat) : ((a : Int) == b) = (a == b) := by rw [Bool.eq_iff_iff]; simp; omega
theorem names_any (room cells : Int) {P : Nat → Prop} {w : World} {a : Option Addr} {N c : Nat} {L : List Ob} (h : RL P w a N c L) (hN : N ≤ 65536) (v : Vl) :
    Calls Try.prog 35 #[.agg #[.int .i64 room, .int .i64 cells, .slice a N c], vlV v] w fun e w' => e = .returned (.bool (nameB L v)) ∧ Below w.heap.size w w' := by
  obtain ⟨cs, h1, h2, h3, h4, h5⟩ := h
  obtain ⟨kd, n, re, im⟩ := v
  by_cases e1 : n < 1
  · rw [show nameB L ⟨kd, n, re, im⟩ = false by simp [nameB]; intro a; omega]
    exact names_lo room cells kd N n re im a c w hN e1
  · by_cases e2 : (N : Int) < n
    · rw [show nameB L ⟨kd, n, re, im⟩ = false by simp [nameB]; intro a; omega]
      exact names_hi room cells kd N n re im a c w hN e1 e2
    · obtain ⟨i, rfl⟩ : ∃ i : Nat, n = (i : Int) + 1 := ⟨(n - 1).toNat, by omega⟩
      have hi : i < N := by omega
      obtain ⟨b, o, hA, _, hat⟩ := h4 i (by omega)
      have hk := (h5 i hi).kind
      rw [show nameB L ⟨kd, (i : Int) + 1, re, im⟩ = (((oc cs i).kind : Int) == kd) by
        rw [beq_int, hk, Bool.eq_iff_iff]; simp [nameB]; omega]
      exact names_ix room cells kd N _ re im a c w hN i b o (oc cs i).kind rfl hi hA hat.c0

end Go.Proofs.Ytfeeikajekemlaa
