/-
  The document's Size over rows of objects. Conditions: at most 65536 objects; texts and lists of at most 100000.
-/
import Derived.Test.YtfeeikajekemlaaDb
import Derived.Test.YtfeeikajekemlaaWc
namespace Go.Proofs.Ytfeeikajekemlaa
open Go.RowKit
set_option linter.unusedVariables false
set_option linter.unusedSimpArgs false
set_option maxRecDepth 100000

def szN (L : List Ob) (v : Vl) : Nat := if txB L v = true then (txS L v).size else if nameB L v = true then (ob L (at_ v)).vals.length else 0
def szT (L : List Ob) (v : Vl) : Nat := if txB L v = true then 0 else if nameB L v = true then 0 else 3

set_option maxHeartbeats 2000000 in
theorem sized_1 (room cells : Int) {P : Nat → Prop} {w : World} {a : Option Addr} {N c : Nat} {L : List Ob} (h : RL P w a N c L) (hN : N ≤ 65536) (kd : Nat) (n re im : Int) (htx : txB L ⟨kd, n, re, im⟩ = true) :
    Calls Try.prog 33 #[.agg #[.int .i64 room, .int .i64 cells, .slice a N c], .agg #[.int .u8 kd, .int .i64 n, .int .i64 re, .int .i64 im]] w fun e w' => e = .returned (.tuple #[.int .i64 ((txS L ⟨kd, n, re, im⟩).size : Nat), .int .i64 0]) ∧ Below w.heap.size w w' := by
  have Ht : Hid (∀ w' : World, Below w.heap.size w w' → Calls Try.prog 32 #[.agg #[.int .i64 room, .int .i64 cells, .slice a N c], .agg #[.int .u8 kd, .int .i64 n, .int .i64 re, .int .i64 im]] w' fun e w'' => e = .returned (.tuple #[.string (txS L ⟨kd, n, re, im⟩), .bool true]) ∧ Below w'.heap.size w' w'') := Lib.hid fun w' hb => by
    have := textd_any room cells (h.kp (kp_below hb)) hN ⟨kd, n, re, im⟩
    rw [htx] at this
    exact this
  clear h htx
  generalize txS L ⟨kd, n, re, im⟩ = s at Ht
  go_enter Try.func33, Try.ntmps33
  go_wp2_with ((with_reducible refine (Ht.out _ (by go_grown)).mono ?_); rintro e w2 ⟨rfl, hb⟩; have hB : Below w.heap.size w w2 := below_step (by go_grown) hb; clear hb)
  go_ret2
  exact ⟨rfl, hB⟩

set_option maxHeartbeats 2000000 in
theorem sized_2 (room cells : Int) {P : Nat → Prop} {w : World} {a : Option Addr} {N c : Nat} {L : List Ob} (h : RL P w a N c L) (hN : N ≤ 65536) (kd : Nat) (n re im : Int) (htx : txB L ⟨kd, n, re, im⟩ = false) (hn : nameB L ⟨kd, n, re, im⟩ = false) :
    Calls Try.prog 33 #[.agg #[.int .i64 room, .int .i64 cells, .slice a N c], .agg #[.int .u8 kd, .int .i64 n, .int .i64 re, .int .i64 im]] w fun e w' => e = .returned (.tuple #[.int .i64 0, .int .i64 3]) ∧ Below w.heap.size w w' := by
  have Ht : Hid (∀ w' : World, Below w.heap.size w w' → Calls Try.prog 32 #[.agg #[.int .i64 room, .int .i64 cells, .slice a N c], .agg #[.int .u8 kd, .int .i64 n, .int .i64 re, .int .i64 im]] w' fun e w'' => e = .returned (.tuple #[.string (txS L ⟨kd, n, re, im⟩), .bool false]) ∧ Below w'.heap.size w' w'') := Lib.hid fun w' hb => by
    have := textd_any room cells (h.kp (kp_below hb)) hN ⟨kd, n, re, im⟩
    rw [htx] at this
    exact this
  have Hn : Hid (∀ w' : World, Below w.heap.size w w' → Calls Try.prog 35 #[.agg #[.int .i64 room, .int .i64 cells, .slice a N c], .agg #[.int .u8 kd, .int .i64 n, .int .i64 re, .int .i64 im]] w' fun e w'' => e = .returned (.bool false) ∧ Below w'.heap.size w' w'') := Lib.hid fun w' hb => by
    have := names_any room cells (h.kp (kp_below hb)) hN ⟨kd, n, re, im⟩
    rw [hn] at this
    exact this
  clear h htx hn
  generalize txS L ⟨kd, n, re, im⟩ = s at Ht
  go_enter Try.func33, Try.ntmps33
  go_wp2_with (first | ((with_reducible refine (Ht.out _ (by go_grown)).mono ?_); rintro e w2 ⟨rfl, hb⟩; have hBw2 : Below w.heap.size w w2 := below_step (by go_grown) hb; have z0 : w2.cell? ⟨w.heap.size, 0, none⟩ = some (.int .i64 room) := (by rw [(bcell hb).1 _ _ (by simp; try omega)]; simp [go_sem]); have z1 : w2.cell? ⟨w.heap.size, 1, none⟩ = some (.int .i64 cells) := (by rw [(bcell hb).1 _ _ (by simp; try omega)]; simp [go_sem]); have z2 : w2.cell? ⟨w.heap.size, 2, none⟩ = some (.slice a N c) := (by rw [(bcell hb).1 _ _ (by simp; try omega)]; simp [go_sem]); have z3 : w2.cell? ⟨w.heap.size + 1, 0, none⟩ = some (.int .u8 kd) := (by rw [(bcell hb).1 _ _ (by simp; try omega)]; simp [go_sem]); have z4 : w2.cell? ⟨w.heap.size + 1, 1, none⟩ = some (.int .i64 n) := (by rw [(bcell hb).1 _ _ (by simp; try omega)]; simp [go_sem]); have z5 : w2.cell? ⟨w.heap.size + 1, 2, none⟩ = some (.int .i64 re) := (by rw [(bcell hb).1 _ _ (by simp; try omega)]; simp [go_sem]); have z6 : w2.cell? ⟨w.heap.size + 1, 3, none⟩ = some (.int .i64 im) := (by rw [(bcell hb).1 _ _ (by simp; try omega)]; simp [go_sem]); clear hb) | ((with_reducible refine (Hn.out _ hBw2).mono ?_); rintro e w3 ⟨rfl, hb3⟩; have hB3 : Below w.heap.size w w3 := below_step hBw2 hb3; clear hb3))
  go_ret2
  exact ⟨rfl, hB3⟩

set_option maxHeartbeats 2000000 in
theorem sized_3 (room cells : Int) {P : Nat → Prop} {w : World} {a : Option Addr} {N c : Nat} {L : List Ob} (h : RL P w a N c L) (hN : N ≤ 65536) (kd : Nat) ( re im : Int) (i : Nat) (hi : i < N) (htx : txB L ⟨kd, (i : Int) + 1, re, im⟩ = false) (hn : nameB L ⟨kd, (i : Int) + 1, re, im⟩ = true) :
    Calls Try.prog 33 #[.agg #[.int .i64 room, .int .i64 cells, .slice a N c], .agg #[.int .u8 kd, .int .i64 ((i : Int) + 1), .int .i64 re, .int .i64 im]] w fun e w' => e = .returned (.tuple #[.int .i64 ((ob L i).vals.length : Nat), .int .i64 0]) ∧ Below w.heap.size w w' := by
  have Ht : Hid (∀ w' : World, Below w.heap.size w w' → Calls Try.prog 32 #[.agg #[.int .i64 room, .int .i64 cells, .slice a N c], .agg #[.int .u8 kd, .int .i64 ((i : Int) + 1), .int .i64 re, .int .i64 im]] w' fun e w'' => e = .returned (.tuple #[.string (txS L ⟨kd, ((i : Int) + 1), re, im⟩), .bool false]) ∧ Below w'.heap.size w' w'') := Lib.hid fun w' hb => by
    have := textd_any room cells (h.kp (kp_below hb)) hN ⟨kd, ((i : Int) + 1), re, im⟩
    rw [htx] at this
    exact this
  have Hn : Hid (∀ w' : World, Below w.heap.size w w' → Calls Try.prog 35 #[.agg #[.int .i64 room, .int .i64 cells, .slice a N c], .agg #[.int .u8 kd, .int .i64 ((i : Int) + 1), .int .i64 re, .int .i64 im]] w' fun e w'' => e = .returned (.bool true) ∧ Below w'.heap.size w' w'') := Lib.hid fun w' hb => by
    have := names_any room cells (h.kp (kp_below hb)) hN ⟨kd, ((i : Int) + 1), re, im⟩
    rw [hn] at this
    exact this
  clear htx hn
  generalize txS L ⟨kd, (i : Int) + 1, re, im⟩ = s at Ht
  obtain ⟨cs, h1, h2, h3, h4, h5⟩ := h
  obtain ⟨b, o, rfl, _, hat⟩ := h4 i (by omega)
  have ht := hat.c3
  rw [(h5 i hi).len]
  replace ht := Lib.hid ht
  clear hat h1 h2 h3 h4 h5
  go_enter Try.func33, Try.ntmps33
  go_wp2_with (first | ((with_reducible refine (Ht.out _ (by go_grown)).mono ?_); rintro e w2 ⟨rfl, hb⟩; have hBw2 : Below w.heap.size w w2 := below_step (by go_grown) hb; have z0 : w2.cell? ⟨w.heap.size, 0, none⟩ = some (.int .i64 room) := (by rw [(bcell hb).1 _ _ (by simp; try omega)]; simp [go_sem]); have z1 : w2.cell? ⟨w.heap.size, 1, none⟩ = some (.int .i64 cells) := (by rw [(bcell hb).1 _ _ (by simp; try omega)]; simp [go_sem]); have z2 : w2.cell? ⟨w.heap.size, 2, none⟩ = some (.slice (some ⟨b, o, none⟩) N c) := (by rw [(bcell hb).1 _ _ (by simp; try omega)]; simp [go_sem]); have z3 : w2.cell? ⟨w.heap.size + 1, 0, none⟩ = some (.int .u8 kd) := (by rw [(bcell hb).1 _ _ (by simp; try omega)]; simp [go_sem]); have z4 : w2.cell? ⟨w.heap.size + 1, 1, none⟩ = some (.int .i64 ((i : Int) + 1)) := (by rw [(bcell hb).1 _ _ (by simp; try omega)]; simp [go_sem]); have z5 : w2.cell? ⟨w.heap.size + 1, 2, none⟩ = some (.int .i64 re) := (by rw [(bcell hb).1 _ _ (by simp; try omega)]; simp [go_sem]); have z6 : w2.cell? ⟨w.heap.size + 1, 3, none⟩ = some (.int .i64 im) := (by rw [(bcell hb).1 _ _ (by simp; try omega)]; simp [go_sem]); clear hb) | ((with_reducible refine (Hn.out _ hBw2).mono ?_); rintro e w3 ⟨rfl, hb3⟩; have hB3 : Below w.heap.size w w3 := below_step hBw2 hb3; have y2 := cell_carry hb3 z2; have y4 := cell_carry hb3 z4; have ht2 := cell_carry hB3 ht.out; clear hb3 z0 z1 z2 z3 z4 z5 z6))
  go_ret2
  exact ⟨rfl, hB3⟩

theorem sized_any (room cells : Int) {P : Nat → Prop} {w : World} {a : Option Addr} {N c : Nat} {L : List Ob} (h : RL P w a N c L) (hN : N ≤ 65536) (v : Vl) :
    Calls Try.prog 33 #[.agg #[.int .i64 room, .int .i64 cells, .slice a N c], vlV v] w fun e w' => e = .returned (.tuple #[.int .i64 (szN L v : Nat), .int .i64 (szT L v : Nat)]) ∧ Below w.heap.size w w' := by
  have hL : L.length = N := by obtain ⟨cs, h1, h2, h3⟩ := h; exact h2
  obtain ⟨kd, n, re, im⟩ := v
  cases ht : txB L ⟨kd, n, re, im⟩ with
  | true =>
    rw [show szN L ⟨kd, n, re, im⟩ = (txS L ⟨kd, n, re, im⟩).size by simp [szN, ht], show szT L ⟨kd, n, re, im⟩ = 0 by simp [szT, ht]]
    exact sized_1 room cells h hN kd n re im ht
  | false =>
    cases hn : nameB L ⟨kd, n, re, im⟩ with
    | false =>
      rw [show szN L ⟨kd, n, re, im⟩ = 0 by simp [szN, ht, hn], show szT L ⟨kd, n, re, im⟩ = 3 by simp [szT, ht, hn]]
      exact sized_2 room cells h hN kd n re im ht hn
    | true =>
      obtain ⟨_, _, h5, h6, _⟩ := name_parts hn
      obtain ⟨q, hq⟩ : ∃ q, at_ ⟨kd, n, re, im⟩ = q := ⟨_, rfl⟩
      rw [show szN L ⟨kd, n, re, im⟩ = (ob L (at_ ⟨kd, n, re, im⟩)).vals.length by simp [szN, ht, hn], show szT L ⟨kd, n, re, im⟩ = 0 by simp [szT, ht, hn]]
      rw [hq] at h5 h6 ⊢
      simp only at h6
      obtain rfl : n = (q : Int) + 1 := by omega
      exact sized_3 room cells h hN kd re im q (by omega) ht hn

end Go.Proofs.Ytfeeikajekemlaa
