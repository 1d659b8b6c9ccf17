/-
  The document's Text over rows of objects. Conditions: at most 65536 objects; texts and lists of at most 100000.
-/
import Derived.Test.YtfeeikajekemlaaDa
import Derived.Test.YtfeeikajekemlaaWc
namespace Go.Proofs.Ytfeeikajekemlaa
open Go.RowKit
set_option linter.unusedVariables false
set_option linter.unusedSimpArgs false
set_option maxRecDepth 100000

set_option maxHeartbeats 2000000 in
theorem textd_1 (room cells : Int) {P : Nat → Prop} {w : World} {a : Option Addr} {N c : Nat} {L : List Ob} (h : RL P w a N c L) (hN : N ≤ 65536) (kd : Nat) (n re im : Int) (hk : kd ≠ 3) :
    Calls Try.prog 32 #[.agg #[.int .i64 room, .int .i64 cells, .slice a N c], .agg #[.int .u8 kd, .int .i64 n, .int .i64 re, .int .i64 im]] w fun e w' => e = .returned (.tuple #[.string { data := #[] }, .bool false]) ∧ Below w.heap.size w w' := by
  have e3 : ((kd : Int) != 3) = true := by rw [bne_iff_ne]; omega
  clear h
  go_enter Try.func32, Try.ntmps32
  go_wp2_with fail
  go_ret2
  exact ⟨rfl, by go_grown⟩

set_option maxHeartbeats 2000000 in
theorem textd_2 (room cells : Int) {P : Nat → Prop} {w : World} {a : Option Addr} {N c : Nat} {L : List Ob} (h : RL P w a N c L) (hN : N ≤ 65536) (re im : Int)  :
    Calls Try.prog 32 #[.agg #[.int .i64 room, .int .i64 cells, .slice a N c], .agg #[.int .u8 3, .int .i64 0, .int .i64 re, .int .i64 im]] w fun e w' => e = .returned (.tuple #[.string { data := #[] }, .bool true]) ∧ Below w.heap.size w w' := by
  clear h
  go_enter Try.func32, Try.ntmps32
  go_wp2_with fail
  go_ret2
  exact ⟨rfl, by go_grown⟩

set_option maxHeartbeats 2000000 in
theorem textd_3 (room cells : Int) {P : Nat → Prop} {w : World} {a : Option Addr} {N c : Nat} {L : List Ob} (h : RL P w a N c L) (hN : N ≤ 65536) (kd : Nat) (n re im : Int) (hk : kd = 3) (h0 : n ≠ 0) (hn : nameB L ⟨kd, n, re, im⟩ = false) :
    Calls Try.prog 32 #[.agg #[.int .i64 room, .int .i64 cells, .slice a N c], .agg #[.int .u8 kd, .int .i64 n, .int .i64 re, .int .i64 im]] w fun e w' => e = .returned (.tuple #[.string { data := #[] }, .bool false]) ∧ Below w.heap.size w w' := by
  have e3 : ((kd : Int) != 3) = false := by simp; omega
  have e0 : (n == 0) = false := by rw [beq_eq_false_iff_ne]; exact h0
  have Hn : Hid (∀ w' : World, Below w.heap.size w w' → Calls Try.prog 35 #[.agg #[.int .i64 room, .int .i64 cells, .slice a N c], .agg #[.int .u8 kd, .int .i64 n, .int .i64 re, .int .i64 im]] w' fun e w'' => e = .returned (.bool false) ∧ Below w'.heap.size w' w'') := Lib.hid fun w' hb => by
    have := names_any room cells (h.kp (kp_below hb)) hN ⟨kd, n, re, im⟩
    rw [hn] at this
    exact this
  clear h hn hk
  go_enter Try.func32, Try.ntmps32
  go_wp2_with ((with_reducible refine (Hn.out _ (by go_grown)).mono ?_); rintro e w2 ⟨rfl, hb⟩; have hB : Below w.heap.size w w2 := below_step (by go_grown) hb; clear hb)
  go_ret2
  exact ⟨rfl, hB⟩

set_option maxHeartbeats 2000000 in
theorem textd_4 (room cells : Int) {P : Nat → Prop} {w : World} {a : Option Addr} {N c : Nat} {L : List Ob} (h : RL P w a N c L) (hN : N ≤ 65536) (kd : Nat) (re im : Int) (i : Nat) (hi : i < N) (hk : kd = 3) (hn : nameB L ⟨kd, (i : Int) + 1, re, im⟩ = true) :
    Calls Try.prog 32 #[.agg #[.int .i64 room, .int .i64 cells, .slice a N c], .agg #[.int .u8 kd, .int .i64 ((i : Int) + 1), .int .i64 re, .int .i64 im]] w fun e w' => e = .returned (.tuple #[.string (ob L i).text, .bool true]) ∧ Below w.heap.size w w' := by
  have e3 : ((kd : Int) != 3) = false := by simp; omega
  have e0 : ((i : Int) + 1 == 0) = false := by rw [beq_eq_false_iff_ne]; omega
  have Hn : Hid (∀ w' : World, Below w.heap.size w w' → Calls Try.prog 35 #[.agg #[.int .i64 room, .int .i64 cells, .slice a N c], .agg #[.int .u8 kd, .int .i64 ((i : Int) + 1), .int .i64 re, .int .i64 im]] w' fun e w'' => e = .returned (.bool true) ∧ Below w'.heap.size w' w'') := Lib.hid fun w' hb => by
    have := names_any room cells (h.kp (kp_below hb)) hN ⟨kd, (i : Int) + 1, re, im⟩
    rw [hn] at this
    exact this
  obtain ⟨cs, h1, h2, h3, h4, h5⟩ := h
  obtain ⟨b, o, rfl, _, hat⟩ := h4 i (by omega)
  have ht := hat.c2
  rw [(h5 i hi).text] at ht
  replace ht := Lib.hid ht
  clear hn hat h1 h2 h3 h4 h5 hk
  go_enter Try.func32, Try.ntmps32
  go_wp2_with ((with_reducible refine (Hn.out _ (by go_grown)).mono ?_); rintro e w2 ⟨rfl, hb⟩; have hBw2 : Below w.heap.size w w2 := below_step (by go_grown) hb; have p2w2 : w2.cell? ⟨w.heap.size, 2, none⟩ = some (.slice (some ⟨b, o, none⟩) N c) := (by rw [(bcell hb).1 _ _ (by simp; try omega)]; simp [go_sem]); have q0w2 : w2.cell? ⟨w.heap.size + 1, 0, none⟩ = some (.int .u8 kd) := (by rw [(bcell hb).1 _ _ (by simp)]; simp [go_sem]); have q1w2 : w2.cell? ⟨w.heap.size + 1, 1, none⟩ = some (.int .i64 ((i : Int) + 1)) := (by rw [(bcell hb).1 _ _ (by simp)]; simp [go_sem]); have ht2 := cell_carry hBw2 ht.out; clear hb)
  go_ret2
  exact ⟨rfl, hBw2⟩

theorem textd_any (room cells : Int) {P : Nat → Prop} {w : World} {a : Option Addr} {N c : Nat} {L : List Ob} (h : RL P w a N c L) (hN : N ≤ 65536) (v : Vl) :
    Calls Try.prog 32 #[.agg #[.int .i64 room, .int .i64 cells, .slice a N c], vlV v] w fun e w' => e = .returned (.tuple #[.string (txS L v), .bool (txB L v)]) ∧ Below w.heap.size w w' := by
  have hL : L.length = N := by obtain ⟨cs, h1, h2, h3⟩ := h; exact h2
  obtain ⟨kd, n, re, im⟩ := v
  by_cases hk : kd = 3
  · by_cases h0 : n = 0
    · subst hk h0
      rw [show txS L ⟨3, 0, re, im⟩ = { data := #[] } by simp [txS], show txB L ⟨3, 0, re, im⟩ = true by simp [txB]]
      exact textd_2 room cells h hN re im
    · cases hn : nameB L ⟨kd, n, re, im⟩ with
      | false =>
        rw [show txS L ⟨kd, n, re, im⟩ = { data := #[] } by simp [txS, hn], show txB L ⟨kd, n, re, im⟩ = false by simp [txB, hn, h0]]
        exact textd_3 room cells h hN kd n re im hk h0 hn
      | true =>
        obtain ⟨_, _, h5, h6, _⟩ := name_parts hn
        obtain ⟨q, hq⟩ : ∃ q, at_ ⟨kd, n, re, im⟩ = q := ⟨_, rfl⟩
        have hS : txS L ⟨kd, n, re, im⟩ = (ob L q).text := by unfold txS; rw [if_pos ⟨hk, h0, hn⟩, hq]
        rw [hq] at h5 h6
        simp only at h6
        rw [hS, show txB L ⟨kd, n, re, im⟩ = true by unfold txB; rw [hn]; simp [hk]]
        obtain rfl : n = (q : Int) + 1 := by omega
        exact textd_4 room cells h hN kd re im q (by omega) hk hn
  · rw [show txS L ⟨kd, n, re, im⟩ = { data := #[] } by simp [txS, hk], show txB L ⟨kd, n, re, im⟩ = false by simp [txB, hk]]
    exact textd_1 room cells h hN kd n re im hk

end Go.Proofs.Ytfeeikajekemlaa
