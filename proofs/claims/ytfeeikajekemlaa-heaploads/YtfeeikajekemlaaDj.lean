/-
  The document's Put. Conditions: texts and lists of at most 100000.
-/
import Derived.Test.YtfeeikajekemlaaDf
import Derived.Test.YtfeeikajekemlaaWe
import Derived.Test.YtfeeikajekemlaaFl
import Derived.Test.YtfeeikajekemlaaRs
import Derived.Test.YtfeeikajekemlaaWp
import Derived.IntWalk
namespace Go.Proofs.Ytfeeikajekemlaa
open Go.RowKit
set_option linter.unusedVariables false
set_option linter.unusedSimpArgs false
set_option maxRecDepth 100000

/-- What the document's Put answers. -/
def PutD (P : Nat → Prop) (w : World) (room : Nat) (m : M) (t : Nat) (e : Ending) (w' : World) : Prop :=
  ∃ a n c, e = .returned (.tuple #[.int .i64 (t : Nat), .agg #[.int .i64 room, .int .i64 (m.cells : Nat), .slice a n c]]) ∧ RL P w' a n c m.L ∧ Below w.heap.size w w'

set_option maxHeartbeats 4000000 in
theorem putd_1 {P : Nat → Prop} {w : World} {a : Option Addr} {N c room : Nat} {m : M} (h : RL P w a N c m.L) (hN : N ≤ 65536) (kd : Nat) (n re im j : Int) (kx : Nat) (nx rx ix : Int) (hk : kd = 3) :
    Calls Try.prog 31 #[.agg #[.int .i64 room, .int .i64 (m.cells : Nat), .slice a N c], .agg #[.int .u8 kd, .int .i64 n, .int .i64 re, .int .i64 im], .int .i64 j, .agg #[.int .u8 kx, .int .i64 nx, .int .i64 rx, .int .i64 ix]] w (PutD P w room m 3) := by
  have e3 : ((kd : Int) == 3) = true := by rw [beq_iff_eq]; omega
  clear hk hN
  obtain ⟨C, L⟩ := m
  simp only at h ⊢
  replace h := Lib.hid h
  go_enter Try.func31, Try.ntmps31
  go_wp2_with fail
  obtain ⟨W, hW⟩ : ∃ W, W = ((((w.alloc (.cells #[.int .i64 room, .int .i64 C, .slice a N c] 31)).alloc (.cells #[.int .u8 kd, .int .i64 n, .int .i64 re, .int .i64 im] 35)).alloc (.cells #[.int .u8 kx, .int .i64 nx, .int .i64 rx, .int .i64 ix] 35)).alloc (.cells #[.int .i64 0, .int .i64 0, .slice none 0 0] 31)) := ⟨_, rfl⟩
  rw [← hW]
  have hB : Below w.heap.size w W := by rw [hW]; go_grown
  have z0 : W.cell? ⟨w.heap.size, 0, none⟩ = some (.int .i64 room) := by rw [hW]; simp [go_sem]
  have z1 : W.cell? ⟨w.heap.size, 1, none⟩ = some (.int .i64 C) := by rw [hW]; simp [go_sem]
  have z2 : W.cell? ⟨w.heap.size, 2, none⟩ = some (.slice a N c) := by rw [hW]; simp [go_sem]
  have s0 : W.cell? ⟨w.heap.size + 1 + 1 + 1, 0, none⟩ = some (.int .i64 0) := by rw [hW]; simp [go_sem]
  have s1 : W.cell? ⟨w.heap.size + 1 + 1 + 1, 1, none⟩ = some (.int .i64 0) := by rw [hW]; simp [go_sem]
  have s2 : W.cell? ⟨w.heap.size + 1 + 1 + 1, 2, none⟩ = some (.slice none 0 0) := by rw [hW]; simp [go_sem]
  have sf : ∀ q, W.frozen? ⟨w.heap.size + 1 + 1 + 1, q, none⟩ = false := fun q => by rw [hW]; simp [go_sem]
  replace hB := Lib.hid hB
  clear hW
  go_region
  go_wp2_with fail
  have hE : Below w.heap.size w ((((W.setCell ⟨w.heap.size + 1 + 1 + 1, 0, none⟩ (.int .i64 room)).setCell ⟨w.heap.size + 1 + 1 + 1, 1, none⟩ (.int .i64 C)).setCell ⟨w.heap.size + 1 + 1 + 1, 2, none⟩ (.slice a N c))).drew := by
    refine Below.drew ?_
    exact ((hB.out.setCell (by simp; try omega) _).setCell (by simp; try omega) _).setCell (by simp; try omega) _
  refine bodyPost_ret (v := .tuple #[.int .i64 3, .agg #[.int .i64 room, .int .i64 C, .slice a N c]]) (by simp [results, Try.results31, go_sem, s0, s1, s2]) rfl ⟨a, N, c, rfl, h.out.kp (kp_below hE), hE⟩

set_option maxHeartbeats 4000000 in
theorem putd_2 {P : Nat → Prop} {w : World} {a : Option Addr} {N c room : Nat} {m : M} (h : RL P w a N c m.L) (hN : N ≤ 65536) (kd : Nat) (n re im j : Int) (kx : Nat) (nx rx ix : Int) (hk : kd ≠ 3) (hn : nameB m.L ⟨kd, n, re, im⟩ = false) :
    Calls Try.prog 31 #[.agg #[.int .i64 room, .int .i64 (m.cells : Nat), .slice a N c], .agg #[.int .u8 kd, .int .i64 n, .int .i64 re, .int .i64 im], .int .i64 j, .agg #[.int .u8 kx, .int .i64 nx, .int .i64 rx, .int .i64 ix]] w (PutD P w room m 3) := by
  have e3 : ((kd : Int) == 3) = false := by rw [beq_eq_false_iff_ne]; omega
  have Hn : Hid (∀ w' : World, Below w.heap.size w w' → Calls Try.prog 35 #[.agg #[.int .i64 room, .int .i64 (m.cells : Nat), .slice a N c], .agg #[.int .u8 kd, .int .i64 n, .int .i64 re, .int .i64 im]] w' fun e w'' => e = .returned (.bool false) ∧ Below w'.heap.size w' w'') := Lib.hid fun w' hb => by
    have := names_any room (m.cells : Nat) (h.kp (kp_below hb)) hN ⟨kd, n, re, im⟩
    rw [hn] at this
    exact this
  clear hk hN hn
  obtain ⟨C, L⟩ := m
  simp only at h ⊢ Hn
  replace h := Lib.hid h
  go_enter Try.func31, Try.ntmps31
  go_wp2_with ((with_reducible refine (Hn.out _ (by go_grown)).mono ?_); rintro e w2 ⟨rfl, hb⟩; have hB := Lib.hid (below_step (by go_grown) hb : Below w.heap.size w w2); have hz2 : w.heap.size + 1 + 1 + 1 < w2.heap.size := (by have := hb.size; simp at this; omega); have z0 : w2.cell? ⟨w.heap.size, 0, none⟩ = some (.int .i64 room) := (by rw [(bcell hb).1 _ _ (by simp; try omega)]; simp [go_sem]); have z1 : w2.cell? ⟨w.heap.size, 1, none⟩ = some (.int .i64 C) := (by rw [(bcell hb).1 _ _ (by simp; try omega)]; simp [go_sem]); have z2 : w2.cell? ⟨w.heap.size, 2, none⟩ = some (.slice a N c) := (by rw [(bcell hb).1 _ _ (by simp; try omega)]; simp [go_sem]); have s0 : w2.cell? ⟨w.heap.size + 1 + 1 + 1, 0, none⟩ = some (.int .i64 0) := (by rw [(bcell hb).1 _ _ (by simp; try omega)]; simp [go_sem]); have s1 : w2.cell? ⟨w.heap.size + 1 + 1 + 1, 1, none⟩ = some (.int .i64 0) := (by rw [(bcell hb).1 _ _ (by simp; try omega)]; simp [go_sem]); have s2 : w2.cell? ⟨w.heap.size + 1 + 1 + 1, 2, none⟩ = some (.slice none 0 0) := (by rw [(bcell hb).1 _ _ (by simp; try omega)]; simp [go_sem]); have sf : ∀ q, w2.frozen? ⟨w.heap.size + 1 + 1 + 1, q, none⟩ = false := (fun q => by rw [(bcell hb).2 _ _ (by simp; try omega)]; simp [go_sem]); clear hb)
  go_region
  go_wp2_with fail
  have hE : Below w.heap.size w ((((w2.setCell ⟨w.heap.size + 1 + 1 + 1, 0, none⟩ (.int .i64 room)).setCell ⟨w.heap.size + 1 + 1 + 1, 1, none⟩ (.int .i64 C)).setCell ⟨w.heap.size + 1 + 1 + 1, 2, none⟩ (.slice a N c))).drew := by
    refine Below.drew ?_
    exact ((hB.out.setCell (by simp; try omega) _).setCell (by simp; try omega) _).setCell (by simp; try omega) _
  refine bodyPost_ret (v := .tuple #[.int .i64 3, .agg #[.int .i64 room, .int .i64 C, .slice a N c]]) (by simp [results, Try.results31, go_sem, s0, s1, s2]) rfl ⟨a, N, c, rfl, h.out.kp (kp_below hE), hE⟩

set_option maxHeartbeats 4000000 in
theorem putd_3 {P : Nat → Prop} {w : World} {a : Option Addr} {N c room : Nat} {m : M} (h : RL P w a N c m.L) (hN : N ≤ 65536) (kd : Nat) (i : Nat) (re im j : Int) (kx : Nat) (nx rx ix : Int) (hk : kd ≠ 3) (hn : nameB m.L ⟨kd, (i : Int) + 1, re, im⟩ = true) (hj : j < 0) :
    Calls Try.prog 31 #[.agg #[.int .i64 room, .int .i64 (m.cells : Nat), .slice a N c], .agg #[.int .u8 kd, .int .i64 ((i : Int) + 1), .int .i64 re, .int .i64 im], .int .i64 j, .agg #[.int .u8 kx, .int .i64 nx, .int .i64 rx, .int .i64 ix]] w (PutD P w room m 2) := by
  have e3 : ((kd : Int) == 3) = false := by rw [beq_eq_false_iff_ne]; omega
  have Hn : Hid (∀ w' : World, Below w.heap.size w w' → Calls Try.prog 35 #[.agg #[.int .i64 room, .int .i64 (m.cells : Nat), .slice a N c], .agg #[.int .u8 kd, .int .i64 ((i : Int) + 1), .int .i64 re, .int .i64 im]] w' fun e w'' => e = .returned (.bool true) ∧ Below w'.heap.size w' w'') := Lib.hid fun w' hb => by
    have := names_any room (m.cells : Nat) (h.kp (kp_below hb)) hN ⟨kd, (i : Int) + 1, re, im⟩
    rw [hn] at this
    exact this
  have hi : i < N := by
    have h1 := (name_parts hn).2.2.1
    have h2 : at_ ⟨kd, (i : Int) + 1, re, im⟩ = i := by simp [at_]
    obtain ⟨cs, _, h3, _⟩ := h
    omega
  obtain ⟨cs, h1, h2, h3, h4, h5⟩ := id h
  obtain ⟨b, o, hab, hPb, hat⟩ := h4 i (by omega)
  have hlk := h5 i hi
  obtain ⟨⟨ko, oo, to, ao, no, co⟩, hx⟩ : ∃ x, oc cs i = x := ⟨_, rfl⟩
  rw [hx] at hat hlk
  obtain ⟨e0, e1, e2, e4⟩ := hat
  simp only at e0 e1 e2 e4
  clear hk hn h1 h2 h3 h4 h5 hlk hx hPb
  obtain ⟨C, L⟩ := m
  simp only at h ⊢ Hn
  subst hab
  replace h := Lib.hid h
  replace e0 := Lib.hid e0
  replace e1 := Lib.hid e1
  replace e2 := Lib.hid e2
  replace e4 := Lib.hid e4
  go_enter Try.func31, Try.ntmps31
  go_wp2_with ((with_reducible refine (Hn.out _ (by go_grown)).mono ?_); rintro e w2 ⟨rfl, hb⟩; have hB := Lib.hid (below_step (by go_grown) hb : Below w.heap.size w w2); have hz2 : w.heap.size + 1 + 1 + 1 < w2.heap.size := (by have := hb.size; simp at this; omega); have z0 : w2.cell? ⟨w.heap.size, 0, none⟩ = some (.int .i64 room) := (by rw [(bcell hb).1 _ _ (by simp; try omega)]; simp [go_sem]); have z1 : w2.cell? ⟨w.heap.size, 1, none⟩ = some (.int .i64 C) := (by rw [(bcell hb).1 _ _ (by simp; try omega)]; simp [go_sem]); have z2 : w2.cell? ⟨w.heap.size, 2, none⟩ = some (.slice (some ⟨b, o, none⟩) N c) := (by rw [(bcell hb).1 _ _ (by simp; try omega)]; simp [go_sem]); have v0_ : w2.cell? ⟨w.heap.size + 1, 0, none⟩ = some (.int .u8 kd) := (by rw [(bcell hb).1 _ _ (by simp; try omega)]; simp [go_sem]); have v1_ : w2.cell? ⟨w.heap.size + 1, 1, none⟩ = some (.int .i64 ((i : Int) + 1)) := (by rw [(bcell hb).1 _ _ (by simp; try omega)]; simp [go_sem]); have s0 : w2.cell? ⟨w.heap.size + 1 + 1 + 1, 0, none⟩ = some (.int .i64 0) := (by rw [(bcell hb).1 _ _ (by simp; try omega)]; simp [go_sem]); have s1 : w2.cell? ⟨w.heap.size + 1 + 1 + 1, 1, none⟩ = some (.int .i64 0) := (by rw [(bcell hb).1 _ _ (by simp; try omega)]; simp [go_sem]); have s2 : w2.cell? ⟨w.heap.size + 1 + 1 + 1, 2, none⟩ = some (.slice none 0 0) := (by rw [(bcell hb).1 _ _ (by simp; try omega)]; simp [go_sem]); have sf : ∀ q, w2.frozen? ⟨w.heap.size + 1 + 1 + 1, q, none⟩ = false := (fun q => by rw [(bcell hb).2 _ _ (by simp; try omega)]; simp [go_sem]); have k0 := cell_carry hB.out e0.out; have k1 := cell_carry hB.out e1.out; have k2 := cell_carry hB.out e2.out; have k4 := cell_carry hB.out e4.out; clear hb)
  obtain ⟨W, hW⟩ : ∃ W, W = w2.alloc (.cells #[.int .u8 ko, .int .i64 oo, .string to, .slice ao no co] 45) := ⟨_, rfl⟩
  rw [← hW]
  replace hB := Lib.hid (by rw [hW]; exact hB.out.alloc hB.out.size _ : Below w.heap.size w W)
  have hg : Below w2.heap.size w2 W := by rw [hW]; go_grown
  replace sf : ∀ q, W.frozen? ⟨w.heap.size + 1 + 1 + 1, q, none⟩ = false := fun q => froz_carry (o := 0) hg s0 (sf q)
  replace z0 := cell_carry hg z0
  replace z1 := cell_carry hg z1
  replace z2 := cell_carry hg z2
  replace s0 := cell_carry hg s0
  replace s1 := cell_carry hg s1
  replace s2 := cell_carry hg s2
  clear hW hg v0_ v1_ k0 k1 k2 k4
  go_region
  go_wp2_with fail
  have hE : Below w.heap.size w ((((W.setCell ⟨w.heap.size + 1 + 1 + 1, 0, none⟩ (.int .i64 room)).setCell ⟨w.heap.size + 1 + 1 + 1, 1, none⟩ (.int .i64 C)).setCell ⟨w.heap.size + 1 + 1 + 1, 2, none⟩ (.slice (some ⟨b, o, none⟩) N c))).drew := by
    refine Below.drew ?_
    exact ((hB.out.setCell (by simp; try omega) _).setCell (by simp; try omega) _).setCell (by simp; try omega) _
  refine bodyPost_ret (v := .tuple #[.int .i64 2, .agg #[.int .i64 room, .int .i64 C, .slice (some ⟨b, o, none⟩) N c]]) (by simp [results, Try.results31, go_sem, s0, s1, s2]) rfl ⟨some ⟨b, o, none⟩, N, c, rfl, h.out.kp (kp_below hE), hE⟩

set_option maxHeartbeats 4000000 in
theorem putd_4 {P : Nat → Prop} {w : World} {a : Option Addr} {N c room : Nat} {m : M} (h : RL P w a N c m.L) (hN : N ≤ 65536) (kd : Nat) (i : Nat) (re im j : Int) (kx : Nat) (nx rx ix : Int) (hk : kd ≠ 3) (hn : nameB m.L ⟨kd, (i : Int) + 1, re, im⟩ = true) (hj : ¬ j < 0) (hj2 : ((ob m.L i).vals.length : Int) ≤ j) :
    Calls Try.prog 31 #[.agg #[.int .i64 room, .int .i64 (m.cells : Nat), .slice a N c], .agg #[.int .u8 kd, .int .i64 ((i : Int) + 1), .int .i64 re, .int .i64 im], .int .i64 j, .agg #[.int .u8 kx, .int .i64 nx, .int .i64 rx, .int .i64 ix]] w (PutD P w room m 2) := by
  have e3 : ((kd : Int) == 3) = false := by rw [beq_eq_false_iff_ne]; omega
  have Hn : Hid (∀ w' : World, Below w.heap.size w w' → Calls Try.prog 35 #[.agg #[.int .i64 room, .int .i64 (m.cells : Nat), .slice a N c], .agg #[.int .u8 kd, .int .i64 ((i : Int) + 1), .int .i64 re, .int .i64 im]] w' fun e w'' => e = .returned (.bool true) ∧ Below w'.heap.size w' w'') := Lib.hid fun w' hb => by
    have := names_any room (m.cells : Nat) (h.kp (kp_below hb)) hN ⟨kd, (i : Int) + 1, re, im⟩
    rw [hn] at this
    exact this
  have hi : i < N := by
    have h1 := (name_parts hn).2.2.1
    have h2 : at_ ⟨kd, (i : Int) + 1, re, im⟩ = i := by simp [at_]
    obtain ⟨cs, _, h3, _⟩ := h
    omega
  obtain ⟨cs, h1, h2, h3, h4, h5⟩ := id h
  obtain ⟨b, o, hab, hPb, hat⟩ := h4 i (by omega)
  have hlk := h5 i hi
  obtain ⟨⟨ko, oo, to, ao, no, co⟩, hx⟩ : ∃ x, oc cs i = x := ⟨_, rfl⟩
  rw [hx] at hat hlk
  obtain ⟨e0, e1, e2, e4⟩ := hat
  simp only at e0 e1 e2 e4
  have hj3 : ¬ j < (no : Int) := by have := hlk.len; simp only at this; omega
  clear hk hn h1 h2 h3 h4 h5 hlk hj2 hx hPb
  obtain ⟨C, L⟩ := m
  simp only at h ⊢ Hn
  subst hab
  replace h := Lib.hid h
  replace e0 := Lib.hid e0
  replace e1 := Lib.hid e1
  replace e2 := Lib.hid e2
  replace e4 := Lib.hid e4
  go_enter Try.func31, Try.ntmps31
  go_wp2_with ((with_reducible refine (Hn.out _ (by go_grown)).mono ?_); rintro e w2 ⟨rfl, hb⟩; have hB := Lib.hid (below_step (by go_grown) hb : Below w.heap.size w w2); have hz2 : w.heap.size + 1 + 1 + 1 < w2.heap.size := (by have := hb.size; simp at this; omega); have z0 : w2.cell? ⟨w.heap.size, 0, none⟩ = some (.int .i64 room) := (by rw [(bcell hb).1 _ _ (by simp; try omega)]; simp [go_sem]); have z1 : w2.cell? ⟨w.heap.size, 1, none⟩ = some (.int .i64 C) := (by rw [(bcell hb).1 _ _ (by simp; try omega)]; simp [go_sem]); have z2 : w2.cell? ⟨w.heap.size, 2, none⟩ = some (.slice (some ⟨b, o, none⟩) N c) := (by rw [(bcell hb).1 _ _ (by simp; try omega)]; simp [go_sem]); have v0_ : w2.cell? ⟨w.heap.size + 1, 0, none⟩ = some (.int .u8 kd) := (by rw [(bcell hb).1 _ _ (by simp; try omega)]; simp [go_sem]); have v1_ : w2.cell? ⟨w.heap.size + 1, 1, none⟩ = some (.int .i64 ((i : Int) + 1)) := (by rw [(bcell hb).1 _ _ (by simp; try omega)]; simp [go_sem]); have s0 : w2.cell? ⟨w.heap.size + 1 + 1 + 1, 0, none⟩ = some (.int .i64 0) := (by rw [(bcell hb).1 _ _ (by simp; try omega)]; simp [go_sem]); have s1 : w2.cell? ⟨w.heap.size + 1 + 1 + 1, 1, none⟩ = some (.int .i64 0) := (by rw [(bcell hb).1 _ _ (by simp; try omega)]; simp [go_sem]); have s2 : w2.cell? ⟨w.heap.size + 1 + 1 + 1, 2, none⟩ = some (.slice none 0 0) := (by rw [(bcell hb).1 _ _ (by simp; try omega)]; simp [go_sem]); have sf : ∀ q, w2.frozen? ⟨w.heap.size + 1 + 1 + 1, q, none⟩ = false := (fun q => by rw [(bcell hb).2 _ _ (by simp; try omega)]; simp [go_sem]); have k0 := cell_carry hB.out e0.out; have k1 := cell_carry hB.out e1.out; have k2 := cell_carry hB.out e2.out; have k4 := cell_carry hB.out e4.out; clear hb)
  obtain ⟨W, hW⟩ : ∃ W, W = w2.alloc (.cells #[.int .u8 ko, .int .i64 oo, .string to, .slice ao no co] 45) := ⟨_, rfl⟩
  rw [← hW]
  replace hB := Lib.hid (by rw [hW]; exact hB.out.alloc hB.out.size _ : Below w.heap.size w W)
  have hg : Below w2.heap.size w2 W := by rw [hW]; go_grown
  replace sf : ∀ q, W.frozen? ⟨w.heap.size + 1 + 1 + 1, q, none⟩ = false := fun q => froz_carry (o := 0) hg s0 (sf q)
  replace z0 := cell_carry hg z0
  replace z1 := cell_carry hg z1
  replace z2 := cell_carry hg z2
  replace s0 := cell_carry hg s0
  replace s1 := cell_carry hg s1
  replace s2 := cell_carry hg s2
  clear hW hg v0_ v1_ k0 k1 k2 k4
  go_region
  go_wp2_with fail
  have hE : Below w.heap.size w ((((W.setCell ⟨w.heap.size + 1 + 1 + 1, 0, none⟩ (.int .i64 room)).setCell ⟨w.heap.size + 1 + 1 + 1, 1, none⟩ (.int .i64 C)).setCell ⟨w.heap.size + 1 + 1 + 1, 2, none⟩ (.slice (some ⟨b, o, none⟩) N c))).drew := by
    refine Below.drew ?_
    exact ((hB.out.setCell (by simp; try omega) _).setCell (by simp; try omega) _).setCell (by simp; try omega) _
  refine bodyPost_ret (v := .tuple #[.int .i64 2, .agg #[.int .i64 room, .int .i64 C, .slice (some ⟨b, o, none⟩) N c]]) (by simp [results, Try.results31, go_sem, s0, s1, s2]) rfl ⟨some ⟨b, o, none⟩, N, c, rfl, h.out.kp (kp_below hE), hE⟩

end Go.Proofs.Ytfeeikajekemlaa
