/-
  The document's Add. Conditions: at most 65536 objects, cells.
-/
import Derived.Test.YtfeeikajekemlaaDa
namespace Go.Proofs.Ytfeeikajekemlaa
open Go.RowKit
set_option linter.unusedVariables false
set_option linter.unusedSimpArgs false
set_option maxRecDepth 100000

theorem cell_old (w : World) (O : Obj) (b q : Nat) (h : b < w.heap.size) : (w.alloc O).cell? ⟨b, q, none⟩ = w.cell? ⟨b, q, none⟩ := World.cell?_of_block (a := ⟨b, q, none⟩) (heap_alloc_old w O h)
theorem froz_old (w : World) (O : Obj) (b q : Nat) (h : b < w.heap.size) : (w.alloc O).frozen? ⟨b, q, none⟩ = w.frozen? ⟨b, q, none⟩ := World.frozen?_of_block (a := ⟨b, q, none⟩) (heap_alloc_old w O h)
/-- What the document's calls that may lay an object answer: the value, whether, the heap behind it. -/
def AddD (P : Nat → Prop) (w : World) (room : Nat) (m : M) (v : Vl) (ok : Bool) (e : Ending) (w' : World) : Prop :=
  ∃ a n c, e = .returned (.tuple #[vlV v, .bool ok, .agg #[.int .i64 room, .int .i64 (m.cells : Nat), .slice a n c]]) ∧ RL P w' a n c m.L ∧ Below w.heap.size w w'

set_option maxHeartbeats 4000000 in
theorem addd_no {P : Nat → Prop} {w : World} {a : Option Addr} {N c room : Nat} {m : M} (h : RL P w a N c m.L) (x : Oc) (hx : x.text.size ≤ 100000) (hxn : x.n ≤ 100000) (hC : m.cells ≤ 65536) (hR : room ≤ 65536) (hf : room < m.cells + costC x) :
    Calls Try.prog 48 #[.agg #[.int .i64 room, .int .i64 (m.cells : Nat), .slice a N c], ocV x] w (AddD P w room m v0 false) := by
  have H := Lib.hid fun w' => cost_any x w' hx hxn
  have hcc : costC x ≤ 200000 := by unfold costC; split <;> omega
  obtain ⟨T, hT⟩ : ∃ T, costC x = T := ⟨_, rfl⟩
  rw [hT] at H hf hcc
  obtain ⟨C, L⟩ := m
  simp only at h hC hf ⊢
  obtain ⟨kx, fx, tx, ax, nx, cx⟩ := x
  clear hT hx hxn
  replace h := Lib.hid h
  go_enter Try.func48, Try.ntmps48
  go_wp2_with ((with_reducible refine (H.out _).mono ?_); rintro e w2 ⟨rfl, hb⟩; have hB : Below w.heap.size w w2 := below_step (by go_grown) hb; have hz : w.heap.size + 1 + 1 + 1 < w2.heap.size := (by have := hb.size; simp at this; omega); have hza : w.heap.size < w2.heap.size := (by omega); have hzb : w.heap.size + 1 < w2.heap.size := (by omega); have hzc : w.heap.size + 1 + 1 < w2.heap.size := (by omega); have z0 : w2.cell? ⟨w.heap.size, 0, none⟩ = some (.int .i64 room) := (by rw [(bcell hb).1 _ _ (by simp; try omega)]; simp [go_sem]); have z1 : w2.cell? ⟨w.heap.size, 1, none⟩ = some (.int .i64 C) := (by rw [(bcell hb).1 _ _ (by simp; try omega)]; simp [go_sem]); have z2 : w2.cell? ⟨w.heap.size, 2, none⟩ = some (.slice a N c) := (by rw [(bcell hb).1 _ _ (by simp; try omega)]; simp [go_sem]); have o0 : w2.cell? ⟨w.heap.size + 1, 0, none⟩ = some (.int .u8 kx) := (by rw [(bcell hb).1 _ _ (by simp; try omega)]; simp [go_sem]); have o1 : w2.cell? ⟨w.heap.size + 1, 1, none⟩ = some (.int .i64 fx) := (by rw [(bcell hb).1 _ _ (by simp; try omega)]; simp [go_sem]); have o2 : w2.cell? ⟨w.heap.size + 1, 2, none⟩ = some (.string tx) := (by rw [(bcell hb).1 _ _ (by simp; try omega)]; simp [go_sem]); have o3 : w2.cell? ⟨w.heap.size + 1, 3, none⟩ = some (.slice ax nx cx) := (by rw [(bcell hb).1 _ _ (by simp; try omega)]; simp [go_sem]); have r0 : w2.cell? ⟨w.heap.size + 1 + 1, 0, none⟩ = some (.int .u8 0) := (by rw [(bcell hb).1 _ _ (by simp; try omega)]; simp [go_sem]); have r1 : w2.cell? ⟨w.heap.size + 1 + 1, 1, none⟩ = some (.int .i64 0) := (by rw [(bcell hb).1 _ _ (by simp; try omega)]; simp [go_sem]); have r2 : w2.cell? ⟨w.heap.size + 1 + 1, 2, none⟩ = some (.int .i64 0) := (by rw [(bcell hb).1 _ _ (by simp; try omega)]; simp [go_sem]); have r3 : w2.cell? ⟨w.heap.size + 1 + 1, 3, none⟩ = some (.int .i64 0) := (by rw [(bcell hb).1 _ _ (by simp; try omega)]; simp [go_sem]); have s0 : w2.cell? ⟨w.heap.size + 1 + 1 + 1, 0, none⟩ = some (.int .i64 0) := (by rw [(bcell hb).1 _ _ (by simp; try omega)]; simp [go_sem]); have s1 : w2.cell? ⟨w.heap.size + 1 + 1 + 1, 1, none⟩ = some (.int .i64 0) := (by rw [(bcell hb).1 _ _ (by simp; try omega)]; simp [go_sem]); have s2 : w2.cell? ⟨w.heap.size + 1 + 1 + 1, 2, none⟩ = some (.slice none 0 0) := (by rw [(bcell hb).1 _ _ (by simp; try omega)]; simp [go_sem]); have zf : ∀ q, w2.frozen? ⟨w.heap.size, q, none⟩ = false := (fun q => by rw [(bcell hb).2 _ _ (by simp; try omega)]; simp [go_sem]); have rf : ∀ q, w2.frozen? ⟨w.heap.size + 1 + 1, q, none⟩ = false := (fun q => by rw [(bcell hb).2 _ _ (by simp; try omega)]; simp [go_sem]); have sf : ∀ q, w2.frozen? ⟨w.heap.size + 1 + 1 + 1, q, none⟩ = false := (fun q => by rw [(bcell hb).2 _ _ (by simp; try omega)]; simp [go_sem]); clear hb)
  replace hB := Lib.hid hB
  go_region
  go_wp2_with fail
  refine bodyPost_ret (v := .tuple #[vlV v0, .bool false, .agg #[.int .i64 room, .int .i64 C, .slice a N c]]) (by simp [results, Try.results48, go_sem, v0, r0, r1, r2, r3, s0, s1, s2, hz]) rfl ⟨a, N, c, rfl, ?_⟩
  have hE : Below w.heap.size w (((((((w2.setCell ⟨w.heap.size + 1 + 1, 0, none⟩ (.int .u8 0)).setCell ⟨w.heap.size + 1 + 1, 1, none⟩ (.int .i64 0)).setCell ⟨w.heap.size + 1 + 1, 2, none⟩ (.int .i64 0)).setCell ⟨w.heap.size + 1 + 1, 3, none⟩ (.int .i64 0)).setCell ⟨w.heap.size + 1 + 1 + 1, 0, none⟩ (.int .i64 room)).setCell ⟨w.heap.size + 1 + 1 + 1, 1, none⟩ (.int .i64 C)).setCell ⟨w.heap.size + 1 + 1 + 1, 2, none⟩ (.slice a N c)).drew := by
    refine Below.drew ?_
    exact ((((((hB.out.setCell (by simp; omega) _).setCell (by simp; omega) _).setCell (by simp; omega) _).setCell (by simp; omega) _).setCell (by simp; omega) _).setCell (by simp; omega) _).setCell (by simp; omega) _
  exact ⟨h.out.kp (kp_below hE), hE⟩

set_option maxHeartbeats 4000000 in
theorem addd_ok {P : Nat → Prop} {w : World} {a : Option Addr} {N c room : Nat} {m : M} (h : RL P w a N c m.L) (x : Oc) (o : Ob) (hl : Like P w x o) (hP : ∀ b, w.heap.size ≤ b → P b) (hx : x.text.size ≤ 100000) (hxn : x.n ≤ 100000) (hC : m.cells ≤ 65536) (hR : room ≤ 65536) (hNN : N ≤ 65536) (hf : m.cells + costC x ≤ room) (hco : costC x = cost o) :
    Calls Try.prog 48 #[.agg #[.int .i64 room, .int .i64 (m.cells : Nat), .slice a N c], ocV x] w (AddD P w room (mkM m o) (mkV m o) true) := by
  have hk := hl.kind
  have H := Lib.hid fun w' => cost_any x w' hx hxn
  have hcc : costC x ≤ 200000 := by unfold costC; split <;> omega
  have hM1 : (mkM m o).cells = m.cells + costC x := by rw [hco]; rfl
  have hM2 : (mkM m o).L = m.L ++ [o] := rfl
  have hMv : mkV m o = ⟨x.kind, (m.L.length : Int) + 1, 0, 0⟩ := by rw [hk]; rfl
  unfold AddD
  rw [hM1, hM2, hMv]
  clear hM1 hM2 hMv hco
  obtain ⟨T, hT⟩ : ∃ T, costC x = T := ⟨_, rfl⟩
  rw [hT] at H hf hcc ⊢
  obtain ⟨C, L⟩ := m
  simp only at h hC hf ⊢
  obtain ⟨cs, h1, h2, h3, h4, h5⟩ := h
  rw [h2]
  obtain ⟨kx, fx, tx, ax, nx, cx⟩ := x
  clear hT hx hxn hk
  have hfi : ¬ (room : Int) < (C : Int) + T := by omega
  replace h1 := Lib.hid h1
  replace h2 := Lib.hid h2
  replace h3 := Lib.hid h3
  replace h4 := Lib.hid h4
  replace h5 := Lib.hid h5
  replace hl := Lib.hid hl
  replace hP := Lib.hid hP
  go_enter Try.func48, Try.ntmps48
  go_wp2_with (first | ((with_reducible refine (H.out _).mono ?_); rintro e w2 ⟨rfl, hb⟩; have hB : Below w.heap.size w w2 := below_step (by go_grown) hb; have hz : w.heap.size + 1 + 1 + 1 < w2.heap.size := (by have := hb.size; simp at this; omega); have hza : w.heap.size < w2.heap.size := (by omega); have hzb : w.heap.size + 1 < w2.heap.size := (by omega); have hzc : w.heap.size + 1 + 1 < w2.heap.size := (by omega); have z0 : w2.cell? ⟨w.heap.size, 0, none⟩ = some (.int .i64 room) := (by rw [(bcell hb).1 _ _ (by simp; try omega)]; simp [go_sem]); have z1 : w2.cell? ⟨w.heap.size, 1, none⟩ = some (.int .i64 C) := (by rw [(bcell hb).1 _ _ (by simp; try omega)]; simp [go_sem]); have z2 : w2.cell? ⟨w.heap.size, 2, none⟩ = some (.slice a N c) := (by rw [(bcell hb).1 _ _ (by simp; try omega)]; simp [go_sem]); have o0 : w2.cell? ⟨w.heap.size + 1, 0, none⟩ = some (.int .u8 kx) := (by rw [(bcell hb).1 _ _ (by simp; try omega)]; simp [go_sem]); have o1 : w2.cell? ⟨w.heap.size + 1, 1, none⟩ = some (.int .i64 fx) := (by rw [(bcell hb).1 _ _ (by simp; try omega)]; simp [go_sem]); have o2 : w2.cell? ⟨w.heap.size + 1, 2, none⟩ = some (.string tx) := (by rw [(bcell hb).1 _ _ (by simp; try omega)]; simp [go_sem]); have o3 : w2.cell? ⟨w.heap.size + 1, 3, none⟩ = some (.slice ax nx cx) := (by rw [(bcell hb).1 _ _ (by simp; try omega)]; simp [go_sem]); have r0 : w2.cell? ⟨w.heap.size + 1 + 1, 0, none⟩ = some (.int .u8 0) := (by rw [(bcell hb).1 _ _ (by simp; try omega)]; simp [go_sem]); have r1 : w2.cell? ⟨w.heap.size + 1 + 1, 1, none⟩ = some (.int .i64 0) := (by rw [(bcell hb).1 _ _ (by simp; try omega)]; simp [go_sem]); have r2 : w2.cell? ⟨w.heap.size + 1 + 1, 2, none⟩ = some (.int .i64 0) := (by rw [(bcell hb).1 _ _ (by simp; try omega)]; simp [go_sem]); have r3 : w2.cell? ⟨w.heap.size + 1 + 1, 3, none⟩ = some (.int .i64 0) := (by rw [(bcell hb).1 _ _ (by simp; try omega)]; simp [go_sem]); have s0 : w2.cell? ⟨w.heap.size + 1 + 1 + 1, 0, none⟩ = some (.int .i64 0) := (by rw [(bcell hb).1 _ _ (by simp; try omega)]; simp [go_sem]); have s1 : w2.cell? ⟨w.heap.size + 1 + 1 + 1, 1, none⟩ = some (.int .i64 0) := (by rw [(bcell hb).1 _ _ (by simp; try omega)]; simp [go_sem]); have s2 : w2.cell? ⟨w.heap.size + 1 + 1 + 1, 2, none⟩ = some (.slice none 0 0) := (by rw [(bcell hb).1 _ _ (by simp; try omega)]; simp [go_sem]); have zf : ∀ q, w2.frozen? ⟨w.heap.size, q, none⟩ = false := (fun q => by rw [(bcell hb).2 _ _ (by simp; try omega)]; simp [go_sem]); have rf : ∀ q, w2.frozen? ⟨w.heap.size + 1 + 1, q, none⟩ = false := (fun q => by rw [(bcell hb).2 _ _ (by simp; try omega)]; simp [go_sem]); have sf : ∀ q, w2.frozen? ⟨w.heap.size + 1 + 1 + 1, q, none⟩ = false := (fun q => by rw [(bcell hb).2 _ _ (by simp; try omega)]; simp [go_sem]); replace hB := Lib.hid hB; clear hb) | (refine wpList_appO rfl (.tmp 21) (.tmp 23) rfl w2.heap.size (.slice (some ⟨w2.heap.size, 0, none⟩) 0 0) [] cs P a N c rfl rfl h3.out h1.out (h4.out.kp (kp_below (hB.out.alloc hB.out.size _))) (ownO_empty (Nat.le_refl _)) (by simp) (by simp; omega) ?_; intro v3 w3 hown hb3; have hb3' : Below w2.heap.size w2 w3 := (below_alloc w2 _).trans hb3; have Z0 := z0; have R0 := r0; have S0 := s0; replace z0 := cell_carry hb3' z0; replace z1 := cell_carry hb3' z1; replace z2 := cell_carry hb3' z2; replace o0 := cell_carry hb3' o0; replace o1 := cell_carry hb3' o1; replace o2 := cell_carry hb3' o2; replace o3 := cell_carry hb3' o3; replace r0 := cell_carry hb3' r0; replace r1 := cell_carry hb3' r1; replace r2 := cell_carry hb3' r2; replace r3 := cell_carry hb3' r3; replace s0 := cell_carry hb3' s0; replace s1 := cell_carry hb3' s1; replace s2 := cell_carry hb3' s2; replace zf := (fun q => froz_carry (o := 0) hb3' Z0 (zf q) : ∀ q, w3.frozen? ⟨w.heap.size, q, none⟩ = false); replace rf := (fun q => froz_carry (o := 0) hb3' R0 (rf q) : ∀ q, w3.frozen? ⟨w.heap.size + 1 + 1, q, none⟩ = false); replace sf := (fun q => froz_carry (o := 0) hb3' S0 (sf q) : ∀ q, w3.frozen? ⟨w.heap.size + 1 + 1 + 1, q, none⟩ = false); clear Z0 R0 S0; have hz3 : w.heap.size + 1 + 1 + 1 < w3.heap.size := (by have := hb3'.size; omega); have hz3a : w.heap.size < w3.heap.size := (by omega); have hz3b : w.heap.size + 1 < w3.heap.size := (by omega); have hz3c : w.heap.size + 1 + 1 < w3.heap.size := (by omega); replace hown := Lib.hid hown; replace hb3' := Lib.hid hb3'; clear hb3) | (refine wpList_appO rfl (.tmp 25) (.tmp 27) rfl w2.heap.size v3 cs [⟨kx, fx, tx, ax, nx, cx⟩] (fun _ => True) (some ⟨w3.heap.size, 0, none⟩) 1 1 rfl rfl (fun e => by cases e) rfl (ro_one _ ⟨kx, fx, tx, ax, nx, cx⟩ rfl) (own_carry hown.out (below_alloc _ _)) (by have := hb3'.out.size; simp; omega) (by rw [h1.out]; omega) ?_; intro v4 w4 hown4 hb4; have hb4' : Below w2.heap.size w2 w4 := hb3'.out.trans ((below_alloc _ _).mono hb3'.out.size |>.trans hb4); have hcc4 := (fun b q (h : b < w2.heap.size) => (hb4.cell (p := ⟨b, q, none⟩) h).trans (cell_old w3 _ b q (by have := hb3'.out.size; omega)) : ∀ b q, b < w2.heap.size → w4.cell? ⟨b, q, none⟩ = w3.cell? ⟨b, q, none⟩); have hff4 := (fun b q (h : b < w2.heap.size) => (hb4.frozen (p := ⟨b, q, none⟩) h).trans (froz_old w3 _ b q (by have := hb3'.out.size; omega)) : ∀ b q, b < w2.heap.size → w4.frozen? ⟨b, q, none⟩ = w3.frozen? ⟨b, q, none⟩); rw [← hcc4 _ _ (by omega)] at z0; rw [← hcc4 _ _ (by omega)] at z1; rw [← hcc4 _ _ (by omega)] at z2; rw [← hcc4 _ _ (by omega)] at o0; rw [← hcc4 _ _ (by omega)] at o1; rw [← hcc4 _ _ (by omega)] at o2; rw [← hcc4 _ _ (by omega)] at o3; rw [← hcc4 _ _ (by omega)] at r0; rw [← hcc4 _ _ (by omega)] at r1; rw [← hcc4 _ _ (by omega)] at r2; rw [← hcc4 _ _ (by omega)] at r3; rw [← hcc4 _ _ (by omega)] at s0; rw [← hcc4 _ _ (by omega)] at s1; rw [← hcc4 _ _ (by omega)] at s2; replace zf := (fun q => (hff4 w.heap.size q (by omega)).trans (zf q) : ∀ q, w4.frozen? ⟨w.heap.size, q, none⟩ = false); replace rf := (fun q => (hff4 (w.heap.size + 1 + 1) q (by omega)).trans (rf q) : ∀ q, w4.frozen? ⟨w.heap.size + 1 + 1, q, none⟩ = false); replace sf := (fun q => (hff4 (w.heap.size + 1 + 1 + 1) q (by omega)).trans (sf q) : ∀ q, w4.frozen? ⟨w.heap.size + 1 + 1 + 1, q, none⟩ = false); obtain ⟨a4, k4, rfl, hz4, hro4⟩ := ownO_ro (P := fun b => w2.heap.size ≤ b) hown4 (fun b hb => hb); have hln : (cs ++ [(⟨kx, fx, tx, ax, nx, cx⟩ : Oc)]).length = N + 1 := (by simp [h1.out]); rw [hln]; replace hro4 := Lib.hid hro4; replace hz4 := Lib.hid hz4; replace hb4' := Lib.hid hb4'; replace hln := Lib.hid hln; clear hb4 hown4 hown hcc4 hff4 hz3 hz3a hz3b hz3c))
  obtain ⟨W, hW⟩ : ∃ W, W = (w4.setCell ⟨w.heap.size, 2, none⟩ (.slice a4 (N + 1) k4)).setCell ⟨w.heap.size, 1, none⟩ (.int .i64 ((C : Int) + T)) := ⟨_, rfl⟩
  rw [← hW]
  have hWE : ∀ b, b ≠ w.heap.size → W.heap[b]? = w4.heap[b]? := fun b hb => by
    rw [hW]
    exact (set_other (q := ⟨w.heap.size, 1, none⟩) hb).trans (set_other (q := ⟨w.heap.size, 2, none⟩) hb)
  have hWs : W.heap.size = w4.heap.size := by rw [hW]; simp
  have hBW : Below w.heap.size w W := by
    rw [hW]
    exact ((hB.out.trans (hb4'.out.mono hB.out.size)).setCell (Nat.le_refl _) _).setCell (Nat.le_refl _) _
  have h0l : w.heap.size < w4.heap.size := by have := hb4'.out.size; omega
  have z0' : W.cell? ⟨w.heap.size, 0, none⟩ = some (.int .i64 room) := by rw [hW]; simp [go_sem, z0]
  have z1' : W.cell? ⟨w.heap.size, 1, none⟩ = some (.int .i64 ((C : Int) + T)) := by rw [hW]; simp [go_sem, h0l, z1]
  have z2' : W.cell? ⟨w.heap.size, 2, none⟩ = some (.slice a4 (N + 1) k4) := by rw [hW]; simp [go_sem, h0l, z2]
  replace o0 := cell_block (hWE _ (by omega)) o0
  replace r0 := cell_block (hWE _ (by omega)) r0
  replace r1 := cell_block (hWE _ (by omega)) r1
  replace r2 := cell_block (hWE _ (by omega)) r2
  replace r3 := cell_block (hWE _ (by omega)) r3
  replace s0 := cell_block (hWE _ (by omega)) s0
  replace s1 := cell_block (hWE _ (by omega)) s1
  replace s2 := cell_block (hWE _ (by omega)) s2
  replace rf : ∀ q, W.frozen? ⟨w.heap.size + 1 + 1, q, none⟩ = false := fun q => (World.frozen?_of_block (a := ⟨_, q, none⟩) (hWE _ (by simp; omega))).trans (rf q)
  replace sf : ∀ q, W.frozen? ⟨w.heap.size + 1 + 1 + 1, q, none⟩ = false := fun q => (World.frozen?_of_block (a := ⟨_, q, none⟩) (hWE _ (by simp; omega))).trans (sf q)
  have hkp : Kp (fun b => w2.heap.size ≤ b) P w4 W := fun b hb hp => ⟨hP.out b (by omega), hWE b (by omega)⟩
  have hro5 := hro4.out.kp hkp
  have hkpb : ∀ b, w2.heap.size ≤ b → W.heap[b]? = w4.heap[b]? := fun b hb => hWE b (by omega)
  replace hro4 := hro4
  replace hBW := Lib.hid hBW
  replace hWs := Lib.hid hWs
  replace hkpb := Lib.hid hkpb
  clear hW hWE z0 z1 z2 o1 o2 o3 zf hkp hro5
  go_region
  go_wp2_with fail
  refine bodyPost_ret (v := .tuple #[.agg #[.int .u8 kx, .int .i64 ((N : Int) + 1), .int .i64 0, .int .i64 0], .bool true, .agg #[.int .i64 room, .int .i64 ((C : Int) + T), .slice a4 (N + 1) k4]]) (by simp [results, Try.results48, go_sem, r0, r1, r2, r3, s0, s1, s2]) rfl ⟨a4, N + 1, k4, rfl, ?_⟩
  have hE : Below w.heap.size w (((((((W.setCell ⟨w.heap.size + 1 + 1, 0, none⟩ (.int .u8 kx)).setCell ⟨w.heap.size + 1 + 1, 1, none⟩ (.int .i64 ((N : Int) + 1))).setCell ⟨w.heap.size + 1 + 1, 2, none⟩ (.int .i64 0)).setCell ⟨w.heap.size + 1 + 1, 3, none⟩ (.int .i64 0)).setCell ⟨w.heap.size + 1 + 1 + 1, 0, none⟩ (.int .i64 room)).setCell ⟨w.heap.size + 1 + 1 + 1, 1, none⟩ (.int .i64 ((C : Int) + T))).setCell ⟨w.heap.size + 1 + 1 + 1, 2, none⟩ (.slice a4 (N + 1) k4)).drew := by
    refine Below.drew ?_
    exact ((((((hBW.out.setCell (by simp; omega) _).setCell (by simp; omega) _).setCell (by simp; omega) _).setCell (by simp; omega) _).setCell (by simp; omega) _).setCell (by simp; omega) _).setCell (by simp; omega) _
  refine ⟨⟨cs ++ [⟨kx, fx, tx, ax, nx, cx⟩], hln.out, by simp [h2.out], fun e => ⟨by have := (hz4.out e).1; rw [hln.out] at this; exact this, (hz4.out e).2⟩, hro4.out.kp fun b hb hp => ⟨hP.out b (by omega), ?_⟩, fun i hi => ?_⟩, hE⟩
  · rw [heap_drew]
    have ne1 : b ≠ w.heap.size + 1 + 1 := by omega
    have ne2 : b ≠ w.heap.size + 1 + 1 + 1 := by omega
    rw [set_other ne2, set_other ne2, set_other ne2, set_other ne1, set_other ne1, set_other ne1, set_other ne1]
    exact hkpb.out b hp
  · rw [ob_app, h2.out]
    have hoc : oc (cs ++ [⟨kx, fx, tx, ax, nx, cx⟩]) i = if i < N then oc cs i else ⟨kx, fx, tx, ax, nx, cx⟩ := by
      unfold oc
      rw [List.getD_eq_getElem?_getD]
      by_cases e : i < N
      · rw [if_pos e, List.getElem?_append_left (by rw [h1.out]; exact e), List.getD_eq_getElem?_getD]
      · rw [if_neg e, List.getElem?_append_right (by rw [h1.out]; omega), h1.out, show i - N = 0 by omega]; rfl
    rw [hoc]
    by_cases e : i < N
    · rw [if_pos e, if_pos e]
      exact (h5.out i e).kp (kp_below hE)
    · rw [if_neg e, if_neg e, if_pos (by omega)]
      exact hl.out.kp (kp_below hE)

end Go.Proofs.Ytfeeikajekemlaa
