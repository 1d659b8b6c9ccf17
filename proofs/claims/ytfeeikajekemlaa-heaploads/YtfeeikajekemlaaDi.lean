/-
  The document's List. Conditions: texts and lists of at most 100000.
-/
import Derived.Test.YtfeeikajekemlaaDf
import Derived.Test.YtfeeikajekemlaaWe
import Derived.Test.YtfeeikajekemlaaFl
namespace Go.Proofs.Ytfeeikajekemlaa
open Go.RowKit
set_option linter.unusedVariables false
set_option linter.unusedSimpArgs false
set_option maxRecDepth 100000

set_option maxHeartbeats 4000000 in
theorem listd_0 {P : Nat → Prop} {w : World} {a : Option Addr} {N c room : Nat} {m : M} (h : RL P w a N c m.L) (f n : Int) (kz : Nat) (nz rz iz : Int) (hf : f < 0) :
    Calls Try.prog 29 #[.agg #[.int .i64 room, .int .i64 (m.cells : Nat), .slice a N c], .int .i64 f, .int .i64 n, .agg #[.int .u8 kz, .int .i64 nz, .int .i64 rz, .int .i64 iz]] w (AddD P w room m v0 false) := by
  obtain ⟨C, L⟩ := m
  simp only at h ⊢
  replace h := Lib.hid h
  go_enter Try.func29, Try.ntmps29
  go_wp2_with fail
  obtain ⟨W, hW⟩ : ∃ W, W = ((((w.alloc (.cells #[.int .i64 room, .int .i64 C, .slice a N c] 31)).alloc (.cells #[.int .u8 kz, .int .i64 nz, .int .i64 rz, .int .i64 iz] 35)).alloc (.cells #[.int .u8 0, .int .i64 0, .int .i64 0, .int .i64 0] 35)).alloc (.cells #[.int .i64 0, .int .i64 0, .slice none 0 0] 31)) := ⟨_, rfl⟩
  rw [← hW]
  have hB : Below w.heap.size w W := by rw [hW]; go_grown
  have hsz : W.heap.size = w.heap.size + 1 + 1 + 1 + 1 := by rw [hW]; simp
  have z0 : W.cell? ⟨w.heap.size, 0, none⟩ = some (.int .i64 room) := by rw [hW]; simp [go_sem]
  have z1 : W.cell? ⟨w.heap.size, 1, none⟩ = some (.int .i64 C) := by rw [hW]; simp [go_sem]
  have z2 : W.cell? ⟨w.heap.size, 2, none⟩ = some (.slice a N c) := by rw [hW]; simp [go_sem]
  have r0 : W.cell? ⟨w.heap.size + 1 + 1, 0, none⟩ = some (.int .u8 0) := by rw [hW]; simp [go_sem]
  have r1 : W.cell? ⟨w.heap.size + 1 + 1, 1, none⟩ = some (.int .i64 0) := by rw [hW]; simp [go_sem]
  have r2 : W.cell? ⟨w.heap.size + 1 + 1, 2, none⟩ = some (.int .i64 0) := by rw [hW]; simp [go_sem]
  have r3 : W.cell? ⟨w.heap.size + 1 + 1, 3, none⟩ = some (.int .i64 0) := by rw [hW]; simp [go_sem]
  have s0 : W.cell? ⟨w.heap.size + 1 + 1 + 1, 0, none⟩ = some (.int .i64 0) := by rw [hW]; simp [go_sem]
  have s1 : W.cell? ⟨w.heap.size + 1 + 1 + 1, 1, none⟩ = some (.int .i64 0) := by rw [hW]; simp [go_sem]
  have s2 : W.cell? ⟨w.heap.size + 1 + 1 + 1, 2, none⟩ = some (.slice none 0 0) := by rw [hW]; simp [go_sem]
  have rf : ∀ q, W.frozen? ⟨w.heap.size + 1 + 1, q, none⟩ = false := fun q => by rw [hW]; simp [go_sem]
  have sf : ∀ q, W.frozen? ⟨w.heap.size + 1 + 1 + 1, q, none⟩ = false := fun q => by rw [hW]; simp [go_sem]
  replace hB := Lib.hid hB
  replace hsz := Lib.hid hsz
  clear hW
  go_region
  go_wp2_with fail
  have hE : Below w.heap.size w ((((((((W.setCell ⟨w.heap.size + 1 + 1, 0, none⟩ (.int .u8 0)).setCell ⟨w.heap.size + 1 + 1, 1, none⟩ (.int .i64 0)).setCell ⟨w.heap.size + 1 + 1, 2, none⟩ (.int .i64 0)).setCell ⟨w.heap.size + 1 + 1, 3, none⟩ (.int .i64 0)).setCell ⟨w.heap.size + 1 + 1 + 1, 0, none⟩ (.int .i64 room)).setCell ⟨w.heap.size + 1 + 1 + 1, 1, none⟩ (.int .i64 C)).setCell ⟨w.heap.size + 1 + 1 + 1, 2, none⟩ (.slice a N c))).drew := by
    refine Below.drew ?_
    exact ((((((hB.out.setCell (by simp; try omega) _).setCell (by simp; try omega) _).setCell (by simp; try omega) _).setCell (by simp; try omega) _).setCell (by simp; try omega) _).setCell (by simp; try omega) _).setCell (by simp; try omega) _
  refine bodyPost_ret (v := .tuple #[.agg #[.int .u8 0, .int .i64 0, .int .i64 0, .int .i64 0], .bool false, .agg #[.int .i64 room, .int .i64 C, .slice a N c]]) (by simp [results, Try.results29, go_sem, r0, r1, r2, r3, s0, s1, s2]) rfl ⟨a, N, c, rfl, h.out.kp (kp_below hE), hE⟩

set_option maxHeartbeats 4000000 in
theorem listd_2 {P : Nat → Prop} {w : World} {a : Option Addr} {N c room : Nat} {m : M} (h : RL P w a N c m.L) (f n : Int) (kz : Nat) (nz rz iz : Int) (hf : ¬ f < 0) (hn : n < 0) :
    Calls Try.prog 29 #[.agg #[.int .i64 room, .int .i64 (m.cells : Nat), .slice a N c], .int .i64 f, .int .i64 n, .agg #[.int .u8 kz, .int .i64 nz, .int .i64 rz, .int .i64 iz]] w (AddD P w room m v0 false) := by
  obtain ⟨C, L⟩ := m
  simp only at h ⊢
  replace h := Lib.hid h
  go_enter Try.func29, Try.ntmps29
  go_wp2_with fail
  obtain ⟨W, hW⟩ : ∃ W, W = ((((w.alloc (.cells #[.int .i64 room, .int .i64 C, .slice a N c] 31)).alloc (.cells #[.int .u8 kz, .int .i64 nz, .int .i64 rz, .int .i64 iz] 35)).alloc (.cells #[.int .u8 0, .int .i64 0, .int .i64 0, .int .i64 0] 35)).alloc (.cells #[.int .i64 0, .int .i64 0, .slice none 0 0] 31)) := ⟨_, rfl⟩
  rw [← hW]
  have hB : Below w.heap.size w W := by rw [hW]; go_grown
  have hsz : W.heap.size = w.heap.size + 1 + 1 + 1 + 1 := by rw [hW]; simp
  have z0 : W.cell? ⟨w.heap.size, 0, none⟩ = some (.int .i64 room) := by rw [hW]; simp [go_sem]
  have z1 : W.cell? ⟨w.heap.size, 1, none⟩ = some (.int .i64 C) := by rw [hW]; simp [go_sem]
  have z2 : W.cell? ⟨w.heap.size, 2, none⟩ = some (.slice a N c) := by rw [hW]; simp [go_sem]
  have r0 : W.cell? ⟨w.heap.size + 1 + 1, 0, none⟩ = some (.int .u8 0) := by rw [hW]; simp [go_sem]
  have r1 : W.cell? ⟨w.heap.size + 1 + 1, 1, none⟩ = some (.int .i64 0) := by rw [hW]; simp [go_sem]
  have r2 : W.cell? ⟨w.heap.size + 1 + 1, 2, none⟩ = some (.int .i64 0) := by rw [hW]; simp [go_sem]
  have r3 : W.cell? ⟨w.heap.size + 1 + 1, 3, none⟩ = some (.int .i64 0) := by rw [hW]; simp [go_sem]
  have s0 : W.cell? ⟨w.heap.size + 1 + 1 + 1, 0, none⟩ = some (.int .i64 0) := by rw [hW]; simp [go_sem]
  have s1 : W.cell? ⟨w.heap.size + 1 + 1 + 1, 1, none⟩ = some (.int .i64 0) := by rw [hW]; simp [go_sem]
  have s2 : W.cell? ⟨w.heap.size + 1 + 1 + 1, 2, none⟩ = some (.slice none 0 0) := by rw [hW]; simp [go_sem]
  have rf : ∀ q, W.frozen? ⟨w.heap.size + 1 + 1, q, none⟩ = false := fun q => by rw [hW]; simp [go_sem]
  have sf : ∀ q, W.frozen? ⟨w.heap.size + 1 + 1 + 1, q, none⟩ = false := fun q => by rw [hW]; simp [go_sem]
  replace hB := Lib.hid hB
  replace hsz := Lib.hid hsz
  clear hW
  go_region
  go_wp2_with fail
  have hE : Below w.heap.size w ((((((((W.setCell ⟨w.heap.size + 1 + 1, 0, none⟩ (.int .u8 0)).setCell ⟨w.heap.size + 1 + 1, 1, none⟩ (.int .i64 0)).setCell ⟨w.heap.size + 1 + 1, 2, none⟩ (.int .i64 0)).setCell ⟨w.heap.size + 1 + 1, 3, none⟩ (.int .i64 0)).setCell ⟨w.heap.size + 1 + 1 + 1, 0, none⟩ (.int .i64 room)).setCell ⟨w.heap.size + 1 + 1 + 1, 1, none⟩ (.int .i64 C)).setCell ⟨w.heap.size + 1 + 1 + 1, 2, none⟩ (.slice a N c))).drew := by
    refine Below.drew ?_
    exact ((((((hB.out.setCell (by simp; try omega) _).setCell (by simp; try omega) _).setCell (by simp; try omega) _).setCell (by simp; try omega) _).setCell (by simp; try omega) _).setCell (by simp; try omega) _).setCell (by simp; try omega) _
  refine bodyPost_ret (v := .tuple #[.agg #[.int .u8 0, .int .i64 0, .int .i64 0, .int .i64 0], .bool false, .agg #[.int .i64 room, .int .i64 C, .slice a N c]]) (by simp [results, Try.results29, go_sem, r0, r1, r2, r3, s0, s1, s2]) rfl ⟨a, N, c, rfl, h.out.kp (kp_below hE), hE⟩

set_option maxHeartbeats 4000000 in
theorem listd_3 {P : Nat → Prop} {w : World} {a : Option Addr} {N c room : Nat} {m : M} (h : RL P w a N c m.L) (f n : Int) (kz : Nat) (nz rz iz : Int) (hf : ¬ f < 0) (hn : ¬ n < 0) (hm : 65536 < n) :
    Calls Try.prog 29 #[.agg #[.int .i64 room, .int .i64 (m.cells : Nat), .slice a N c], .int .i64 f, .int .i64 n, .agg #[.int .u8 kz, .int .i64 nz, .int .i64 rz, .int .i64 iz]] w (AddD P w room m v0 false) := by
  obtain ⟨C, L⟩ := m
  simp only at h ⊢
  replace h := Lib.hid h
  go_enter Try.func29, Try.ntmps29
  go_wp2_with fail
  obtain ⟨W, hW⟩ : ∃ W, W = ((((w.alloc (.cells #[.int .i64 room, .int .i64 C, .slice a N c] 31)).alloc (.cells #[.int .u8 kz, .int .i64 nz, .int .i64 rz, .int .i64 iz] 35)).alloc (.cells #[.int .u8 0, .int .i64 0, .int .i64 0, .int .i64 0] 35)).alloc (.cells #[.int .i64 0, .int .i64 0, .slice none 0 0] 31)) := ⟨_, rfl⟩
  rw [← hW]
  have hB : Below w.heap.size w W := by rw [hW]; go_grown
  have hsz : W.heap.size = w.heap.size + 1 + 1 + 1 + 1 := by rw [hW]; simp
  have z0 : W.cell? ⟨w.heap.size, 0, none⟩ = some (.int .i64 room) := by rw [hW]; simp [go_sem]
  have z1 : W.cell? ⟨w.heap.size, 1, none⟩ = some (.int .i64 C) := by rw [hW]; simp [go_sem]
  have z2 : W.cell? ⟨w.heap.size, 2, none⟩ = some (.slice a N c) := by rw [hW]; simp [go_sem]
  have r0 : W.cell? ⟨w.heap.size + 1 + 1, 0, none⟩ = some (.int .u8 0) := by rw [hW]; simp [go_sem]
  have r1 : W.cell? ⟨w.heap.size + 1 + 1, 1, none⟩ = some (.int .i64 0) := by rw [hW]; simp [go_sem]
  have r2 : W.cell? ⟨w.heap.size + 1 + 1, 2, none⟩ = some (.int .i64 0) := by rw [hW]; simp [go_sem]
  have r3 : W.cell? ⟨w.heap.size + 1 + 1, 3, none⟩ = some (.int .i64 0) := by rw [hW]; simp [go_sem]
  have s0 : W.cell? ⟨w.heap.size + 1 + 1 + 1, 0, none⟩ = some (.int .i64 0) := by rw [hW]; simp [go_sem]
  have s1 : W.cell? ⟨w.heap.size + 1 + 1 + 1, 1, none⟩ = some (.int .i64 0) := by rw [hW]; simp [go_sem]
  have s2 : W.cell? ⟨w.heap.size + 1 + 1 + 1, 2, none⟩ = some (.slice none 0 0) := by rw [hW]; simp [go_sem]
  have rf : ∀ q, W.frozen? ⟨w.heap.size + 1 + 1, q, none⟩ = false := fun q => by rw [hW]; simp [go_sem]
  have sf : ∀ q, W.frozen? ⟨w.heap.size + 1 + 1 + 1, q, none⟩ = false := fun q => by rw [hW]; simp [go_sem]
  replace hB := Lib.hid hB
  replace hsz := Lib.hid hsz
  clear hW
  go_region
  go_wp2_with fail
  have hE : Below w.heap.size w ((((((((W.setCell ⟨w.heap.size + 1 + 1, 0, none⟩ (.int .u8 0)).setCell ⟨w.heap.size + 1 + 1, 1, none⟩ (.int .i64 0)).setCell ⟨w.heap.size + 1 + 1, 2, none⟩ (.int .i64 0)).setCell ⟨w.heap.size + 1 + 1, 3, none⟩ (.int .i64 0)).setCell ⟨w.heap.size + 1 + 1 + 1, 0, none⟩ (.int .i64 room)).setCell ⟨w.heap.size + 1 + 1 + 1, 1, none⟩ (.int .i64 C)).setCell ⟨w.heap.size + 1 + 1 + 1, 2, none⟩ (.slice a N c))).drew := by
    refine Below.drew ?_
    exact ((((((hB.out.setCell (by simp; try omega) _).setCell (by simp; try omega) _).setCell (by simp; try omega) _).setCell (by simp; try omega) _).setCell (by simp; try omega) _).setCell (by simp; try omega) _).setCell (by simp; try omega) _
  refine bodyPost_ret (v := .tuple #[.agg #[.int .u8 0, .int .i64 0, .int .i64 0, .int .i64 0], .bool false, .agg #[.int .i64 room, .int .i64 C, .slice a N c]]) (by simp [results, Try.results29, go_sem, r0, r1, r2, r3, s0, s1, s2]) rfl ⟨a, N, c, rfl, h.out.kp (kp_below hE), hE⟩

set_option maxHeartbeats 4000000 in
theorem listd_1 {P : Nat → Prop} {w : World} {a : Option Addr} {N c room : Nat} {m : M} (h : RL P w a N c m.L) (hP : ∀ b, w.heap.size ≤ b → P b) (hok : OkM room m) (hR : room ≤ 65536) (f : Int) (n : Nat) (kz : Nat) (nz rz iz : Int) (hf : ¬ f < 0) (hn : n ≤ 65536) :
    Calls Try.prog 29 #[.agg #[.int .i64 room, .int .i64 (m.cells : Nat), .slice a N c], .int .i64 f, .int .i64 n, .agg #[.int .u8 kz, .int .i64 nz, .int .i64 rz, .int .i64 iz]] w (AddD P w room (addN room m (listO f n ⟨kz, nz, rz, iz⟩)) (addV room m (listO f n ⟨kz, nz, rz, iz⟩)) (addB room m (listO f n ⟨kz, nz, rz, iz⟩))) := by
  have HK : ∀ w' : World, w.heap.size + 1 + 1 + 1 < w'.heap.size → Below w.heap.size w w' → Kp P (fun b => P b ∧ b ≠ w.heap.size + 1 + 1 ∧ b ≠ w.heap.size + 1 + 1 + 1) w w' ∧ ∀ b, w'.heap.size ≤ b → (fun b => P b ∧ b ≠ w.heap.size + 1 + 1 ∧ b ≠ w.heap.size + 1 + 1 + 1) b := fun w' hz hb => ⟨fun b hb' hp => ⟨⟨hp, by omega, by omega⟩, hb.block b hb'⟩, fun b hb' => ⟨hP b (by omega), by omega, by omega⟩⟩
  have HA : Hid (∀ (w' : World) (a' : Option Addr) (c' : Nat), w.heap.size + 1 + 1 + 1 < w'.heap.size → Below w.heap.size w w' → (a' = none → n = 0 ∧ c' = 0) → RV (fun b => P b ∧ b ≠ w.heap.size + 1 + 1 ∧ b ≠ w.heap.size + 1 + 1 + 1) w' a' (List.replicate n ⟨kz, nz, rz, iz⟩) → Calls Try.prog 48 #[.agg #[.int .i64 room, .int .i64 (m.cells : Nat), .slice a N c], .agg #[.int .u8 7, .int .i64 f, .string { data := #[] }, .slice a' n c']] w' (AddD (fun b => P b ∧ b ≠ w.heap.size + 1 + 1 ∧ b ≠ w.heap.size + 1 + 1 + 1) w' room (addN room m (listO f n ⟨kz, nz, rz, iz⟩)) (addV room m (listO f n ⟨kz, nz, rz, iz⟩)) (addB room m (listO f n ⟨kz, nz, rz, iz⟩)))) :=
    Lib.hid fun w' a' c' hz hb hzn hrv => addd_any (h.kp (HK w' hz hb).1) ⟨7, f, { data := #[] }, a', n, c'⟩ (listO f n ⟨kz, nz, rz, iz⟩) ⟨rfl, rfl, rfl, by simp [listO], hzn, hrv⟩ (HK w' hz hb).2 (Nat.zero_le _) (by show n ≤ 100000; omega) hok hR
  obtain ⟨⟨kv, nv, rv, iv⟩, hV⟩ : ∃ v, addV room m (listO f n ⟨kz, nz, rz, iz⟩) = v := ⟨_, rfl⟩
  obtain ⟨bo, hbo⟩ : ∃ b, addB room m (listO f n ⟨kz, nz, rz, iz⟩) = b := ⟨_, rfl⟩
  obtain ⟨⟨C2, L2⟩, hM⟩ : ∃ M, addN room m (listO f n ⟨kz, nz, rz, iz⟩) = M := ⟨_, rfl⟩
  rw [hV, hbo, hM] at HA ⊢
  obtain ⟨C, L⟩ := m
  unfold AddD at HA ⊢
  simp only at HA ⊢
  replace hP := Lib.hid hP
  clear h hV hbo hM HK hok
  go_enter Try.func29, Try.ntmps29
  go_wp2_with fail
  obtain ⟨W, hW⟩ : ∃ W, W = ((((w.alloc (.cells #[.int .i64 room, .int .i64 C, .slice a N c] 31)).alloc (.cells #[.int .u8 kz, .int .i64 nz, .int .i64 rz, .int .i64 iz] 35)).alloc (.cells #[.int .u8 0, .int .i64 0, .int .i64 0, .int .i64 0] 35)).alloc (.cells #[.int .i64 0, .int .i64 0, .slice none 0 0] 31)) := ⟨_, rfl⟩
  have hsz : W.heap.size = w.heap.size + 1 + 1 + 1 + 1 := by rw [hW]; simp
  have hBW : Below w.heap.size w W := by rw [hW]; go_grown
  have hown0 := ownV_empty (w := W) (B := W.heap.size) (Nat.le_refl _)
  rw [hsz] at hown0
  rw [← hW]
  have z0 : W.cell? ⟨w.heap.size, 0, none⟩ = some (.int .i64 room) := by rw [hW]; simp [go_sem]
  have z1 : W.cell? ⟨w.heap.size, 1, none⟩ = some (.int .i64 C) := by rw [hW]; simp [go_sem]
  have z2 : W.cell? ⟨w.heap.size, 2, none⟩ = some (.slice a N c) := by rw [hW]; simp [go_sem]
  have x0 : W.cell? ⟨w.heap.size + 1, 0, none⟩ = some (.int .u8 kz) := by rw [hW]; simp [go_sem]
  have x1 : W.cell? ⟨w.heap.size + 1, 1, none⟩ = some (.int .i64 nz) := by rw [hW]; simp [go_sem]
  have x2 : W.cell? ⟨w.heap.size + 1, 2, none⟩ = some (.int .i64 rz) := by rw [hW]; simp [go_sem]
  have x3 : W.cell? ⟨w.heap.size + 1, 3, none⟩ = some (.int .i64 iz) := by rw [hW]; simp [go_sem]
  have r0 : W.cell? ⟨w.heap.size + 1 + 1, 0, none⟩ = some (.int .u8 0) := by rw [hW]; simp [go_sem]
  have r1 : W.cell? ⟨w.heap.size + 1 + 1, 1, none⟩ = some (.int .i64 0) := by rw [hW]; simp [go_sem]
  have r2 : W.cell? ⟨w.heap.size + 1 + 1, 2, none⟩ = some (.int .i64 0) := by rw [hW]; simp [go_sem]
  have r3 : W.cell? ⟨w.heap.size + 1 + 1, 3, none⟩ = some (.int .i64 0) := by rw [hW]; simp [go_sem]
  have s0 : W.cell? ⟨w.heap.size + 1 + 1 + 1, 0, none⟩ = some (.int .i64 0) := by rw [hW]; simp [go_sem]
  have s1 : W.cell? ⟨w.heap.size + 1 + 1 + 1, 1, none⟩ = some (.int .i64 0) := by rw [hW]; simp [go_sem]
  have s2 : W.cell? ⟨w.heap.size + 1 + 1 + 1, 2, none⟩ = some (.slice none 0 0) := by rw [hW]; simp [go_sem]
  have rf : ∀ q, W.frozen? ⟨w.heap.size + 1 + 1, q, none⟩ = false := fun q => by rw [hW]; simp [go_sem]
  have sf : ∀ q, W.frozen? ⟨w.heap.size + 1 + 1 + 1, q, none⟩ = false := fun q => by rw [hW]; simp [go_sem]
  clear hW
  have HALL := Lib.hid (And.intro (And.intro z0 (And.intro z1 z2)) (And.intro (And.intro x0 (And.intro x1 (And.intro x2 x3))) (And.intro (And.intro r0 (And.intro r1 (And.intro r2 r3))) (And.intro (And.intro s0 (And.intro s1 s2)) (And.intro rf sf)))))
  replace hsz := Lib.hid hsz
  replace hBW := Lib.hid hBW
  replace hown0 := Lib.hid hown0
  clear z0 z1 z2 x0 x1 x2 x3 r0 r1 r2 r3 s0 s1 s2 rf sf
  go_loopw [11, 12] (fun v j wr => ∃ q : Nat, q ≤ n ∧ j = .int .i64 q ∧ OwnV wr (w.heap.size + 1 + 1 + 1 + 1) v (List.replicate q ⟨kz, nz, rz, iz⟩) ∧ Below (w.heap.size + 1 + 1 + 1 + 1) W wr) (fun _ j _ => n - (intOf j).toNat)
  case atStart => exact ⟨0, Nat.zero_le _, rfl, hown0.out, (below_alloc W _).mono (by rw [hsz.out]; exact Nat.le_refl _)⟩
  case round =>
    obtain ⟨q, hq, rfl, hown, hbl⟩ := hrel
    have hszz := hsz.out
    have hbl2 : Below W.heap.size W wr := hbl.mono (by omega)
    obtain ⟨⟨z0, z1, z2⟩, ⟨x0, x1, x2, x3⟩, ⟨r0, r1, r2, r3⟩, ⟨s0, s1, s2⟩, rf, sf⟩ := HALL.out
    have hlw : w.heap.size + 1 + 1 + 1 < wr.heap.size := by have := hbl2.size; omega
    by_cases hlt : q < n
    · replace x0 := cell_carry hbl2 x0
      replace x1 := cell_carry hbl2 x1
      replace x2 := cell_carry hbl2 x2
      replace x3 := cell_carry hbl2 x3
      replace hown := Lib.hid hown
      replace hbl := Lib.hid hbl
      have hwl : w.heap.size + 1 + 1 + 1 + 1 ≤ wr.heap.size := by have := hbl2.size; omega
      clear z0 z1 z2 r0 r1 r2 r3 s0 s1 s2 rf sf hszz hbl2
      go_wp2_with (refine wpList_appV rfl (.tmp 31) (.tmp 33) rfl (w.heap.size + 1 + 1 + 1 + 1) _ (List.replicate q ⟨kz, nz, rz, iz⟩) [⟨kz, nz, rz, iz⟩] (fun _ => True) (some ⟨wr.heap.size, 0, none⟩) 1 1 rfl rfl (fun e => by cases e) rfl (rv_one _ ⟨kz, nz, rz, iz⟩ rfl) (own_carry hown.out (below_alloc _ _)) (by simp; omega) (by simp; omega) ?_; intro v3 w3 hown3 hb3; replace hown3 := Lib.hid hown3; have hb4 := Lib.hid (hbl.out.trans (((below_alloc wr _).mono hwl).trans hb3)); clear hb3)
      go_roundw
      case rel => exact ⟨q + 1, hlt, by go_num, by rw [List.replicate_succ']; exact hown3.out, hb4.out⟩
      case measure => simp [intOf]; omega
    · obtain rfl : q = n := by omega
      obtain ⟨a3, c3, rfl, hz3', hr3⟩ := ownV_rv (P := (fun b => P b ∧ b ≠ w.heap.size + 1 + 1 ∧ b ≠ w.heap.size + 1 + 1 + 1)) hown (fun b hq => ⟨hP.out b (by omega), by omega, by omega⟩)
      have hln : (List.replicate q (⟨kz, nz, rz, iz⟩ : Vl)).length = q := by simp
      rw [hln] at hz3' ⊢
      have HBC := Lib.hid (below_step hBW.out hbl2)
      have HAc := Lib.hid (HA.out wr a3 c3 hlw HBC.out hz3' hr3)
      replace rf : ∀ q, wr.frozen? ⟨w.heap.size + 1 + 1, q, none⟩ = false := fun q => froz_carry (o := 0) hbl2 r0 (rf q)
      replace sf : ∀ q, wr.frozen? ⟨w.heap.size + 1 + 1 + 1, q, none⟩ = false := fun q => froz_carry (o := 0) hbl2 s0 (sf q)
      replace z0 := cell_carry hbl2 z0
      replace z1 := cell_carry hbl2 z1
      replace z2 := cell_carry hbl2 z2
      replace r0 := cell_carry hbl2 r0
      replace r1 := cell_carry hbl2 r1
      replace r2 := cell_carry hbl2 r2
      replace r3 := cell_carry hbl2 r3
      replace s0 := cell_carry hbl2 s0
      replace s1 := cell_carry hbl2 s1
      replace s2 := cell_carry hbl2 s2
      clear x0 x1 x2 x3 hszz hbl2 hbl hown hln hz3' hr3
      go_wp2_with ((with_reducible refine HAc.out.mono ?_); rintro e w5 ⟨a', n', c', rfl, hRL, hb⟩; have hB5 := Lib.hid (below_step HBC.out hb); have hz5 : w.heap.size + 1 + 1 + 1 < w5.heap.size := (by have := hb.size; omega); replace rf := (fun q => froz_carry (o := 0) hb r0 (rf q) : ∀ q, w5.frozen? ⟨w.heap.size + 1 + 1, q, none⟩ = false); replace sf := (fun q => froz_carry (o := 0) hb s0 (sf q) : ∀ q, w5.frozen? ⟨w.heap.size + 1 + 1 + 1, q, none⟩ = false); replace r0 := cell_carry hb r0; replace r1 := cell_carry hb r1; replace r2 := cell_carry hb r2; replace r3 := cell_carry hb r3; replace s0 := cell_carry hb s0; replace s1 := cell_carry hb s1; replace s2 := cell_carry hb s2; replace hRL := Lib.hid hRL; clear hb)
      have hE : Below w.heap.size w (((((((w5.setCell ⟨w.heap.size + 1 + 1, 0, none⟩ (.int .u8 (kv : Nat))).setCell ⟨w.heap.size + 1 + 1, 1, none⟩ (.int .i64 nv)).setCell ⟨w.heap.size + 1 + 1, 2, none⟩ (.int .i64 rv)).setCell ⟨w.heap.size + 1 + 1, 3, none⟩ (.int .i64 iv)).setCell ⟨w.heap.size + 1 + 1 + 1, 0, none⟩ (.int .i64 room)).setCell ⟨w.heap.size + 1 + 1 + 1, 1, none⟩ (.int .i64 (C2 : Nat))).setCell ⟨w.heap.size + 1 + 1 + 1, 2, none⟩ ((.slice a' n' c'))) := by
        exact ((((((hB5.out.setCell (by simp; try omega) _).setCell (by simp; try omega) _).setCell (by simp; try omega) _).setCell (by simp; try omega) _).setCell (by simp; try omega) _).setCell (by simp; try omega) _).setCell (by simp; try omega) _
      refine bodyPost_ret (v := .tuple #[.agg #[.int .u8 (kv : Nat), .int .i64 nv, .int .i64 rv, .int .i64 iv], .bool bo, .agg #[.int .i64 room, .int .i64 (C2 : Nat), .slice a' n' c']]) (by simp [results, Try.results29, go_sem, hz5, r0, r1, r2, r3, s0, s1, s2]) rfl ⟨a', n', c', rfl, hRL.out.kp fun b hb hp => ⟨hp.1, ?_⟩, hE⟩
      have ne1 : b ≠ w.heap.size + 1 + 1 := hp.2.1
      have ne2 : b ≠ w.heap.size + 1 + 1 + 1 := hp.2.2
      rw [set_other ne2, set_other ne2, set_other ne2, set_other ne1, set_other ne1, set_other ne1, set_other ne1]


end Go.Proofs.Ytfeeikajekemlaa
