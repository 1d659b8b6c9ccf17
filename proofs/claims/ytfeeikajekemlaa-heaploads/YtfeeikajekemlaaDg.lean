/-
  The document's Str. Conditions: texts and lists of at most 100000.
-/
import Derived.Test.YtfeeikajekemlaaDf
import Derived.Test.YtfeeikajekemlaaWe
import Derived.Test.YtfeeikajekemlaaFl
namespace Go.Proofs.Ytfeeikajekemlaa
open Go.RowKit
set_option linter.unusedVariables false
set_option linter.unusedSimpArgs false
set_option maxRecDepth 100000

set_option maxHeartbeats 4000000 in
theorem strd_0 {P : Nat → Prop} {w : World} {a : Option Addr} {N c room : Nat} {m : M} (h : RL P w a N c m.L)  :
    Calls Try.prog 28 #[.agg #[.int .i64 room, .int .i64 (m.cells : Nat), .slice a N c], .string { data := #[] }] w (AddD P w room m ⟨3, 0, 0, 0⟩ true) := by
  obtain ⟨C, L⟩ := m
  simp only at h ⊢
  replace h := Lib.hid h
  go_enter Try.func28, Try.ntmps28
  go_wp2_with fail
  obtain ⟨W, hW⟩ : ∃ W, W = (((w.alloc (.cells #[.int .i64 room, .int .i64 C, .slice a N c] 31)).alloc (.cells #[.int .u8 0, .int .i64 0, .int .i64 0, .int .i64 0] 35)).alloc (.cells #[.int .i64 0, .int .i64 0, .slice none 0 0] 31)) := ⟨_, rfl⟩
  rw [← hW]
  have hB : Below w.heap.size w W := by rw [hW]; go_grown
  have hsz : W.heap.size = w.heap.size + 1 + 1 + 1 := by rw [hW]; simp
  have z0 : W.cell? ⟨w.heap.size, 0, none⟩ = some (.int .i64 room) := by rw [hW]; simp [go_sem]
  have z1 : W.cell? ⟨w.heap.size, 1, none⟩ = some (.int .i64 C) := by rw [hW]; simp [go_sem]
  have z2 : W.cell? ⟨w.heap.size, 2, none⟩ = some (.slice a N c) := by rw [hW]; simp [go_sem]
  have r0 : W.cell? ⟨w.heap.size + 1, 0, none⟩ = some (.int .u8 0) := by rw [hW]; simp [go_sem]
  have r1 : W.cell? ⟨w.heap.size + 1, 1, none⟩ = some (.int .i64 0) := by rw [hW]; simp [go_sem]
  have r2 : W.cell? ⟨w.heap.size + 1, 2, none⟩ = some (.int .i64 0) := by rw [hW]; simp [go_sem]
  have r3 : W.cell? ⟨w.heap.size + 1, 3, none⟩ = some (.int .i64 0) := by rw [hW]; simp [go_sem]
  have s0 : W.cell? ⟨w.heap.size + 1 + 1, 0, none⟩ = some (.int .i64 0) := by rw [hW]; simp [go_sem]
  have s1 : W.cell? ⟨w.heap.size + 1 + 1, 1, none⟩ = some (.int .i64 0) := by rw [hW]; simp [go_sem]
  have s2 : W.cell? ⟨w.heap.size + 1 + 1, 2, none⟩ = some (.slice none 0 0) := by rw [hW]; simp [go_sem]
  have rf : ∀ q, W.frozen? ⟨w.heap.size + 1, q, none⟩ = false := fun q => by rw [hW]; simp [go_sem]
  have sf : ∀ q, W.frozen? ⟨w.heap.size + 1 + 1, q, none⟩ = false := fun q => by rw [hW]; simp [go_sem]
  replace hB := Lib.hid hB
  replace hsz := Lib.hid hsz
  clear hW
  go_region
  go_wp2_with fail
  have hE : Below w.heap.size w ((((((((W.setCell ⟨w.heap.size + 1, 0, none⟩ (.int .u8 3)).setCell ⟨w.heap.size + 1, 1, none⟩ (.int .i64 0)).setCell ⟨w.heap.size + 1, 2, none⟩ (.int .i64 0)).setCell ⟨w.heap.size + 1, 3, none⟩ (.int .i64 0)).setCell ⟨w.heap.size + 1 + 1, 0, none⟩ (.int .i64 room)).setCell ⟨w.heap.size + 1 + 1, 1, none⟩ (.int .i64 C)).setCell ⟨w.heap.size + 1 + 1, 2, none⟩ (.slice a N c))).drew := by
    refine Below.drew ?_
    exact ((((((hB.out.setCell (by simp; try omega) _).setCell (by simp; try omega) _).setCell (by simp; try omega) _).setCell (by simp; try omega) _).setCell (by simp; try omega) _).setCell (by simp; try omega) _).setCell (by simp; try omega) _
  refine bodyPost_ret (v := .tuple #[.agg #[.int .u8 3, .int .i64 0, .int .i64 0, .int .i64 0], .bool true, .agg #[.int .i64 room, .int .i64 C, .slice a N c]]) (by simp [results, Try.results28, go_sem, r0, r1, r2, r3, s0, s1, s2]) rfl ⟨a, N, c, rfl, h.out.kp (kp_below hE), hE⟩

set_option maxHeartbeats 4000000 in
theorem strd_1 {P : Nat → Prop} {w : World} {a : Option Addr} {N c room : Nat} {m : M} (h : RL P w a N c m.L) (hP : ∀ b, w.heap.size ≤ b → P b) (hok : OkM room m) (hR : room ≤ 65536) (s : ByteArray) (hs : s.size ≤ 100000) (h0 : 0 < s.size) :
    Calls Try.prog 28 #[.agg #[.int .i64 room, .int .i64 (m.cells : Nat), .slice a N c], .string s] w (AddD P w room (addN room m (strO s)) (addV room m (strO s)) (addB room m (strO s))) := by
  have HK : ∀ w' : World, w.heap.size + 1 + 1 < w'.heap.size → Below w.heap.size w w' → Kp P (fun b => P b ∧ b ≠ w.heap.size + 1 ∧ b ≠ w.heap.size + 1 + 1) w w' ∧ ∀ b, w'.heap.size ≤ b → (fun b => P b ∧ b ≠ w.heap.size + 1 ∧ b ≠ w.heap.size + 1 + 1) b := fun w' hz hb => ⟨fun b hb' hp => ⟨⟨hp, by omega, by omega⟩, hb.block b hb'⟩, fun b hb' => ⟨hP b (by omega), by omega, by omega⟩⟩
  have HA : Hid (∀ w' : World, w.heap.size + 1 + 1 < w'.heap.size → Below w.heap.size w w' → Calls Try.prog 48 #[.agg #[.int .i64 room, .int .i64 (m.cells : Nat), .slice a N c], .agg #[.int .u8 3, .int .i64 0, .string s, .slice none 0 0]] w' (AddD (fun b => P b ∧ b ≠ w.heap.size + 1 ∧ b ≠ w.heap.size + 1 + 1) w' room (addN room m (strO s)) (addV room m (strO s)) (addB room m (strO s)))) :=
    Lib.hid fun w' hz hb => addd_any (h.kp (HK w' hz hb).1) ⟨3, 0, s, none, 0, 0⟩ (strO s) ⟨rfl, rfl, rfl, rfl, fun _ => ⟨rfl, rfl⟩, rv_nil⟩ (HK w' hz hb).2 hs (Nat.zero_le _) hok hR
  obtain ⟨q1, q2⟩ := tolist_ne (s := s) (by omega)
  obtain ⟨⟨kv, nv, rv, iv⟩, hV⟩ : ∃ v, addV room m (strO s) = v := ⟨_, rfl⟩
  obtain ⟨bo, hbo⟩ : ∃ b, addB room m (strO s) = b := ⟨_, rfl⟩
  obtain ⟨⟨C2, L2⟩, hM⟩ : ∃ M, addN room m (strO s) = M := ⟨_, rfl⟩
  rw [hV, hbo, hM] at HA ⊢
  obtain ⟨C, L⟩ := m
  unfold AddD at HA ⊢
  simp only at HA ⊢
  clear h hV hbo hM HK hok h0
  go_enter Try.func28, Try.ntmps28
  go_wp2_with ((with_reducible refine (HA.out _ (by simp) (by go_grown)).mono ?_); rintro e w5 ⟨a', n', c', rfl, hRL, hb⟩; have hB5 := Lib.hid (below_step (by go_grown) hb : Below w.heap.size w w5); have hz5 : w.heap.size + 1 + 1 < w5.heap.size := (by have := hb.size; simp at this; omega); have r0 : w5.cell? ⟨w.heap.size + 1, 0, none⟩ = some (.int .u8 0) := (by rw [(bcell hb).1 _ _ (by simp; try omega)]; simp [go_sem]); have r1 : w5.cell? ⟨w.heap.size + 1, 1, none⟩ = some (.int .i64 0) := (by rw [(bcell hb).1 _ _ (by simp; try omega)]; simp [go_sem]); have r2 : w5.cell? ⟨w.heap.size + 1, 2, none⟩ = some (.int .i64 0) := (by rw [(bcell hb).1 _ _ (by simp; try omega)]; simp [go_sem]); have r3 : w5.cell? ⟨w.heap.size + 1, 3, none⟩ = some (.int .i64 0) := (by rw [(bcell hb).1 _ _ (by simp; try omega)]; simp [go_sem]); have s0 : w5.cell? ⟨w.heap.size + 1 + 1, 0, none⟩ = some (.int .i64 0) := (by rw [(bcell hb).1 _ _ (by simp; try omega)]; simp [go_sem]); have s1 : w5.cell? ⟨w.heap.size + 1 + 1, 1, none⟩ = some (.int .i64 0) := (by rw [(bcell hb).1 _ _ (by simp; try omega)]; simp [go_sem]); have s2 : w5.cell? ⟨w.heap.size + 1 + 1, 2, none⟩ = some (.slice none 0 0) := (by rw [(bcell hb).1 _ _ (by simp; try omega)]; simp [go_sem]); have rf : ∀ q, w5.frozen? ⟨w.heap.size + 1, q, none⟩ = false := (fun q => by rw [(bcell hb).2 _ _ (by simp; try omega)]; simp [go_sem]); have sf : ∀ q, w5.frozen? ⟨w.heap.size + 1 + 1, q, none⟩ = false := (fun q => by rw [(bcell hb).2 _ _ (by simp; try omega)]; simp [go_sem]); replace hRL := Lib.hid hRL; clear hb)
  have hE : Below w.heap.size w (((((((w5.setCell ⟨w.heap.size + 1, 0, none⟩ (.int .u8 (kv : Nat))).setCell ⟨w.heap.size + 1, 1, none⟩ (.int .i64 nv)).setCell ⟨w.heap.size + 1, 2, none⟩ (.int .i64 rv)).setCell ⟨w.heap.size + 1, 3, none⟩ (.int .i64 iv)).setCell ⟨w.heap.size + 1 + 1, 0, none⟩ (.int .i64 room)).setCell ⟨w.heap.size + 1 + 1, 1, none⟩ (.int .i64 (C2 : Nat))).setCell ⟨w.heap.size + 1 + 1, 2, none⟩ ((.slice a' n' c'))) := by
    exact ((((((hB5.out.setCell (by simp; try omega) _).setCell (by simp; try omega) _).setCell (by simp; try omega) _).setCell (by simp; try omega) _).setCell (by simp; try omega) _).setCell (by simp; try omega) _).setCell (by simp; try omega) _
  refine bodyPost_ret (v := .tuple #[.agg #[.int .u8 (kv : Nat), .int .i64 nv, .int .i64 rv, .int .i64 iv], .bool bo, .agg #[.int .i64 room, .int .i64 (C2 : Nat), .slice a' n' c']]) (by simp [results, Try.results28, go_sem, hz5, r0, r1, r2, r3, s0, s1, s2]) rfl ⟨a', n', c', rfl, hRL.out.kp fun b hb hp => ⟨hp.1, ?_⟩, hE⟩
  have ne1 : b ≠ w.heap.size + 1 := hp.2.1
  have ne2 : b ≠ w.heap.size + 1 + 1 := hp.2.2
  rw [set_other ne2, set_other ne2, set_other ne2, set_other ne1, set_other ne1, set_other ne1, set_other ne1]

end Go.Proofs.Ytfeeikajekemlaa
