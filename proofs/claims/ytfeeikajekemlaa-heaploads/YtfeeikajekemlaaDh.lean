/-
  The document's Rec. Conditions: texts and lists of at most 100000.
-/
import Derived.Test.YtfeeikajekemlaaDf
import Derived.Test.YtfeeikajekemlaaWe
import Derived.Test.YtfeeikajekemlaaFl
namespace Go.Proofs.Ytfeeikajekemlaa
open Go.RowKit
set_option linter.unusedVariables false
set_option linter.unusedSimpArgs false
set_option maxRecDepth 100000

set_option maxHeartbeats 4000000 in
theorem recd_0 {P : Nat → Prop} {w : World} {a : Option Addr} {N c room : Nat} {m : M} (h : RL P w a N c m.L) (f : Int) (vs : Value) (hf : f < 0) :
    Calls Try.prog 30 #[.agg #[.int .i64 room, .int .i64 (m.cells : Nat), .slice a N c], .int .i64 f, vs] w (AddD P w room m v0 false) := by
  obtain ⟨C, L⟩ := m
  simp only at h ⊢
  replace h := Lib.hid h
  go_enter Try.func30, Try.ntmps30
  go_wp2_with fail
  obtain ⟨W, hW⟩ : ∃ W, W = (((w.alloc (.cells #[.int .i64 room, .int .i64 C, .slice a N c] 31)).alloc (.cells #[.int .u8 0, .int .i64 0, .int .i64 0, .int .i64 0] 35)).alloc (.cells #[.int .i64 0, .int .i64 0, .slice none 0 0] 31)) := ⟨_, rfl⟩
  rw [← hW]
  have hB : Below w.heap.size w W := by rw [hW]; go_grown
  have hsz : W.heap.size = w.heap.size + 1 + 1 + 1 := by rw [hW]; simp
  have z0 : W.cell? ⟨w.heap.size, 0, none⟩ = some (.int .i64 room) := by rw [hW]; simp [go_sem]
  have z1 : W.cell? ⟨w.heap.size, 1, none⟩ = some (.int .i64 C) := by rw [hW]; simp [go_sem]
  have z2 : W.cell? ⟨w.heap.size, 2, none⟩ = some (.slice a N c) := by rw [hW]; simp [go_sem]
  have r0 : W.cell? ⟨w.heap.size + 1, 0, none⟩ = some (.int .u8 0) := by rw [hW]; simp [go_sem]
  have r1 : W.cell? ⟨w.heap.size + 1, 1, none⟩ = some (.int .i64 0) := by rw [hW]; simp [go_sem]
  have r2 : W.cell? ⟨w.heap.size + 1, 2, none⟩ = some (.int .i64 0) := by rw [hW]; simp [go_sem]
  have r3 : W.cell? ⟨w.heap.size + 1, 3, none⟩ = some (.int .i64 0) := by rw [hW]; simp [go_sem]
  have s0 : W.cell? ⟨w.heap.size + 1 + 1, 0, none⟩ = some (.int .i64 0) := by rw [hW]; simp [go_sem]
  have s1 : W.cell? ⟨w.heap.size + 1 + 1, 1, none⟩ = some (.int .i64 0) := by rw [hW]; simp [go_sem]
  have s2 : W.cell? ⟨w.heap.size + 1 + 1, 2, none⟩ = some (.slice none 0 0) := by rw [hW]; simp [go_sem]
  have rf : ∀ q, W.frozen? ⟨w.heap.size + 1, q, none⟩ = false := fun q => by rw [hW]; simp [go_sem]
  have sf : ∀ q, W.frozen? ⟨w.heap.size + 1 + 1, q, none⟩ = false := fun q => by rw [hW]; simp [go_sem]
  replace hB := Lib.hid hB
  replace hsz := Lib.hid hsz
  clear hW
  go_region
  go_wp2_with fail
  have hE : Below w.heap.size w ((((((((W.setCell ⟨w.heap.size + 1, 0, none⟩ (.int .u8 0)).setCell ⟨w.heap.size + 1, 1, none⟩ (.int .i64 0)).setCell ⟨w.heap.size + 1, 2, none⟩ (.int .i64 0)).setCell ⟨w.heap.size + 1, 3, none⟩ (.int .i64 0)).setCell ⟨w.heap.size + 1 + 1, 0, none⟩ (.int .i64 room)).setCell ⟨w.heap.size + 1 + 1, 1, none⟩ (.int .i64 C)).setCell ⟨w.heap.size + 1 + 1, 2, none⟩ (.slice a N c))).drew := by
    refine Below.drew ?_
    exact ((((((hB.out.setCell (by simp; try omega) _).setCell (by simp; try omega) _).setCell (by simp; try omega) _).setCell (by simp; try omega) _).setCell (by simp; try omega) _).setCell (by simp; try omega) _).setCell (by simp; try omega) _
  refine bodyPost_ret (v := .tuple #[.agg #[.int .u8 0, .int .i64 0, .int .i64 0, .int .i64 0], .bool false, .agg #[.int .i64 room, .int .i64 C, .slice a N c]]) (by simp [results, Try.results30, go_sem, r0, r1, r2, r3, s0, s1, s2]) rfl ⟨a, N, c, rfl, h.out.kp (kp_below hE), hE⟩

set_option maxHeartbeats 4000000 in
theorem recd_1 {P : Nat → Prop} {w : World} {a : Option Addr} {N c room : Nat} {m : M} (h : RL P w a N c m.L) (hP : ∀ b, w.heap.size ≤ b → P b) (hok : OkM room m) (hR : room ≤ 65536) (f : Int) (b : Option Addr) (n d : Nat) (l : List Vl) (hf : ¬ f < 0) (hl : l.length = n) (hzl : b = none → n = 0 ∧ d = 0) (hr : RV (fun _ => True) w b l) (hn : n ≤ 100000) :
    Calls Try.prog 30 #[.agg #[.int .i64 room, .int .i64 (m.cells : Nat), .slice a N c], .int .i64 f, .slice b n d] w (AddD P w room (addN room m (recO f l)) (addV room m (recO f l)) (addB room m (recO f l))) := by
  have HK : ∀ w' : World, w.heap.size + 1 + 1 < w'.heap.size → Below w.heap.size w w' → Kp P (fun b => P b ∧ b ≠ w.heap.size + 1 ∧ b ≠ w.heap.size + 1 + 1) w w' ∧ ∀ b, w'.heap.size ≤ b → (fun b => P b ∧ b ≠ w.heap.size + 1 ∧ b ≠ w.heap.size + 1 + 1) b := fun w' hz hb => ⟨fun b hb' hp => ⟨⟨hp, by omega, by omega⟩, hb.block b hb'⟩, fun b hb' => ⟨hP b (by omega), by omega, by omega⟩⟩
  have HA : Hid (∀ (w' : World) (a' : Option Addr) (c' : Nat), w.heap.size + 1 + 1 < w'.heap.size → Below w.heap.size w w' → (a' = none → n = 0 ∧ c' = 0) → RV (fun b => P b ∧ b ≠ w.heap.size + 1 ∧ b ≠ w.heap.size + 1 + 1) w' a' l → Calls Try.prog 48 #[.agg #[.int .i64 room, .int .i64 (m.cells : Nat), .slice a N c], .agg #[.int .u8 6, .int .i64 f, .string { data := #[] }, .slice a' n c']] w' (AddD (fun b => P b ∧ b ≠ w.heap.size + 1 ∧ b ≠ w.heap.size + 1 + 1) w' room (addN room m (recO f l)) (addV room m (recO f l)) (addB room m (recO f l)))) :=
    Lib.hid fun w' a' c' hz hb hzn hrv => addd_any (h.kp (HK w' hz hb).1) ⟨6, f, { data := #[] }, a', n, c'⟩ (recO f l) ⟨rfl, rfl, rfl, hl, hzn, hrv⟩ (HK w' hz hb).2 (Nat.zero_le _) (by show n ≤ 100000; omega) hok hR
  obtain ⟨⟨kv, nv, rv, iv⟩, hV⟩ : ∃ v, addV room m (recO f l) = v := ⟨_, rfl⟩
  obtain ⟨bo, hbo⟩ : ∃ b, addB room m (recO f l) = b := ⟨_, rfl⟩
  obtain ⟨⟨C2, L2⟩, hM⟩ : ∃ M, addN room m (recO f l) = M := ⟨_, rfl⟩
  rw [hV, hbo, hM] at HA ⊢
  obtain ⟨C, L⟩ := m
  unfold AddD at HA ⊢
  simp only at HA ⊢
  obtain ⟨W, hW⟩ : ∃ W, W = (((w.alloc (.cells #[.int .i64 room, .int .i64 C, .slice a N c] 31)).alloc (.cells #[.int .u8 0, .int .i64 0, .int .i64 0, .int .i64 0] 35)).alloc (.cells #[.int .i64 0, .int .i64 0, .slice none 0 0] 31)) := ⟨_, rfl⟩
  have hsz : W.heap.size = w.heap.size + 1 + 1 + 1 := by rw [hW]; simp
  have hBW : Below w.heap.size w W := by rw [hW]; go_grown
  have hown0 := ownV_empty (w := W) (B := W.heap.size) (Nat.le_refl _)
  rw [hsz] at hown0
  have z0 : W.cell? ⟨w.heap.size, 0, none⟩ = some (.int .i64 room) := by rw [hW]; simp [go_sem]
  have z1 : W.cell? ⟨w.heap.size, 1, none⟩ = some (.int .i64 C) := by rw [hW]; simp [go_sem]
  have z2 : W.cell? ⟨w.heap.size, 2, none⟩ = some (.slice a N c) := by rw [hW]; simp [go_sem]
  have r0 : W.cell? ⟨w.heap.size + 1, 0, none⟩ = some (.int .u8 0) := by rw [hW]; simp [go_sem]
  have r1 : W.cell? ⟨w.heap.size + 1, 1, none⟩ = some (.int .i64 0) := by rw [hW]; simp [go_sem]
  have r2 : W.cell? ⟨w.heap.size + 1, 2, none⟩ = some (.int .i64 0) := by rw [hW]; simp [go_sem]
  have r3 : W.cell? ⟨w.heap.size + 1, 3, none⟩ = some (.int .i64 0) := by rw [hW]; simp [go_sem]
  have s0 : W.cell? ⟨w.heap.size + 1 + 1, 0, none⟩ = some (.int .i64 0) := by rw [hW]; simp [go_sem]
  have s1 : W.cell? ⟨w.heap.size + 1 + 1, 1, none⟩ = some (.int .i64 0) := by rw [hW]; simp [go_sem]
  have s2 : W.cell? ⟨w.heap.size + 1 + 1, 2, none⟩ = some (.slice none 0 0) := by rw [hW]; simp [go_sem]
  have rf : ∀ q, W.frozen? ⟨w.heap.size + 1, q, none⟩ = false := fun q => by rw [hW]; simp [go_sem]
  have sf : ∀ q, W.frozen? ⟨w.heap.size + 1 + 1, q, none⟩ = false := fun q => by rw [hW]; simp [go_sem]
  replace hW := Lib.hid hW
  replace hsz := Lib.hid hsz
  replace hBW := Lib.hid hBW
  replace hown0 := Lib.hid hown0
  replace hr := Lib.hid hr
  replace hl := Lib.hid hl
  replace hzl := Lib.hid hzl
  replace hP := Lib.hid hP
  clear h hV hbo hM HK hok
  go_enter Try.func30, Try.ntmps30
  go_wp2_with (first | (rw [← hW.out]; refine wpList_appV rfl (.tmp 15) (.tmp 16) rfl (w.heap.size + 1 + 1 + 1) (.slice (some ⟨w.heap.size + 1 + 1 + 1, 0, none⟩) 0 0) [] l (fun _ => True) b n d rfl rfl hzl.out hl.out (hr.out.kp (kp_below (hBW.out.alloc hBW.out.size _))) hown0.out (by have := hsz.out; simp; omega) (by simp; omega) ?_; intro v3 w3 hown hb3; have hb3' : Below W.heap.size W w3 := (below_alloc W _).trans (hb3.mono (by rw [hsz.out]; exact Nat.le_refl _)); have HBC := Lib.hid (below_step hBW.out hb3'); have hszz := hsz.out; have hz3 : w.heap.size + 1 + 1 < w3.heap.size := (by have := hb3'.size; omega); obtain ⟨a3, c3, rfl, hz3', hr3⟩ := ownV_rv (P := (fun b => P b ∧ b ≠ w.heap.size + 1 ∧ b ≠ w.heap.size + 1 + 1)) hown (fun q hq => ⟨hP.out q (by omega), by omega, by omega⟩); have hln : ([] ++ l).length = n := hl.out; rw [hln] at hz3' ⊢; have HAc := Lib.hid (HA.out w3 a3 c3 hz3 HBC.out hz3' hr3); replace rf := (fun q => froz_carry (o := 0) hb3' r0 (rf q) : ∀ q, w3.frozen? ⟨w.heap.size + 1, q, none⟩ = false); replace sf := (fun q => froz_carry (o := 0) hb3' s0 (sf q) : ∀ q, w3.frozen? ⟨w.heap.size + 1 + 1, q, none⟩ = false); replace z0 := cell_carry hb3' z0; replace z1 := cell_carry hb3' z1; replace z2 := cell_carry hb3' z2; replace r0 := cell_carry hb3' r0; replace r1 := cell_carry hb3' r1; replace r2 := cell_carry hb3' r2; replace r3 := cell_carry hb3' r3; replace s0 := cell_carry hb3' s0; replace s1 := cell_carry hb3' s1; replace s2 := cell_carry hb3' s2; clear hb3 hb3' hown hln hz3' hr3 hszz) | ((with_reducible refine HAc.out.mono ?_); rintro e w5 ⟨a', n', c', rfl, hRL, hb⟩; have hB5 := Lib.hid (below_step HBC.out hb); have hz5 : w.heap.size + 1 + 1 < w5.heap.size := (by have := hb.size; omega); replace rf := (fun q => froz_carry (o := 0) hb r0 (rf q) : ∀ q, w5.frozen? ⟨w.heap.size + 1, q, none⟩ = false); replace sf := (fun q => froz_carry (o := 0) hb s0 (sf q) : ∀ q, w5.frozen? ⟨w.heap.size + 1 + 1, q, none⟩ = false); replace r0 := cell_carry hb r0; replace r1 := cell_carry hb r1; replace r2 := cell_carry hb r2; replace r3 := cell_carry hb r3; replace s0 := cell_carry hb s0; replace s1 := cell_carry hb s1; replace s2 := cell_carry hb s2; replace hRL := Lib.hid hRL; clear hb))
  have hE : Below w.heap.size w (((((((w5.setCell ⟨w.heap.size + 1, 0, none⟩ (.int .u8 (kv : Nat))).setCell ⟨w.heap.size + 1, 1, none⟩ (.int .i64 nv)).setCell ⟨w.heap.size + 1, 2, none⟩ (.int .i64 rv)).setCell ⟨w.heap.size + 1, 3, none⟩ (.int .i64 iv)).setCell ⟨w.heap.size + 1 + 1, 0, none⟩ (.int .i64 room)).setCell ⟨w.heap.size + 1 + 1, 1, none⟩ (.int .i64 (C2 : Nat))).setCell ⟨w.heap.size + 1 + 1, 2, none⟩ ((.slice a' n' c'))) := by
    exact ((((((hB5.out.setCell (by simp; try omega) _).setCell (by simp; try omega) _).setCell (by simp; try omega) _).setCell (by simp; try omega) _).setCell (by simp; try omega) _).setCell (by simp; try omega) _).setCell (by simp; try omega) _
  refine bodyPost_ret (v := .tuple #[.agg #[.int .u8 (kv : Nat), .int .i64 nv, .int .i64 rv, .int .i64 iv], .bool bo, .agg #[.int .i64 room, .int .i64 (C2 : Nat), .slice a' n' c']]) (by simp [results, Try.results30, go_sem, hz5, r0, r1, r2, r3, s0, s1, s2]) rfl ⟨a', n', c', rfl, hRL.out.kp fun b hb hp => ⟨hp.1, ?_⟩, hE⟩
  have ne1 : b ≠ w.heap.size + 1 := hp.2.1
  have ne2 : b ≠ w.heap.size + 1 + 1 := hp.2.2
  rw [set_other ne2, set_other ne2, set_other ne2, set_other ne1, set_other ne1, set_other ne1, set_other ne1]

end Go.Proofs.Ytfeeikajekemlaa
