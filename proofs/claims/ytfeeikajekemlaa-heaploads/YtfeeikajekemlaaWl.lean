/-
  Contracts of heap's List. Conditions: as said.
-/
import Derived.Test.YtfeeikajekemlaaWk
import Derived.Test.YtfeeikajekemlaaFl
import Derived.Test.YtfeeikajekemlaaPm
import Derived.Test.YtfeeikajekemlaaWf
import Derived.Test.YtfeeikajekemlaaWe
namespace Go.Proofs.Ytfeeikajekemlaa
open Go.RowKit
set_option linter.unusedVariables false
set_option linter.unusedSimpArgs false
set_option maxRecDepth 100000

set_option maxHeartbeats 4000000 in
theorem list_bad1 {w : World} (pt : Option Addr) (f : Int) (N : Int) (z : Vl) (hf : f < 0) :
    Calls Try.prog 24 #[.pointer (pt), .int .i64 f, .int .i64 N, vlV z] w fun e w' => e = .returned (.tuple #[vlV v0, .bool false]) ∧ Below w.heap.size w w' := by
  obtain ⟨kz, nz, rz, iz⟩ := z
  go_enter Try.func24, Try.ntmps24
  go_wp2_with fail
  refine bodyPost_ret (v := .tuple #[vlV v0, .bool false]) (by simp [results, Try.results24, go_sem, v0]) rfl ⟨rfl, by go_grown⟩

set_option maxHeartbeats 4000000 in
theorem list_bad2 {w : World} (pt : Option Addr) (f : Int) (N : Int) (z : Vl) (hf : ¬ f < 0) (hn : N < 0) :
    Calls Try.prog 24 #[.pointer (pt), .int .i64 f, .int .i64 N, vlV z] w fun e w' => e = .returned (.tuple #[vlV v0, .bool false]) ∧ Below w.heap.size w w' := by
  obtain ⟨kz, nz, rz, iz⟩ := z
  go_enter Try.func24, Try.ntmps24
  go_wp2_with fail
  refine bodyPost_ret (v := .tuple #[vlV v0, .bool false]) (by simp [results, Try.results24, go_sem, v0]) rfl ⟨rfl, by go_grown⟩

set_option maxHeartbeats 4000000 in
theorem list_full {w : World} {own : Owns} {k p room : Nat} {m : M} (h : Hp w own k p room m) (fz : Fz w own) (f : Int) (N : Nat) (z : Vl) (hf : ¬ f < 0) (hfit : addB room m (listO f N z) = false) :
    Calls Try.prog 24 #[.pointer (some ⟨p, 0, none⟩), .int .i64 f, .int .i64 N, vlV z] w fun e w' => e = .returned (.tuple #[vlV v0, .bool false]) ∧ Below w.heap.size w w' := by
  have hmay : mayB (listO f N z) = true := by unfold mayB listO; simp [size0]; omega
  have hf' := Lib.hid hfit
  rw [addB_room h.ok.fits hmay] at hfit
  have hpt : part (listO f N z) = N := by simp [part, listO, size0]
  have H2 := Lib.hid fun w' (hb : Below w.heap.size w w') => room_any (h.below hb) (N : Int)
  rw [hpt] at hfit
  rw [hfit] at H2
  replace h := Lib.hid h
  replace fz := Lib.hid fz
  replace hmay := Lib.hid hmay
  clear hfit hpt
  obtain ⟨kz, nz, rz, iz⟩ := z
  go_enter Try.func24, Try.ntmps24
  go_wp2_with ((with_reducible refine (H2.out _ (by go_grown)).mono ?_); rintro e w2 ⟨rfl, hb2⟩; have HB2 := Lib.hid (below_step (by go_grown) hb2 : Below w.heap.size w w2); have hz2 : w.heap.size + 1 < w2.heap.size := (by have := hb2.size; simp at this; omega); have X2 := Lib.hid (((vl_box w ⟨kz, nz, rz, iz⟩).alloc _).of_block (hb2.block w.heap.size (by simp; omega))); have R2 := (zero_box1 w _).of_block (hb2.block (w.heap.size + 1) (by simp)); clear hb2; have r0 : w2.cell? ⟨w.heap.size + 1, 0, none⟩ = some (.int .u8 0) := R2.cell (i := 0) (by omega); have r1 : w2.cell? ⟨w.heap.size + 1, 1, none⟩ = some (.int .i64 0) := R2.cell (i := 1) (by omega); have r2 : w2.cell? ⟨w.heap.size + 1, 2, none⟩ = some (.int .i64 0) := R2.cell (i := 2) (by omega); have r3 : w2.cell? ⟨w.heap.size + 1, 3, none⟩ = some (.int .i64 0) := R2.cell (i := 3) (by omega); have rf : ∀ o, w2.frozen? ⟨w.heap.size + 1, o, none⟩ = false := (fun o => R2.frozen o); clear R2 X2)
  refine bodyPost_ret (v := .tuple #[vlV v0, .bool false]) (by simp [results, Try.results24, go_sem, r0, r1, r2, r3, v0]) rfl ⟨rfl, ?_⟩
  exact (((HB2.out.setCell (by simp) _).setCell (by simp) _).setCell (by simp) _).setCell (by simp) _

set_option maxHeartbeats 4000000 in
theorem list_ok {w : World} {own : Owns} {k p room : Nat} {m : M} (h : Hp w own k p room m) (fz : Fz w own) (f : Int) (N : Nat) (z : Vl) (hf : ¬ f < 0) (hfit : addB room m (listO f N z) = true) :
    Calls Try.prog 24 #[.pointer (some ⟨p, 0, none⟩), .int .i64 f, .int .i64 N, vlV z] w fun e w' => e = .returned (.tuple #[vlV (mkV m (listO f N z)), .bool true]) ∧ MadeP w own k p room (mkM m (listO f N z)) w' := by
  have hmay : mayB (listO f N z) = true := by unfold mayB listO; simp [size0]; omega
  have hf' := Lib.hid hfit
  rw [addB_room h.ok.fits hmay] at hfit
  have hpt : part (listO f N z) = N := by simp [part, listO, size0]
  have H2 := Lib.hid fun w' (hb : Below w.heap.size w w') => room_any (h.below hb) (N : Int)
  rw [hpt] at hfit
  rw [hfit] at H2
  replace h := Lib.hid h
  replace fz := Lib.hid fz
  replace hmay := Lib.hid hmay
  clear hfit hpt
  obtain ⟨kz, nz, rz, iz⟩ := z
  have hN : N ≤ 65536 := by
    have h1 := h.out.rm
    have h2 := hf'.out
    unfold addB at h2
    have h3 : m.cells + cost (listO f N ⟨kz, nz, rz, iz⟩) ≤ room := by simpa using h2
    rw [part_cost hmay.out] at h3
    simp [part, listO, size0] at h3
    omega
  have hmk := run_make_vals N (by omega)
  go_enter Try.func24, Try.ntmps24
  go_wp2_with (first | ((with_reducible refine (H2.out _ (by go_grown)).mono ?_); rintro e w2 ⟨rfl, hb2⟩; have HB2 := Lib.hid (below_step (by go_grown) hb2 : Below w.heap.size w w2); have hz2 : w.heap.size + 1 < w2.heap.size := (by have := hb2.size; simp at this; omega); have X2 := Lib.hid (((vl_box w ⟨kz, nz, rz, iz⟩).alloc _).of_block (hb2.block w.heap.size (by simp; omega))); have R2 := (zero_box1 w _).of_block (hb2.block (w.heap.size + 1) (by simp)); clear hb2))
  replace R2 := Lib.hid R2
  go_wp2_with fail
  obtain ⟨W, hW⟩ : ∃ W, W = w2.alloc (.cells (madeCells #[.int .u8 0, .int .i64 0, .int .i64 0, .int .i64 0] (N * 4)) 35) := ⟨_, rfl⟩
  have hrow : W.rowIs w2.heap.size 35 (N * 4) (flF fun i => if i < 0 then ⟨kz, nz, rz, iz⟩ else v0) := by
    rw [hW]
    exact (made_row w2 N).congr fun i hi => by
      rw [flV_flF]; unfold flF
      rw [vl_rep N (i / 4) v0 (by omega)]; simp
  have hBW : Below w2.heap.size w2 W := by rw [hW]; go_grown
  have hzW : W.heap.size = w2.heap.size + 1 := by rw [hW]; simp
  rw [← hW]
  replace hrow := Lib.hid hrow
  replace hBW := Lib.hid hBW
  clear hW hmk
  go_loopw [29] (fun j wr => ∃ q : Nat, q ≤ N ∧ j = .int .i64 q ∧ wr.rowIs w2.heap.size 35 (N * 4) (flF fun i => if i < q then ⟨kz, nz, rz, iz⟩ else v0) ∧ Below w2.heap.size w2 wr) (fun j _ => N - (intOf j).toNat)
  case atStart => exact ⟨0, Nat.zero_le _, rfl, hrow.out, hBW.out⟩
  case round =>
    obtain ⟨q, hq, rfl, hrw, hbl⟩ := hrel
    clear hrow hBW
    by_cases hlt : q < N
    · obtain ⟨c0, c1, c2, c3⟩ := flF_at hrw hlt
      have fr := hrw.frozen
      have X3 := X2.out.of_block (hbl.block w.heap.size (by omega))
      have x0 : wr.cell? ⟨w.heap.size, 0, none⟩ = some (.int .u8 kz) := X3.cell (i := 0) (by omega)
      have x1 : wr.cell? ⟨w.heap.size, 1, none⟩ = some (.int .i64 nz) := X3.cell (i := 1) (by omega)
      have x2 : wr.cell? ⟨w.heap.size, 2, none⟩ = some (.int .i64 rz) := X3.cell (i := 2) (by omega)
      have x3 : wr.cell? ⟨w.heap.size, 3, none⟩ = some (.int .i64 iz) := X3.cell (i := 3) (by omega)
      have hnn : ¬ q < q := by omega
      have HR := Lib.hid (flF_set hrw q ⟨kz, nz, rz, iz⟩ (fun i => if i < q + 1 then ⟨kz, nz, rz, iz⟩ else v0) fun x _ => by
        by_cases e : x = q
        · rw [if_pos e, if_pos (by omega)]
        · rw [if_neg e]
          by_cases e2 : x < q
          · rw [if_pos e2, if_pos (by omega)]
          · rw [if_neg e2, if_neg (by omega)])
      have HB := Lib.hid hbl
      clear hrw hbl X3
      rw [if_neg hnn] at c0 c1 c2 c3
      simp only [v0] at c0 c1 c2 c3
      clear hnn
      go_wp2_with fail
      go_roundw
      case rel => exact ⟨q + 1, hlt, by go_num, HR.out, (((HB.out.setCell (Nat.le_refl _) _).setCell (Nat.le_refl _) _).setCell (Nat.le_refl _) _).setCell (Nat.le_refl _) _⟩
      case measure => simp [intOf]; omega
    · obtain rfl : q = N := by omega
      have hQ := hp_box h.out fz.out HB2.out (q := w.heap.size + 1) (by omega) (by omega)
      have hva : VA wr ⟨7, f, { data := #[] }, some ⟨w2.heap.size, 0, none⟩, q, q⟩ w2.heap.size (listO f q ⟨kz, nz, rz, iz⟩).vals := by
        refine ⟨by simp [listO], (fun e => by cases e), .inr ⟨rfl, hrw.congr fun i hi => ?_⟩⟩
        rw [flV_flF]; unfold flF listO
        simp only
        rw [if_pos (by omega), vl_rep q (i / 4) _ (by omega)]
      have HL : Hid (Calls Try.prog 42 #[.pointer (some ⟨p, 0, none⟩), .agg #[.int .u8 7, .int .i64 f, .string { data := #[] }, .slice (some ⟨w2.heap.size, 0, none⟩) q q]] wr fun e w' => e = .returned (vlV (mkV m (listO f q ⟨kz, nz, rz, iz⟩))) ∧ MadeP w2 (ownQ (w.heap.size + 1) k own) k p room (mkM m (listO f q ⟨kz, nz, rz, iz⟩)) w') :=
        Lib.hid (lay_any hQ.1 hQ.2 hbl ⟨7, f, { data := #[] }, some ⟨w2.heap.size, 0, none⟩, q, q⟩ (listO f q ⟨kz, nz, rz, iz⟩) w2.heap.size hva (fun _ => Nat.le_refl _) rfl rfl rfl hf'.out hmay.out (Nat.zero_le _) (by show q ≤ 100000; omega))
      clear hrw hva hQ hbl
      go_wp2_with ((with_reducible refine HL.out.mono ?_); rintro e w4 ⟨rfl, hM⟩; have R4 := R2.out.of_block (made_q hM (by omega)); replace hM := Lib.hid hM; have hz4 : w.heap.size + 1 < w4.heap.size := R4.lt; have r0 : w4.cell? ⟨w.heap.size + 1, 0, none⟩ = some (.int .u8 0) := R4.cell (i := 0) (by omega); have r1 : w4.cell? ⟨w.heap.size + 1, 1, none⟩ = some (.int .i64 0) := R4.cell (i := 1) (by omega); have r2 : w4.cell? ⟨w.heap.size + 1, 2, none⟩ = some (.int .i64 0) := R4.cell (i := 2) (by omega); have r3 : w4.cell? ⟨w.heap.size + 1, 3, none⟩ = some (.int .i64 0) := R4.cell (i := 3) (by omega); have rf : ∀ o, w4.frozen? ⟨w.heap.size + 1, o, none⟩ = false := (fun o => R4.frozen o); clear R4)
      refine bodyPost_ret (v := .tuple #[vlV (mkV m (listO f q ⟨kz, nz, rz, iz⟩)), .bool true]) (by simp [results, Try.results24, go_sem, r0, r1, r2, r3]) rfl ⟨rfl, ?_⟩
      exact made_box HB2.out (by omega) (by omega) hM.out (oth4 _ _ _ _)

end Go.Proofs.Ytfeeikajekemlaa
