/-
  Contracts of heap's Rec. Conditions: as said.
-/
import Derived.Test.YtfeeikajekemlaaWk
import Derived.Test.YtfeeikajekemlaaFl
import Derived.Test.YtfeeikajekemlaaPm
import Derived.Test.YtfeeikajekemlaaWf
import Derived.Test.YtfeeikajekemlaaWe
namespace Go.Proofs.Ytfeeikajekemlaa
open Go.RowKit
set_option linter.unusedVariables false
set_option linter.unusedSimpArgs false
set_option maxRecDepth 100000

set_option maxHeartbeats 4000000 in
theorem rec_bad {w : World} (pt : Option Addr) (f : Int) (v : Value) (hf : f < 0) :
    Calls Try.prog 25 #[.pointer pt, .int .i64 f, v] w fun e w' => e = .returned (.tuple #[vlV v0, .bool false]) ∧ Below w.heap.size w w' := by
  go_enter Try.func25, Try.ntmps25
  go_wp2_with fail
  refine bodyPost_ret (v := .tuple #[vlV v0, .bool false]) (by simp [results, Try.results25, go_sem, v0]) rfl ⟨rfl, by go_grown⟩

set_option maxHeartbeats 4000000 in
theorem rec_full {w : World} {own : Owns} {k p room : Nat} {m : M} (h : Hp w own k p room m) (fz : Fz w own) (f : Int) (a : Option Addr) (n c : Nat) (l : List Vl) (hl : l.length = n) (hz : a = none → n = 0 ∧ c = 0) (hr : RV (fun _ => True) w a l) (hf : ¬ f < 0) (hfit : addB room m (recO f l) = false) :
    Calls Try.prog 25 #[.pointer (some ⟨p, 0, none⟩), .int .i64 f, .slice a n c] w fun e w' => e = .returned (.tuple #[vlV v0, .bool false]) ∧ Below w.heap.size w w' := by
  have hmay : mayB (recO f l) = true := by unfold mayB recO; simp [size0]; omega
  have hf' := Lib.hid hfit
  rw [addB_room h.ok.fits hmay] at hfit
  have hpt : part (recO f l) = n := by simp [part, recO, size0, hl]
  have H2 := Lib.hid fun w' (hb : Below w.heap.size w w') => room_any (h.below hb) (n : Int)
  rw [hpt] at hfit
  rw [hfit] at H2
  replace h := Lib.hid h
  replace fz := Lib.hid fz
  replace hmay := Lib.hid hmay
  replace hr := Lib.hid hr
  replace hz := Lib.hid hz
  replace hl := Lib.hid hl
  clear hfit hpt
  go_enter Try.func25, Try.ntmps25
  go_wp2_with ((with_reducible refine (H2.out _ (by go_grown)).mono ?_); rintro e w2 ⟨rfl, hb2⟩; have HB2 := Lib.hid (below_step (by go_grown) hb2 : Below w.heap.size w w2); have hz2 : w.heap.size < w2.heap.size := (by have := hb2.size; simp at this; omega); have R2 := (zero_box w).of_block (hb2.block w.heap.size (by simp)); clear hb2; have r0 : w2.cell? ⟨w.heap.size, 0, none⟩ = some (.int .u8 0) := R2.cell (i := 0) (by omega); have r1 : w2.cell? ⟨w.heap.size, 1, none⟩ = some (.int .i64 0) := R2.cell (i := 1) (by omega); have r2 : w2.cell? ⟨w.heap.size, 2, none⟩ = some (.int .i64 0) := R2.cell (i := 2) (by omega); have r3 : w2.cell? ⟨w.heap.size, 3, none⟩ = some (.int .i64 0) := R2.cell (i := 3) (by omega); have rf : ∀ o, w2.frozen? ⟨w.heap.size, o, none⟩ = false := (fun o => R2.frozen o); clear R2)
  refine bodyPost_ret (v := .tuple #[vlV v0, .bool false]) (by simp [results, Try.results25, go_sem, r0, r1, r2, r3, v0]) rfl ⟨rfl, ?_⟩
  exact (((HB2.out.setCell (by simp) _).setCell (by simp) _).setCell (by simp) _).setCell (by simp) _

set_option maxHeartbeats 4000000 in
theorem rec_ok {w : World} {own : Owns} {k p room : Nat} {m : M} (h : Hp w own k p room m) (fz : Fz w own) (f : Int) (a : Option Addr) (n c : Nat) (l : List Vl) (hl : l.length = n) (hz : a = none → n = 0 ∧ c = 0) (hr : RV (fun _ => True) w a l) (hf : ¬ f < 0) (hfit : addB room m (recO f l) = true) :
    Calls Try.prog 25 #[.pointer (some ⟨p, 0, none⟩), .int .i64 f, .slice a n c] w fun e w' => e = .returned (.tuple #[vlV (mkV m (recO f l)), .bool true]) ∧ MadeP w own k p room (mkM m (recO f l)) w' := by
  have hmay : mayB (recO f l) = true := by unfold mayB recO; simp [size0]; omega
  have hf' := Lib.hid hfit
  rw [addB_room h.ok.fits hmay] at hfit
  have hpt : part (recO f l) = n := by simp [part, recO, size0, hl]
  have H2 := Lib.hid fun w' (hb : Below w.heap.size w w') => room_any (h.below hb) (n : Int)
  rw [hpt] at hfit
  rw [hfit] at H2
  replace h := Lib.hid h
  replace fz := Lib.hid fz
  replace hmay := Lib.hid hmay
  replace hr := Lib.hid hr
  replace hz := Lib.hid hz
  replace hl := Lib.hid hl
  clear hfit hpt
  have hN : n ≤ 65536 := by
    have h1 := h.out.rm
    have h2 := hf'.out
    unfold addB at h2
    have h3 : m.cells + cost (recO f l) ≤ room := by simpa using h2
    rw [part_cost hmay.out] at h3
    simp [part, recO, size0, hl.out] at h3
    omega
  have HT : Hid (∀ w' : World, Below w.heap.size w w' → Calls Try.prog 38 #[.agg #[.int .u8 6, .int .i64 f, .string { data := #[] }, .slice a n c]] w' fun e w'' => ∃ a' c' vb, e = .returned (.agg #[.int .u8 6, .int .i64 f, .string { data := #[] }, .slice a' n c']) ∧ VA w'' ⟨6, f, { data := #[] }, a', n, c'⟩ vb l ∧ (n ≠ 0 → w'.heap.size ≤ vb) ∧ Below w'.heap.size w' w'') :=
    Lib.hid fun w' hb => twin_any ⟨6, f, { data := #[] }, a, n, c⟩ l w' (fun _ => True) hl.out (fun e => (hz.out e).1) (hr.out.kp (kp_below hb)) (by show n ≤ 1000000; omega)
  go_enter Try.func25, Try.ntmps25
  go_wp2_with (first | ((with_reducible refine (H2.out _ (by go_grown)).mono ?_); rintro e w2 ⟨rfl, hb2⟩; have HB2 := Lib.hid (below_step (by go_grown) hb2 : Below w.heap.size w w2); have hz2 : w.heap.size < w2.heap.size := (by have := hb2.size; simp at this; omega); have R2 := (zero_box w).of_block (hb2.block w.heap.size (by simp)); clear hb2; replace R2 := Lib.hid R2) | ((with_reducible refine (HT.out _ HB2.out).mono ?_); rintro e w3 ⟨a', c', vb, rfl, hva, hvb, hb3⟩; have hQ := hp_box h.out fz.out HB2.out (q := w.heap.size) (Nat.le_refl _) (by omega); have HL : Hid (Calls Try.prog 42 #[.pointer (some ⟨p, 0, none⟩), .agg #[.int .u8 6, .int .i64 f, .string { data := #[] }, .slice a' n c']] w3 fun e w' => e = .returned (vlV (mkV m (recO f l))) ∧ MadeP w2 (ownQ w.heap.size k own) k p room (mkM m (recO f l)) w') := Lib.hid (lay_any hQ.1 hQ.2 hb3 ⟨6, f, { data := #[] }, a', n, c'⟩ (recO f l) vb hva hvb rfl rfl rfl hf'.out hmay.out (Nat.zero_le _) (by show n ≤ 100000; omega)); clear hva hvb hb3 hQ) | ((with_reducible refine HL.out.mono ?_); rintro e w4 ⟨rfl, hM⟩; have R4 := R2.out.of_block (made_q hM (by omega)); replace hM := Lib.hid hM; have hz4 : w.heap.size < w4.heap.size := R4.lt; have r0 : w4.cell? ⟨w.heap.size, 0, none⟩ = some (.int .u8 0) := R4.cell (i := 0) (by omega); have r1 : w4.cell? ⟨w.heap.size, 1, none⟩ = some (.int .i64 0) := R4.cell (i := 1) (by omega); have r2 : w4.cell? ⟨w.heap.size, 2, none⟩ = some (.int .i64 0) := R4.cell (i := 2) (by omega); have r3 : w4.cell? ⟨w.heap.size, 3, none⟩ = some (.int .i64 0) := R4.cell (i := 3) (by omega); have rf : ∀ o, w4.frozen? ⟨w.heap.size, o, none⟩ = false := (fun o => R4.frozen o); clear R4))
  refine bodyPost_ret (v := .tuple #[vlV (mkV m (recO f l)), .bool true]) (by simp [results, Try.results25, go_sem, r0, r1, r2, r3]) rfl ⟨rfl, ?_⟩
  exact made_box HB2.out (Nat.le_refl _) (by omega) hM.out (oth4 _ _ _ _)

end Go.Proofs.Ytfeeikajekemlaa
