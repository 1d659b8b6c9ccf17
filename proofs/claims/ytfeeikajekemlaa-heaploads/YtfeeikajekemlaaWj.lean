/-
  Contracts of heap's Str. Conditions: as said.
-/
import Derived.Test.YtfeeikajekemlaaWk
import Derived.Test.YtfeeikajekemlaaPm
import Derived.Test.YtfeeikajekemlaaWf
import Derived.Test.YtfeeikajekemlaaWe
namespace Go.Proofs.Ytfeeikajekemlaa
open Go.RowKit
set_option linter.unusedVariables false
set_option linter.unusedSimpArgs false
set_option maxRecDepth 100000

set_option maxHeartbeats 4000000 in
theorem str_full {w : World} {own : Owns} {k p room : Nat} {m : M} (h : Hp w own k p room m) (fz : Fz w own) (s : ByteArray) (hs : s.size ≤ 100000) (h0 : 0 < s.size) (hf : addB room m (strO s) = false) :
    Calls Try.prog 23 #[.pointer (some ⟨p, 0, none⟩), .string s] w fun e w' => e = .returned (.tuple #[vlV v0, .bool false]) ∧ Below w.heap.size w w' := by
  have hmay : mayB (strO s) = true := by unfold mayB strO; simp [h0]
  have H1 : Hid (∀ w' : World, Calls Try.prog 41 #[.agg #[.int .u8 3, .int .i64 0, .string s, .slice none 0 0]] w' fun e w'' => e = .returned (.int .i64 (partC ⟨3, 0, s, none, 0, 0⟩ : Nat)) ∧ Below w'.heap.size w' w'') := Lib.hid fun w' => part_any ⟨3, 0, s, none, 0, 0⟩ w' hs (Nat.zero_le _)
  have hf' := Lib.hid hf
  rw [addB_room h.ok.fits hmay] at hf
  have H2 := Lib.hid fun w' (hb : Below w.heap.size w w') => room_any (h.below hb) ((partC ⟨3, 0, s, none, 0, 0⟩ : Nat) : Int)
  rw [show (partC ⟨3, 0, s, none, 0, 0⟩ : Nat) = part (strO s) by simp [partC, part, strO]] at H1 H2
  rw [hf] at H2
  obtain ⟨q1, q2⟩ := tolist_ne (s := s) (by omega)
  replace h := Lib.hid h
  replace fz := Lib.hid fz
  replace hmay := Lib.hid hmay
  clear hf
  generalize part (strO s) = P at H1 H2
  go_enter Try.func23, Try.ntmps23
  go_wp2_with (first | ((with_reducible refine (H1.out _).mono ?_); rintro e w2 ⟨rfl, hb2⟩; have HB2 := Lib.hid (below_step (by go_grown) hb2 : Below w.heap.size w w2); have hz2 : w.heap.size + 1 < w2.heap.size := (by have := hb2.size; simp at this; omega); have R2 := Lib.hid (((zero_box w).alloc _).of_block (hb2.block w.heap.size (by simp; omega))); have X2 := Lib.hid ((box_row1 w _ ⟨3, 0, s, none, 0, 0⟩).of_block (hb2.block (w.heap.size + 1) (by simp))); clear hb2) | ((with_reducible refine (H2.out _ HB2.out).mono ?_); rintro e w3 ⟨rfl, hb3⟩; have HB3 := Lib.hid (below_step HB2.out hb3); have hz3 : w.heap.size + 1 < w3.heap.size := (by have := hb3.size; omega); have R3 := R2.out.of_block (hb3.block w.heap.size (by omega)); have X3 := X2.out.of_block (hb3.block (w.heap.size + 1) (by omega)); have r0 : w3.cell? ⟨w.heap.size, 0, none⟩ = some (.int .u8 0) := R3.cell (i := 0) (by omega); have r1 : w3.cell? ⟨w.heap.size, 1, none⟩ = some (.int .i64 0) := R3.cell (i := 1) (by omega); have r2 : w3.cell? ⟨w.heap.size, 2, none⟩ = some (.int .i64 0) := R3.cell (i := 2) (by omega); have r3 : w3.cell? ⟨w.heap.size, 3, none⟩ = some (.int .i64 0) := R3.cell (i := 3) (by omega); have fr : ∀ o, w3.frozen? ⟨w.heap.size, o, none⟩ = false := (fun o => R3.frozen o); clear R3 X3; clear hb3 R2 HB2 X2))
  refine bodyPost_ret (v := .tuple #[vlV v0, .bool false]) (by simp [results, Try.results23, go_sem, r0, r1, r2, r3, v0]) rfl ⟨rfl, ?_⟩
  exact (((HB3.out.setCell (by simp) _).setCell (by simp) _).setCell (by simp) _).setCell (by simp) _

set_option maxHeartbeats 4000000 in
theorem str_ok {w : World} {own : Owns} {k p room : Nat} {m : M} (h : Hp w own k p room m) (fz : Fz w own) (s : ByteArray) (hs : s.size ≤ 100000) (h0 : 0 < s.size) (hf : addB room m (strO s) = true) :
    Calls Try.prog 23 #[.pointer (some ⟨p, 0, none⟩), .string s] w fun e w' => e = .returned (.tuple #[vlV (mkV m (strO s)), .bool true]) ∧ MadeP w own k p room (mkM m (strO s)) w' := by
  have hmay : mayB (strO s) = true := by unfold mayB strO; simp [h0]
  have H1 : Hid (∀ w' : World, Calls Try.prog 41 #[.agg #[.int .u8 3, .int .i64 0, .string s, .slice none 0 0]] w' fun e w'' => e = .returned (.int .i64 (partC ⟨3, 0, s, none, 0, 0⟩ : Nat)) ∧ Below w'.heap.size w' w'') := Lib.hid fun w' => part_any ⟨3, 0, s, none, 0, 0⟩ w' hs (Nat.zero_le _)
  have hf' := Lib.hid hf
  rw [addB_room h.ok.fits hmay] at hf
  have H2 := Lib.hid fun w' (hb : Below w.heap.size w w') => room_any (h.below hb) ((partC ⟨3, 0, s, none, 0, 0⟩ : Nat) : Int)
  rw [show (partC ⟨3, 0, s, none, 0, 0⟩ : Nat) = part (strO s) by simp [partC, part, strO]] at H1 H2
  rw [hf] at H2
  obtain ⟨q1, q2⟩ := tolist_ne (s := s) (by omega)
  replace h := Lib.hid h
  replace fz := Lib.hid fz
  replace hmay := Lib.hid hmay
  clear hf
  generalize part (strO s) = P at H1 H2
  go_enter Try.func23, Try.ntmps23
  go_wp2_with (first | ((with_reducible refine (H1.out _).mono ?_); rintro e w2 ⟨rfl, hb2⟩; have HB2 := Lib.hid (below_step (by go_grown) hb2 : Below w.heap.size w w2); have hz2 : w.heap.size + 1 < w2.heap.size := (by have := hb2.size; simp at this; omega); have R2 := Lib.hid (((zero_box w).alloc _).of_block (hb2.block w.heap.size (by simp; omega))); have X2 := Lib.hid ((box_row1 w _ ⟨3, 0, s, none, 0, 0⟩).of_block (hb2.block (w.heap.size + 1) (by simp))); clear hb2) | ((with_reducible refine (H2.out _ HB2.out).mono ?_); rintro e w3 ⟨rfl, hb3⟩; have HB3 := Lib.hid (below_step HB2.out hb3); have hz3 : w.heap.size + 1 < w3.heap.size := (by have := hb3.size; omega); have R3 := R2.out.of_block (hb3.block w.heap.size (by omega)); have X3 := X2.out.of_block (hb3.block (w.heap.size + 1) (by omega)); have x0 : w3.cell? ⟨w.heap.size + 1, 0, none⟩ = some (.int .u8 3) := X3.cell (i := 0) (by omega); have x1 : w3.cell? ⟨w.heap.size + 1, 1, none⟩ = some (.int .i64 0) := X3.cell (i := 1) (by omega); have x2 : w3.cell? ⟨w.heap.size + 1, 2, none⟩ = some (.string s) := X3.cell (i := 2) (by omega); have x3 : w3.cell? ⟨w.heap.size + 1, 3, none⟩ = some (.slice none 0 0) := X3.cell (i := 3) (by omega); replace R3 := Lib.hid R3; clear X3; clear hb3 R2 HB2 X2))
  have hQ := hp_box h.out fz.out HB3.out (q := w.heap.size) (Nat.le_refl _) (by omega)
  refine (lay_any hQ.1 hQ.2 (Below.refl _ _) ⟨3, 0, s, none, 0, 0⟩ (strO s) 0 ⟨rfl, (fun _ => ⟨rfl, rfl⟩), .inl rfl⟩ (fun e => absurd rfl e) rfl rfl rfl hf'.out hmay.out hs (Nat.zero_le _)).mono ?_
  rintro e w4 ⟨rfl, hM⟩
  have R4 := R3.out.of_block (made_q hM (by omega))
  have hz4 : w.heap.size < w4.heap.size := R4.lt
  have r0 : w4.cell? ⟨w.heap.size, 0, none⟩ = some (.int .u8 0) := R4.cell (i := 0) (by omega)
  have r1 : w4.cell? ⟨w.heap.size, 1, none⟩ = some (.int .i64 0) := R4.cell (i := 1) (by omega)
  have r2 : w4.cell? ⟨w.heap.size, 2, none⟩ = some (.int .i64 0) := R4.cell (i := 2) (by omega)
  have r3 : w4.cell? ⟨w.heap.size, 3, none⟩ = some (.int .i64 0) := R4.cell (i := 3) (by omega)
  have fr : ∀ o, w4.frozen? ⟨w.heap.size, o, none⟩ = false := (fun o => R4.frozen o)
  replace hM := Lib.hid hM
  clear R4 R3 x0 x1 x2 x3 hQ
  go_wp2_with fail
  refine bodyPost_ret (v := .tuple #[vlV (mkV m (strO s)), .bool true]) (by simp [results, Try.results23, go_sem, r0, r1, r2, r3]) rfl ⟨rfl, ?_⟩
  exact made_box HB3.out (Nat.le_refl _) (by omega) hM.out (oth4 _ _ _ _)

set_option maxHeartbeats 1000000 in
theorem str_empty (p : Nat) (w : World) : Calls Try.prog 23 #[.pointer (some ⟨p, 0, none⟩), .string { data := #[] }] w fun e w' => e = .returned (.tuple #[vlV ⟨3, 0, 0, 0⟩, .bool true]) ∧ Below w.heap.size w w' := by
  go_enter Try.func23, Try.ntmps23
  go_wp2_with fail
  refine bodyPost_ret (v := .tuple #[vlV ⟨3, 0, 0, 0⟩, .bool true]) (by simp [results, Try.results23, go_sem]) rfl ⟨rfl, by go_grown⟩

end Go.Proofs.Ytfeeikajekemlaa
