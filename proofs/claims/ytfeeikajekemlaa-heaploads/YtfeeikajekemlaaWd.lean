/-
  Contract of heap's Get. Conditions: as said.
-/
import Derived.Test.YtfeeikajekemlaaWc
namespace Go.Proofs.Ytfeeikajekemlaa
open Go.RowKit
set_option linter.unusedVariables false
set_option maxRecDepth 100000

/-- What Get answers of an object. -/
def getV (o : Ob) (i : Int) : Vl := if inB i o.text.size = true then ⟨1, ((o.text.data.toList.getD i.toNat 0).toNat : Nat), 0, 0⟩ else if inB i o.vals.length = true then vl o.vals i.toNat else v0
def getT (o : Ob) (i : Int) : Nat := if inB i o.text.size = true then 0 else if inB i o.vals.length = true then 0 else 2

set_option maxHeartbeats 2000000 in
theorem get_no {w : World} {own : Owns} {k p room : Nat} {m : M} (h : Hp w own k p room m) (v : Vl) (i : Int) (hm : meansB m.L v = false)  :
    Calls Try.prog 20 #[.pointer (some ⟨p, 0, none⟩), vlV v, .int .i64 i] w fun e w' => e = .returned (.tuple #[vlV v0, .int .u8 3]) ∧ Below w.heap.size w w' := by
  have H := Lib.hid fun w' (hb : Below w.heap.size w w') => meant_any (h.below hb) v
  clear h
  obtain ⟨kd, n, re, im⟩ := v
  unfold MeanP at H
  rw [hm] at H
  clear hm
  go_enter Try.func20, Try.ntmps20
  go_wp2_with (first | ((with_reducible refine (H.out _ (by go_grown)).mono ?_); rintro e w2 ⟨⟨kk, oo, tt, aa, nn, cc⟩, rfl, hl, hb⟩; have L := Lib.hid hl; clear hl; have hB : Below w.heap.size w w2 := below_step (by go_grown) hb; have hz : w.heap.size + 1 < w2.heap.size := (by have := hb.size; simp at this; omega); have r0 : w2.cell? ⟨w.heap.size + 1, 0, none⟩ = some (.int .u8 0) := (by rw [(bcell hb).1 _ _ (by simp)]; simp [go_sem]); have r1 : w2.cell? ⟨w.heap.size + 1, 1, none⟩ = some (.int .i64 0) := (by rw [(bcell hb).1 _ _ (by simp)]; simp [go_sem]); have r2 : w2.cell? ⟨w.heap.size + 1, 2, none⟩ = some (.int .i64 0) := (by rw [(bcell hb).1 _ _ (by simp)]; simp [go_sem]); have r3 : w2.cell? ⟨w.heap.size + 1, 3, none⟩ = some (.int .i64 0) := (by rw [(bcell hb).1 _ _ (by simp)]; simp [go_sem]); have fr : ∀ o, w2.frozen? ⟨w.heap.size + 1, o, none⟩ = false := (fun o => by rw [(bcell hb).2 _ _ (by simp)]; simp [go_sem]); clear L) | ((with_reducible refine (within_any _ _ _).mono ?_); rintro e w3 ⟨rfl, rfl⟩))
  refine bodyPost_ret (v := .tuple #[vlV v0, .int .u8 3]) (by simp [results, Try.results20, go_sem, hz, r0, r1, r2, r3, v0]) rfl ⟨rfl, ?_⟩
  first | exact ((((hB.alloc hB.size _).setCell (by simp) _).setCell (by simp) _).setCell (by simp) _).setCell (by simp) _ | exact ((((hB.setCell (by simp) _).setCell (by simp) _).setCell (by simp) _).setCell (by simp) _).alloc (by simp; omega) _

set_option maxHeartbeats 2000000 in
theorem get_ix {w : World} {own : Owns} {k p room : Nat} {m : M} (h : Hp w own k p room m) (v : Vl) (i : Int) (hm : meansB m.L v = true) (hi1 : inB i (meant m.L v).text.size = false) (hi2 : inB i (meant m.L v).vals.length = false) :
    Calls Try.prog 20 #[.pointer (some ⟨p, 0, none⟩), vlV v, .int .i64 i] w fun e w' => e = .returned (.tuple #[vlV v0, .int .u8 2]) ∧ Below w.heap.size w w' := by
  have H := Lib.hid fun w' (hb : Below w.heap.size w w') => meant_any (h.below hb) v
  clear h
  obtain ⟨kd, n, re, im⟩ := v
  unfold MeanP at H
  rw [hm] at H
  clear hm
  go_enter Try.func20, Try.ntmps20
  go_wp2_with (first | ((with_reducible refine (H.out _ (by go_grown)).mono ?_); rintro e w2 ⟨⟨kk, oo, tt, aa, nn, cc⟩, rfl, hl, hb⟩; have L := Lib.hid hl; clear hl; have hB : Below w.heap.size w w2 := below_step (by go_grown) hb; have hz : w.heap.size + 1 < w2.heap.size := (by have := hb.size; simp at this; omega); have r0 : w2.cell? ⟨w.heap.size + 1, 0, none⟩ = some (.int .u8 0) := (by rw [(bcell hb).1 _ _ (by simp)]; simp [go_sem]); have r1 : w2.cell? ⟨w.heap.size + 1, 1, none⟩ = some (.int .i64 0) := (by rw [(bcell hb).1 _ _ (by simp)]; simp [go_sem]); have r2 : w2.cell? ⟨w.heap.size + 1, 2, none⟩ = some (.int .i64 0) := (by rw [(bcell hb).1 _ _ (by simp)]; simp [go_sem]); have r3 : w2.cell? ⟨w.heap.size + 1, 3, none⟩ = some (.int .i64 0) := (by rw [(bcell hb).1 _ _ (by simp)]; simp [go_sem]); have fr : ∀ o, w2.frozen? ⟨w.heap.size + 1, o, none⟩ = false := (fun o => by rw [(bcell hb).2 _ _ (by simp)]; simp [go_sem]); have g1 : inB i tt.size = false := (by have := L.out.text; simp only at this; rw [this]; exact hi1); have g2 : inB i nn = false := (by have := L.out.len; simp only at this; rw [← this]; exact hi2); clear L hi1 hi2) | ((with_reducible refine (within_any _ _ _).mono ?_); rintro e w3 ⟨rfl, rfl⟩))
  refine bodyPost_ret (v := .tuple #[vlV v0, .int .u8 2]) (by simp [results, Try.results20, go_sem, hz, r0, r1, r2, r3, v0]) rfl ⟨rfl, ?_⟩
  first | exact ((((hB.alloc hB.size _).setCell (by simp) _).setCell (by simp) _).setCell (by simp) _).setCell (by simp) _ | exact ((((hB.setCell (by simp) _).setCell (by simp) _).setCell (by simp) _).setCell (by simp) _).alloc (by simp; omega) _

set_option maxHeartbeats 2000000 in
theorem get_tx {w : World} {own : Owns} {k p room : Nat} {m : M} (h : Hp w own k p room m) (v : Vl) (i : Int) (hm : meansB m.L v = true) (hi1 : inB i (meant m.L v).text.size = true) :
    Calls Try.prog 20 #[.pointer (some ⟨p, 0, none⟩), vlV v, .int .i64 i] w fun e w' => e = .returned (.tuple #[vlV (getV (meant m.L v) i), .int .u8 0]) ∧ Below w.heap.size w w' := by
  have H := Lib.hid fun w' (hb : Below w.heap.size w w') => meant_any (h.below hb) v
  clear h
  obtain ⟨kd, n, re, im⟩ := v
  unfold MeanP at H
  rw [hm] at H
  clear hm
  have hv : getV (meant m.L ⟨kd, n, re, im⟩) i = ⟨1, (((meant m.L ⟨kd, n, re, im⟩).text.data.toList.getD i.toNat 0).toNat : Nat), 0, 0⟩ := by unfold getV; rw [if_pos hi1]
  obtain ⟨q, rfl, hq⟩ : ∃ q : Nat, i = q ∧ q < (meant m.L ⟨kd, n, re, im⟩).text.size := ⟨i.toNat, by simp [inB] at hi1; omega, by simp [inB] at hi1; omega⟩
  rw [hv]
  clear hv
  go_enter Try.func20, Try.ntmps20
  go_wp2_with (first | ((with_reducible refine (H.out _ (by go_grown)).mono ?_); rintro e w2 ⟨⟨kk, oo, tt, aa, nn, cc⟩, rfl, hl, hb⟩; have L := Lib.hid hl; clear hl; have hB : Below w.heap.size w w2 := below_step (by go_grown) hb; have hz : w.heap.size + 1 < w2.heap.size := (by have := hb.size; simp at this; omega); have r0 : w2.cell? ⟨w.heap.size + 1, 0, none⟩ = some (.int .u8 0) := (by rw [(bcell hb).1 _ _ (by simp)]; simp [go_sem]); have r1 : w2.cell? ⟨w.heap.size + 1, 1, none⟩ = some (.int .i64 0) := (by rw [(bcell hb).1 _ _ (by simp)]; simp [go_sem]); have r2 : w2.cell? ⟨w.heap.size + 1, 2, none⟩ = some (.int .i64 0) := (by rw [(bcell hb).1 _ _ (by simp)]; simp [go_sem]); have r3 : w2.cell? ⟨w.heap.size + 1, 3, none⟩ = some (.int .i64 0) := (by rw [(bcell hb).1 _ _ (by simp)]; simp [go_sem]); have fr : ∀ o, w2.frozen? ⟨w.heap.size + 1, o, none⟩ = false := (fun o => by rw [(bcell hb).2 _ _ (by simp)]; simp [go_sem]); have g1 : inB (q : Int) tt.size = true := (by have := L.out.text; simp only at this; rw [this]; exact hi1); have hq2 : q < tt.size := (by have := L.out.text; simp only at this; rw [this]; exact hq); clear hi1 hq) | ((with_reducible refine (within_any _ _ _).mono ?_); rintro e w3 ⟨rfl, rfl⟩))
  refine bodyPost_ret (v := .tuple #[.agg #[.int .u8 1, .int .i64 (wrap64 ((tt[q].toNat : Nat) : Int)), .int .i64 0, .int .i64 0], .int .u8 0]) (by simp [results, Try.results20, go_sem, hz, r0, r1, r2, r3]) rfl ⟨?_, ?_⟩
  · have := L.out.text
    simp only at this
    have hb : tt[q].toNat < 256 := tt[q].toNat_lt
    have e1 : wrap64 ((tt[q].toNat : Nat) : Int) = (tt[q].toNat : Nat) := by unfold wrap64; omega
    have e2 : tt.data.toList.getD ((q : Int)).toNat 0 = tt[q] := by rw [Int.toNat_natCast, List.getD_eq_getElem?_getD, get_list tt q hq2]; rfl
    rw [← this, e1, e2]; rfl
  · first | exact ((((hB.alloc hB.size _).setCell (by simp) _).setCell (by simp) _).setCell (by simp) _).setCell (by simp) _ | exact ((((hB.setCell (by simp) _).setCell (by simp) _).setCell (by simp) _).setCell (by simp) _).alloc (by simp; omega) _

set_option maxHeartbeats 2000000 in
theorem get_vl {w : World} {own : Owns} {k p room : Nat} {m : M} (h : Hp w own k p room m) (v : Vl) (i : Int) (hm : meansB m.L v = true) (hi1 : inB i (meant m.L v).text.size = false) (hi2 : inB i (meant m.L v).vals.length = true) :
    Calls Try.prog 20 #[.pointer (some ⟨p, 0, none⟩), vlV v, .int .i64 i] w fun e w' => e = .returned (.tuple #[vlV (getV (meant m.L v) i), .int .u8 0]) ∧ Below w.heap.size w w' := by
  have H := Lib.hid fun w' (hb : Below w.heap.size w w') => meant_any (h.below hb) v
  clear h
  obtain ⟨kd, n, re, im⟩ := v
  unfold MeanP at H
  rw [hm] at H
  clear hm
  have hv : getV (meant m.L ⟨kd, n, re, im⟩) i = vl (meant m.L ⟨kd, n, re, im⟩).vals i.toNat := by unfold getV; rw [if_neg (by rw [hi1]; simp), if_pos hi2]
  obtain ⟨q, rfl, hq⟩ : ∃ q : Nat, i = q ∧ q < (meant m.L ⟨kd, n, re, im⟩).vals.length := ⟨i.toNat, by simp [inB] at hi2; omega, by simp [inB] at hi2; omega⟩
  rw [hv]
  obtain ⟨⟨ek, en, er, ei⟩, hE⟩ : ∃ x, vl (meant m.L ⟨kd, n, re, im⟩).vals ((q : Int)).toNat = x := ⟨_, rfl⟩
  rw [hE]
  have HE := Lib.hid hE
  clear hv hE
  go_enter Try.func20, Try.ntmps20
  go_wp2_with (first | ((with_reducible refine (H.out _ (by go_grown)).mono ?_); rintro e w2 ⟨⟨kk, oo, tt, aa, nn, cc⟩, rfl, hl, hb⟩; have L := Lib.hid hl; clear hl; have hB : Below w.heap.size w w2 := below_step (by go_grown) hb; have hz : w.heap.size + 1 < w2.heap.size := (by have := hb.size; simp at this; omega); have r0 : w2.cell? ⟨w.heap.size + 1, 0, none⟩ = some (.int .u8 0) := (by rw [(bcell hb).1 _ _ (by simp)]; simp [go_sem]); have r1 : w2.cell? ⟨w.heap.size + 1, 1, none⟩ = some (.int .i64 0) := (by rw [(bcell hb).1 _ _ (by simp)]; simp [go_sem]); have r2 : w2.cell? ⟨w.heap.size + 1, 2, none⟩ = some (.int .i64 0) := (by rw [(bcell hb).1 _ _ (by simp)]; simp [go_sem]); have r3 : w2.cell? ⟨w.heap.size + 1, 3, none⟩ = some (.int .i64 0) := (by rw [(bcell hb).1 _ _ (by simp)]; simp [go_sem]); have fr : ∀ o, w2.frozen? ⟨w.heap.size + 1, o, none⟩ = false := (fun o => by rw [(bcell hb).2 _ _ (by simp)]; simp [go_sem]); have g1 : inB (q : Int) tt.size = false := (by have := L.out.text; simp only at this; rw [this]; exact hi1); have g2 : inB (q : Int) nn = true := (by have := L.out.len; simp only at this; rw [← this]; exact hi2); have hq2 : q < nn := (by have := L.out.len; simp only at this; omega); obtain ⟨eb, eo, hea, -, hat⟩ := L.out.row q hq; simp only at hea; subst hea; have hat2 := hat.of_block (hb.block _ hat.lt); rw [show q = ((q : Int)).toNat by simp, HE.out] at hat2; simp only [Int.toNat_natCast] at hat2; have e0 := hat2.c0; have e1 := hat2.c1; have e2 := hat2.c2; have e3 := hat2.c3; simp only at e0 e1 e2 e3; have hel : eb < w2.heap.size := block_lt_of_cell e0; clear hi1 hi2 hq L hat hat2) | ((with_reducible refine (within_any _ _ _).mono ?_); rintro e w3 ⟨rfl, rfl⟩))
  refine bodyPost_ret (v := .tuple #[.agg #[.int .u8 ek, .int .i64 en, .int .i64 er, .int .i64 ei], .int .u8 0]) (by simp [results, Try.results20, go_sem, hz, r0, r1, r2, r3]) rfl ⟨rfl, ?_⟩
  first | exact ((((hB.alloc hB.size _).setCell (by simp) _).setCell (by simp) _).setCell (by simp) _).setCell (by simp) _ | exact ((((hB.setCell (by simp) _).setCell (by simp) _).setCell (by simp) _).setCell (by simp) _).alloc (by simp; omega) _

end Go.Proofs.Ytfeeikajekemlaa
