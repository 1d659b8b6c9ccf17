/-
  The document's Get over rows of objects. Conditions: at most 65536 objects; texts and lists of at most 100000.
-/
import Derived.Test.YtfeeikajekemlaaDc
import Derived.Test.YtfeeikajekemlaaWc
namespace Go.Proofs.Ytfeeikajekemlaa
open Go.RowKit
set_option linter.unusedVariables false
set_option linter.unusedSimpArgs false
set_option maxRecDepth 100000

def dgV (L : List Ob) (v : Vl) (i : Int) : Vl := if szT L v = 0 ∧ inB i (szN L v) = true then (if txB L v = true then ⟨1, (((txS L v).data.toList.getD i.toNat 0).toNat : Nat), 0, 0⟩ else vl (ob L (at_ v)).vals i.toNat) else v0
def dgT (L : List Ob) (v : Vl) (i : Int) : Nat := if szT L v = 0 then (if inB i (szN L v) = true then 0 else 2) else 3

set_option maxHeartbeats 4000000 in
theorem getd_1 (room cells : Int) {P : Nat → Prop} {w : World} {a : Option Addr} {N c : Nat} {L : List Ob} (h : RL P w a N c L) (hN : N ≤ 65536) (kd : Nat) (n re im : Int) (hsz : szN L ⟨kd, n, re, im⟩ = 0) (hst : szT L ⟨kd, n, re, im⟩ = 3) (ix : Int) :
    Calls Try.prog 34 #[.agg #[.int .i64 room, .int .i64 cells, .slice a N c], .agg #[.int .u8 kd, .int .i64 n, .int .i64 re, .int .i64 im], .int .i64 ix] w fun e w' => e = .returned (.tuple #[vlV v0, .int .i64 3]) ∧ Below w.heap.size w w' := by
  have Hs : Hid (∀ w' : World, Below w.heap.size w w' → Calls Try.prog 33 #[.agg #[.int .i64 room, .int .i64 cells, .slice a N c], .agg #[.int .u8 kd, .int .i64 n, .int .i64 re, .int .i64 im]] w' fun e w'' => e = .returned (.tuple #[.int .i64 0, .int .i64 3]) ∧ Below w'.heap.size w' w'') := Lib.hid fun w' hb => by
    have := sized_any room cells (h.kp (kp_below hb)) hN ⟨kd, n, re, im⟩
    rw [hsz, hst] at this
    exact this
  clear h hsz hst
  go_enter Try.func34, Try.ntmps34
  go_wp2_with (first | ((with_reducible refine (Hs.out _ (by go_grown)).mono ?_); rintro e w2 ⟨rfl, hb⟩; have hBw2 : Below w.heap.size w w2 := below_step (by go_grown) hb; have hzz : w.heap.size + 1 + 1 < w2.heap.size := (by have := hb.size; simp at this; omega); have z0 : w2.cell? ⟨w.heap.size, 0, none⟩ = some (.int .i64 room) := (by rw [(bcell hb).1 _ _ (by simp; try omega)]; simp [go_sem]); have z1 : w2.cell? ⟨w.heap.size, 1, none⟩ = some (.int .i64 cells) := (by rw [(bcell hb).1 _ _ (by simp; try omega)]; simp [go_sem]); have z2 : w2.cell? ⟨w.heap.size, 2, none⟩ = some (.slice a N c) := (by rw [(bcell hb).1 _ _ (by simp; try omega)]; simp [go_sem]); have z3 : w2.cell? ⟨w.heap.size + 1, 0, none⟩ = some (.int .u8 kd) := (by rw [(bcell hb).1 _ _ (by simp; try omega)]; simp [go_sem]); have z4 : w2.cell? ⟨w.heap.size + 1, 1, none⟩ = some (.int .i64 n) := (by rw [(bcell hb).1 _ _ (by simp; try omega)]; simp [go_sem]); have z5 : w2.cell? ⟨w.heap.size + 1, 2, none⟩ = some (.int .i64 re) := (by rw [(bcell hb).1 _ _ (by simp; try omega)]; simp [go_sem]); have z6 : w2.cell? ⟨w.heap.size + 1, 3, none⟩ = some (.int .i64 im) := (by rw [(bcell hb).1 _ _ (by simp; try omega)]; simp [go_sem]); have z7 : w2.cell? ⟨w.heap.size + 1 + 1, 0, none⟩ = some (.int .u8 0) := (by rw [(bcell hb).1 _ _ (by simp; try omega)]; simp [go_sem]); have z8 : w2.cell? ⟨w.heap.size + 1 + 1, 1, none⟩ = some (.int .i64 0) := (by rw [(bcell hb).1 _ _ (by simp; try omega)]; simp [go_sem]); have z9 : w2.cell? ⟨w.heap.size + 1 + 1, 2, none⟩ = some (.int .i64 0) := (by rw [(bcell hb).1 _ _ (by simp; try omega)]; simp [go_sem]); have z10 : w2.cell? ⟨w.heap.size + 1 + 1, 3, none⟩ = some (.int .i64 0) := (by rw [(bcell hb).1 _ _ (by simp; try omega)]; simp [go_sem]); have zf : ∀ q, w2.frozen? ⟨w.heap.size + 1 + 1, q, none⟩ = false := (fun q => by rw [(bcell hb).2 _ _ (by simp)]; simp [go_sem]); clear hb))
  refine bodyPost_ret (v := .tuple #[vlV v0, .int .i64 3]) (by simp [results, Try.results34, go_sem, hzz, z7, z8, z9, z10, v0]) rfl ⟨rfl, ?_⟩
  exact (((hBw2.setCell (by simp; omega) _).setCell (by simp; omega) _).setCell (by simp; omega) _).setCell (by simp; omega) _

set_option maxHeartbeats 4000000 in
theorem getd_2a (room cells : Int) {P : Nat → Prop} {w : World} {a : Option Addr} {N c : Nat} {L : List Ob} (h : RL P w a N c L) (hN : N ≤ 65536) (kd : Nat) (n re im : Int) (S : Nat) (hsz : szN L ⟨kd, n, re, im⟩ = S) (hst : szT L ⟨kd, n, re, im⟩ = 0) (ix : Int) (h0 : ix < 0) :
    Calls Try.prog 34 #[.agg #[.int .i64 room, .int .i64 cells, .slice a N c], .agg #[.int .u8 kd, .int .i64 n, .int .i64 re, .int .i64 im], .int .i64 ix] w fun e w' => e = .returned (.tuple #[vlV v0, .int .i64 2]) ∧ Below w.heap.size w w' := by
  have Hs : Hid (∀ w' : World, Below w.heap.size w w' → Calls Try.prog 33 #[.agg #[.int .i64 room, .int .i64 cells, .slice a N c], .agg #[.int .u8 kd, .int .i64 n, .int .i64 re, .int .i64 im]] w' fun e w'' => e = .returned (.tuple #[.int .i64 (S : Nat), .int .i64 0]) ∧ Below w'.heap.size w' w'') := Lib.hid fun w' hb => by
    have := sized_any room cells (h.kp (kp_below hb)) hN ⟨kd, n, re, im⟩
    rw [hsz, hst] at this
    exact this
  clear h hsz hst
  go_enter Try.func34, Try.ntmps34
  go_wp2_with (first | ((with_reducible refine (Hs.out _ (by go_grown)).mono ?_); rintro e w2 ⟨rfl, hb⟩; have hBw2 : Below w.heap.size w w2 := below_step (by go_grown) hb; have hzz : w.heap.size + 1 + 1 < w2.heap.size := (by have := hb.size; simp at this; omega); have z0 : w2.cell? ⟨w.heap.size, 0, none⟩ = some (.int .i64 room) := (by rw [(bcell hb).1 _ _ (by simp; try omega)]; simp [go_sem]); have z1 : w2.cell? ⟨w.heap.size, 1, none⟩ = some (.int .i64 cells) := (by rw [(bcell hb).1 _ _ (by simp; try omega)]; simp [go_sem]); have z2 : w2.cell? ⟨w.heap.size, 2, none⟩ = some (.slice a N c) := (by rw [(bcell hb).1 _ _ (by simp; try omega)]; simp [go_sem]); have z3 : w2.cell? ⟨w.heap.size + 1, 0, none⟩ = some (.int .u8 kd) := (by rw [(bcell hb).1 _ _ (by simp; try omega)]; simp [go_sem]); have z4 : w2.cell? ⟨w.heap.size + 1, 1, none⟩ = some (.int .i64 n) := (by rw [(bcell hb).1 _ _ (by simp; try omega)]; simp [go_sem]); have z5 : w2.cell? ⟨w.heap.size + 1, 2, none⟩ = some (.int .i64 re) := (by rw [(bcell hb).1 _ _ (by simp; try omega)]; simp [go_sem]); have z6 : w2.cell? ⟨w.heap.size + 1, 3, none⟩ = some (.int .i64 im) := (by rw [(bcell hb).1 _ _ (by simp; try omega)]; simp [go_sem]); have z7 : w2.cell? ⟨w.heap.size + 1 + 1, 0, none⟩ = some (.int .u8 0) := (by rw [(bcell hb).1 _ _ (by simp; try omega)]; simp [go_sem]); have z8 : w2.cell? ⟨w.heap.size + 1 + 1, 1, none⟩ = some (.int .i64 0) := (by rw [(bcell hb).1 _ _ (by simp; try omega)]; simp [go_sem]); have z9 : w2.cell? ⟨w.heap.size + 1 + 1, 2, none⟩ = some (.int .i64 0) := (by rw [(bcell hb).1 _ _ (by simp; try omega)]; simp [go_sem]); have z10 : w2.cell? ⟨w.heap.size + 1 + 1, 3, none⟩ = some (.int .i64 0) := (by rw [(bcell hb).1 _ _ (by simp; try omega)]; simp [go_sem]); have zf : ∀ q, w2.frozen? ⟨w.heap.size + 1 + 1, q, none⟩ = false := (fun q => by rw [(bcell hb).2 _ _ (by simp)]; simp [go_sem]); clear hb))
  refine bodyPost_ret (v := .tuple #[vlV v0, .int .i64 2]) (by simp [results, Try.results34, go_sem, hzz, z7, z8, z9, z10, v0]) rfl ⟨rfl, ?_⟩
  exact (((hBw2.setCell (by simp; omega) _).setCell (by simp; omega) _).setCell (by simp; omega) _).setCell (by simp; omega) _

set_option maxHeartbeats 4000000 in
theorem getd_2b (room cells : Int) {P : Nat → Prop} {w : World} {a : Option Addr} {N c : Nat} {L : List Ob} (h : RL P w a N c L) (hN : N ≤ 65536) (kd : Nat) (n re im : Int) (S : Nat) (hsz : szN L ⟨kd, n, re, im⟩ = S) (hst : szT L ⟨kd, n, re, im⟩ = 0) (ix : Int) (h0 : ¬ ix < 0) (h1 : (S : Int) ≤ ix) :
    Calls Try.prog 34 #[.agg #[.int .i64 room, .int .i64 cells, .slice a N c], .agg #[.int .u8 kd, .int .i64 n, .int .i64 re, .int .i64 im], .int .i64 ix] w fun e w' => e = .returned (.tuple #[vlV v0, .int .i64 2]) ∧ Below w.heap.size w w' := by
  have Hs : Hid (∀ w' : World, Below w.heap.size w w' → Calls Try.prog 33 #[.agg #[.int .i64 room, .int .i64 cells, .slice a N c], .agg #[.int .u8 kd, .int .i64 n, .int .i64 re, .int .i64 im]] w' fun e w'' => e = .returned (.tuple #[.int .i64 (S : Nat), .int .i64 0]) ∧ Below w'.heap.size w' w'') := Lib.hid fun w' hb => by
    have := sized_any room cells (h.kp (kp_below hb)) hN ⟨kd, n, re, im⟩
    rw [hsz, hst] at this
    exact this
  clear h hsz hst
  go_enter Try.func34, Try.ntmps34
  go_wp2_with (first | ((with_reducible refine (Hs.out _ (by go_grown)).mono ?_); rintro e w2 ⟨rfl, hb⟩; have hBw2 : Below w.heap.size w w2 := below_step (by go_grown) hb; have hzz : w.heap.size + 1 + 1 < w2.heap.size := (by have := hb.size; simp at this; omega); have z0 : w2.cell? ⟨w.heap.size, 0, none⟩ = some (.int .i64 room) := (by rw [(bcell hb).1 _ _ (by simp; try omega)]; simp [go_sem]); have z1 : w2.cell? ⟨w.heap.size, 1, none⟩ = some (.int .i64 cells) := (by rw [(bcell hb).1 _ _ (by simp; try omega)]; simp [go_sem]); have z2 : w2.cell? ⟨w.heap.size, 2, none⟩ = some (.slice a N c) := (by rw [(bcell hb).1 _ _ (by simp; try omega)]; simp [go_sem]); have z3 : w2.cell? ⟨w.heap.size + 1, 0, none⟩ = some (.int .u8 kd) := (by rw [(bcell hb).1 _ _ (by simp; try omega)]; simp [go_sem]); have z4 : w2.cell? ⟨w.heap.size + 1, 1, none⟩ = some (.int .i64 n) := (by rw [(bcell hb).1 _ _ (by simp; try omega)]; simp [go_sem]); have z5 : w2.cell? ⟨w.heap.size + 1, 2, none⟩ = some (.int .i64 re) := (by rw [(bcell hb).1 _ _ (by simp; try omega)]; simp [go_sem]); have z6 : w2.cell? ⟨w.heap.size + 1, 3, none⟩ = some (.int .i64 im) := (by rw [(bcell hb).1 _ _ (by simp; try omega)]; simp [go_sem]); have z7 : w2.cell? ⟨w.heap.size + 1 + 1, 0, none⟩ = some (.int .u8 0) := (by rw [(bcell hb).1 _ _ (by simp; try omega)]; simp [go_sem]); have z8 : w2.cell? ⟨w.heap.size + 1 + 1, 1, none⟩ = some (.int .i64 0) := (by rw [(bcell hb).1 _ _ (by simp; try omega)]; simp [go_sem]); have z9 : w2.cell? ⟨w.heap.size + 1 + 1, 2, none⟩ = some (.int .i64 0) := (by rw [(bcell hb).1 _ _ (by simp; try omega)]; simp [go_sem]); have z10 : w2.cell? ⟨w.heap.size + 1 + 1, 3, none⟩ = some (.int .i64 0) := (by rw [(bcell hb).1 _ _ (by simp; try omega)]; simp [go_sem]); have zf : ∀ q, w2.frozen? ⟨w.heap.size + 1 + 1, q, none⟩ = false := (fun q => by rw [(bcell hb).2 _ _ (by simp)]; simp [go_sem]); clear hb))
  refine bodyPost_ret (v := .tuple #[vlV v0, .int .i64 2]) (by simp [results, Try.results34, go_sem, hzz, z7, z8, z9, z10, v0]) rfl ⟨rfl, ?_⟩
  exact (((hBw2.setCell (by simp; omega) _).setCell (by simp; omega) _).setCell (by simp; omega) _).setCell (by simp; omega) _

set_option maxHeartbeats 4000000 in
theorem getd_3 (room cells : Int) {P : Nat → Prop} {w : World} {a : Option Addr} {N c : Nat} {L : List Ob} (h : RL P w a N c L) (hN : N ≤ 65536) (kd : Nat) (n re im : Int) (s : ByteArray) (q : Nat) (hq : q < s.size) (hs : txS L ⟨kd, n, re, im⟩ = s) (htx : txB L ⟨kd, n, re, im⟩ = true) (hsz : szN L ⟨kd, n, re, im⟩ = s.size) (hst : szT L ⟨kd, n, re, im⟩ = 0) :
    Calls Try.prog 34 #[.agg #[.int .i64 room, .int .i64 cells, .slice a N c], .agg #[.int .u8 kd, .int .i64 n, .int .i64 re, .int .i64 im], .int .i64 (q : Int)] w fun e w' => e = .returned (.tuple #[vlV ⟨1, ((s.data.toList.getD q 0).toNat : Nat), 0, 0⟩, .int .i64 0]) ∧ Below w.heap.size w w' := by
  have Hs : Hid (∀ w' : World, Below w.heap.size w w' → Calls Try.prog 33 #[.agg #[.int .i64 room, .int .i64 cells, .slice a N c], .agg #[.int .u8 kd, .int .i64 n, .int .i64 re, .int .i64 im]] w' fun e w'' => e = .returned (.tuple #[.int .i64 (s.size : Nat), .int .i64 0]) ∧ Below w'.heap.size w' w'') := Lib.hid fun w' hb => by
    have := sized_any room cells (h.kp (kp_below hb)) hN ⟨kd, n, re, im⟩
    rw [hsz, hst] at this
    exact this
  have Ht : Hid (∀ w' : World, Below w.heap.size w w' → Calls Try.prog 32 #[.agg #[.int .i64 room, .int .i64 cells, .slice a N c], .agg #[.int .u8 kd, .int .i64 n, .int .i64 re, .int .i64 im]] w' fun e w'' => e = .returned (.tuple #[.string s, .bool true]) ∧ Below w'.heap.size w' w'') := Lib.hid fun w' hb => by
    have := textd_any room cells (h.kp (kp_below hb)) hN ⟨kd, n, re, im⟩
    rw [htx, hs] at this
    exact this
  have hget : s.data.toList.getD q 0 = s[q] := by rw [List.getD_eq_getElem?_getD, get_list s q hq]; rfl
  have hwr : wrap64 ((s[q].toNat : Nat) : Int) = (s[q].toNat : Nat) := by have := s[q].toNat_lt; unfold wrap64; omega
  replace hget := Lib.hid hget
  replace hwr := Lib.hid hwr
  clear h hsz hst hs htx
  go_enter Try.func34, Try.ntmps34
  go_wp2_with (first | ((with_reducible refine (Hs.out _ (by go_grown)).mono ?_); rintro e w2 ⟨rfl, hb⟩; have hBw2 : Below w.heap.size w w2 := below_step (by go_grown) hb; have hzz : w.heap.size + 1 + 1 < w2.heap.size := (by have := hb.size; simp at this; omega); have z0 : w2.cell? ⟨w.heap.size, 0, none⟩ = some (.int .i64 room) := (by rw [(bcell hb).1 _ _ (by simp; try omega)]; simp [go_sem]); have z1 : w2.cell? ⟨w.heap.size, 1, none⟩ = some (.int .i64 cells) := (by rw [(bcell hb).1 _ _ (by simp; try omega)]; simp [go_sem]); have z2 : w2.cell? ⟨w.heap.size, 2, none⟩ = some (.slice a N c) := (by rw [(bcell hb).1 _ _ (by simp; try omega)]; simp [go_sem]); have z3 : w2.cell? ⟨w.heap.size + 1, 0, none⟩ = some (.int .u8 kd) := (by rw [(bcell hb).1 _ _ (by simp; try omega)]; simp [go_sem]); have z4 : w2.cell? ⟨w.heap.size + 1, 1, none⟩ = some (.int .i64 n) := (by rw [(bcell hb).1 _ _ (by simp; try omega)]; simp [go_sem]); have z5 : w2.cell? ⟨w.heap.size + 1, 2, none⟩ = some (.int .i64 re) := (by rw [(bcell hb).1 _ _ (by simp; try omega)]; simp [go_sem]); have z6 : w2.cell? ⟨w.heap.size + 1, 3, none⟩ = some (.int .i64 im) := (by rw [(bcell hb).1 _ _ (by simp; try omega)]; simp [go_sem]); have z7 : w2.cell? ⟨w.heap.size + 1 + 1, 0, none⟩ = some (.int .u8 0) := (by rw [(bcell hb).1 _ _ (by simp; try omega)]; simp [go_sem]); have z8 : w2.cell? ⟨w.heap.size + 1 + 1, 1, none⟩ = some (.int .i64 0) := (by rw [(bcell hb).1 _ _ (by simp; try omega)]; simp [go_sem]); have z9 : w2.cell? ⟨w.heap.size + 1 + 1, 2, none⟩ = some (.int .i64 0) := (by rw [(bcell hb).1 _ _ (by simp; try omega)]; simp [go_sem]); have z10 : w2.cell? ⟨w.heap.size + 1 + 1, 3, none⟩ = some (.int .i64 0) := (by rw [(bcell hb).1 _ _ (by simp; try omega)]; simp [go_sem]); have zf : ∀ q, w2.frozen? ⟨w.heap.size + 1 + 1, q, none⟩ = false := (fun q => by rw [(bcell hb).2 _ _ (by simp)]; simp [go_sem]); clear hb) | ((with_reducible refine (Ht.out _ hBw2).mono ?_); rintro e w3 ⟨rfl, hb3⟩; replace zf := (fun q => froz_carry (o := 0) hb3 z7 (zf q) : ∀ q, w3.frozen? ⟨w.heap.size + 1 + 1, q, none⟩ = false); replace z0 := cell_carry hb3 z0; replace z1 := cell_carry hb3 z1; replace z2 := cell_carry hb3 z2; replace z3 := cell_carry hb3 z3; replace z4 := cell_carry hb3 z4; replace z5 := cell_carry hb3 z5; replace z6 := cell_carry hb3 z6; replace z7 := cell_carry hb3 z7; replace z8 := cell_carry hb3 z8; replace z9 := cell_carry hb3 z9; replace z10 := cell_carry hb3 z10; replace hzz : w.heap.size + 1 + 1 < w3.heap.size := (by have := hb3.size; omega); replace hBw2 := below_step hBw2 hb3; clear hb3))
  refine bodyPost_ret (v := .tuple #[.agg #[.int .u8 1, .int .i64 (wrap64 ((s[q].toNat : Nat) : Int)), .int .i64 0, .int .i64 0], .int .i64 0]) (by simp [results, Try.results34, go_sem, hzz, z7, z8, z9, z10]) rfl ⟨?_, ?_⟩
  · rw [hwr.out, hget.out]; rfl
  · exact (((hBw2.setCell (by simp; omega) _).setCell (by simp; omega) _).setCell (by simp; omega) _).setCell (by simp; omega) _

set_option maxHeartbeats 4000000 in
theorem getd_4 (room cells : Int) {P : Nat → Prop} {w : World} {a : Option Addr} {N c : Nat} {L : List Ob} (h : RL P w a N c L) (hN : N ≤ 65536) (kd : Nat) ( re im : Int) (i : Nat) (hi : i < N) (s : ByteArray) (q : Nat) (hq : q < (ob L i).vals.length) (hs : txS L ⟨kd, (i : Int) + 1, re, im⟩ = s) (htx : txB L ⟨kd, (i : Int) + 1, re, im⟩ = false) (hsz : szN L ⟨kd, (i : Int) + 1, re, im⟩ = (ob L i).vals.length) (hst : szT L ⟨kd, (i : Int) + 1, re, im⟩ = 0) :
    Calls Try.prog 34 #[.agg #[.int .i64 room, .int .i64 cells, .slice a N c], .agg #[.int .u8 kd, .int .i64 ((i : Int) + 1), .int .i64 re, .int .i64 im], .int .i64 (q : Int)] w fun e w' => e = .returned (.tuple #[vlV (vl (ob L i).vals q), .int .i64 0]) ∧ Below w.heap.size w w' := by
  have Hs : Hid (∀ w' : World, Below w.heap.size w w' → Calls Try.prog 33 #[.agg #[.int .i64 room, .int .i64 cells, .slice a N c], .agg #[.int .u8 kd, .int .i64 ((i : Int) + 1), .int .i64 re, .int .i64 im]] w' fun e w'' => e = .returned (.tuple #[.int .i64 ((ob L i).vals.length : Nat), .int .i64 0]) ∧ Below w'.heap.size w' w'') := Lib.hid fun w' hb => by
    have := sized_any room cells (h.kp (kp_below hb)) hN ⟨kd, ((i : Int) + 1), re, im⟩
    rw [hsz, hst] at this
    exact this
  have Ht : Hid (∀ w' : World, Below w.heap.size w w' → Calls Try.prog 32 #[.agg #[.int .i64 room, .int .i64 cells, .slice a N c], .agg #[.int .u8 kd, .int .i64 ((i : Int) + 1), .int .i64 re, .int .i64 im]] w' fun e w'' => e = .returned (.tuple #[.string s, .bool false]) ∧ Below w'.heap.size w' w'') := Lib.hid fun w' hb => by
    have := textd_any room cells (h.kp (kp_below hb)) hN ⟨kd, ((i : Int) + 1), re, im⟩
    rw [htx, hs] at this
    exact this
  clear hsz hst hs htx
  obtain ⟨cs, h1, h2, h3, h4, h5⟩ := h
  obtain ⟨b, o, rfl, _, hat⟩ := h4 i (by omega)
  have hk := h5 i hi
  have ht := hat.c3
  obtain ⟨b2, o2, ha2, _, hat2⟩ := hk.row q hq
  have hlen := hk.len
  rw [ha2] at ht
  rw [hlen] at Hs hq
  obtain ⟨⟨ek, en, er, ei⟩, hE⟩ : ∃ x, vl (ob L i).vals q = x := ⟨_, rfl⟩
  rw [hE] at hat2 ⊢
  obtain ⟨e0, e1, e2, e3⟩ := hat2
  simp only at e0 e1 e2 e3
  replace ht := Lib.hid ht
  replace e0 := Lib.hid e0
  replace e1 := Lib.hid e1
  replace e2 := Lib.hid e2
  replace e3 := Lib.hid e3
  generalize (oc cs i).n = M at ht Hs hq
  generalize (oc cs i).c = Mc at ht
  clear hat h1 h2 h3 h4 h5 hk hlen ha2 hE
  go_enter Try.func34, Try.ntmps34
  go_wp2_with (first | ((with_reducible refine (Hs.out _ (by go_grown)).mono ?_); rintro e w2 ⟨rfl, hb⟩; have hBw2 : Below w.heap.size w w2 := below_step (by go_grown) hb; have hzz : w.heap.size + 1 + 1 < w2.heap.size := (by have := hb.size; simp at this; omega); have z0 : w2.cell? ⟨w.heap.size, 0, none⟩ = some (.int .i64 room) := (by rw [(bcell hb).1 _ _ (by simp; try omega)]; simp [go_sem]); have z1 : w2.cell? ⟨w.heap.size, 1, none⟩ = some (.int .i64 cells) := (by rw [(bcell hb).1 _ _ (by simp; try omega)]; simp [go_sem]); have z2 : w2.cell? ⟨w.heap.size, 2, none⟩ = some (.slice (some ⟨b, o, none⟩) N c) := (by rw [(bcell hb).1 _ _ (by simp; try omega)]; simp [go_sem]); have z3 : w2.cell? ⟨w.heap.size + 1, 0, none⟩ = some (.int .u8 kd) := (by rw [(bcell hb).1 _ _ (by simp; try omega)]; simp [go_sem]); have z4 : w2.cell? ⟨w.heap.size + 1, 1, none⟩ = some (.int .i64 ((i : Int) + 1)) := (by rw [(bcell hb).1 _ _ (by simp; try omega)]; simp [go_sem]); have z5 : w2.cell? ⟨w.heap.size + 1, 2, none⟩ = some (.int .i64 re) := (by rw [(bcell hb).1 _ _ (by simp; try omega)]; simp [go_sem]); have z6 : w2.cell? ⟨w.heap.size + 1, 3, none⟩ = some (.int .i64 im) := (by rw [(bcell hb).1 _ _ (by simp; try omega)]; simp [go_sem]); have z7 : w2.cell? ⟨w.heap.size + 1 + 1, 0, none⟩ = some (.int .u8 0) := (by rw [(bcell hb).1 _ _ (by simp; try omega)]; simp [go_sem]); have z8 : w2.cell? ⟨w.heap.size + 1 + 1, 1, none⟩ = some (.int .i64 0) := (by rw [(bcell hb).1 _ _ (by simp; try omega)]; simp [go_sem]); have z9 : w2.cell? ⟨w.heap.size + 1 + 1, 2, none⟩ = some (.int .i64 0) := (by rw [(bcell hb).1 _ _ (by simp; try omega)]; simp [go_sem]); have z10 : w2.cell? ⟨w.heap.size + 1 + 1, 3, none⟩ = some (.int .i64 0) := (by rw [(bcell hb).1 _ _ (by simp; try omega)]; simp [go_sem]); have zf : ∀ q, w2.frozen? ⟨w.heap.size + 1 + 1, q, none⟩ = false := (fun q => by rw [(bcell hb).2 _ _ (by simp)]; simp [go_sem]); clear hb) | ((with_reducible refine (Ht.out _ hBw2).mono ?_); rintro e w3 ⟨rfl, hb3⟩; replace zf := (fun q => froz_carry (o := 0) hb3 z7 (zf q) : ∀ q, w3.frozen? ⟨w.heap.size + 1 + 1, q, none⟩ = false); replace z0 := cell_carry hb3 z0; replace z1 := cell_carry hb3 z1; replace z2 := cell_carry hb3 z2; replace z3 := cell_carry hb3 z3; replace z4 := cell_carry hb3 z4; replace z5 := cell_carry hb3 z5; replace z6 := cell_carry hb3 z6; replace z7 := cell_carry hb3 z7; replace z8 := cell_carry hb3 z8; replace z9 := cell_carry hb3 z9; replace z10 := cell_carry hb3 z10; replace hzz : w.heap.size + 1 + 1 < w3.heap.size := (by have := hb3.size; omega); have hB3 := below_step hBw2 hb3; have ht2 := cell_carry hB3 ht.out; have y0 := cell_carry hB3 e0.out; have y1 := cell_carry hB3 e1.out; have y2 := cell_carry hB3 e2.out; have y3 := cell_carry hB3 e3.out; replace hBw2 := below_step hBw2 hb3; clear hb3  hB3))
  refine bodyPost_ret (v := .tuple #[.agg #[.int .u8 ek, .int .i64 en, .int .i64 er, .int .i64 ei], .int .i64 0]) (by simp [results, Try.results34, go_sem, hzz, z7, z8, z9, z10]) rfl ⟨rfl, ?_⟩
  exact (((hBw2.setCell (by simp; omega) _).setCell (by simp; omega) _).setCell (by simp; omega) _).setCell (by simp; omega) _

theorem getd_any (room cells : Int) {P : Nat → Prop} {w : World} {a : Option Addr} {N c : Nat} {L : List Ob} (h : RL P w a N c L) (hN : N ≤ 65536) (v : Vl) (ix : Int) :
    Calls Try.prog 34 #[.agg #[.int .i64 room, .int .i64 cells, .slice a N c], vlV v, .int .i64 ix] w fun e w' => e = .returned (.tuple #[vlV (dgV L v ix), .int .i64 (dgT L v ix : Nat)]) ∧ Below w.heap.size w w' := by
  have hL : L.length = N := by obtain ⟨cs, h1, h2, h3⟩ := h; exact h2
  obtain ⟨kd, n, re, im⟩ := v
  by_cases hst : szT L ⟨kd, n, re, im⟩ = 0
  · cases hi : inB ix (szN L ⟨kd, n, re, im⟩) with
    | false =>
      rw [show dgV L ⟨kd, n, re, im⟩ ix = v0 by simp [dgV, hi], show dgT L ⟨kd, n, re, im⟩ ix = 2 by simp [dgT, hi, hst]]
      by_cases h0 : ix < 0
      · exact getd_2a room cells h hN kd n re im _ rfl hst ix h0
      · exact getd_2b room cells h hN kd n re im _ rfl hst ix h0 (by simp [inB] at hi; omega)
    | true =>
      obtain ⟨q, rfl⟩ : ∃ q : Nat, ix = q := ⟨ix.toNat, by simp [inB] at hi; omega⟩
      have hq : q < szN L ⟨kd, n, re, im⟩ := by simp [inB] at hi; omega
      rw [show dgT L ⟨kd, n, re, im⟩ q = 0 by simp [dgT, hi, hst]]
      cases ht : txB L ⟨kd, n, re, im⟩ with
      | true =>
        have hz : szN L ⟨kd, n, re, im⟩ = (txS L ⟨kd, n, re, im⟩).size := by simp [szN, ht]
        rw [show dgV L ⟨kd, n, re, im⟩ q = ⟨1, (((txS L ⟨kd, n, re, im⟩).data.toList.getD q 0).toNat : Nat), 0, 0⟩ by unfold dgV; rw [if_pos ⟨hst, hi⟩, if_pos ht]; rfl]
        exact getd_3 room cells h hN kd n re im _ q (by omega) rfl ht hz hst
      | false =>
        cases hn : nameB L ⟨kd, n, re, im⟩ with
        | false => simp [szT, ht, hn] at hst
        | true =>
          obtain ⟨_, _, h5, h6, _⟩ := name_parts hn
          have hz : szN L ⟨kd, n, re, im⟩ = (ob L (at_ ⟨kd, n, re, im⟩)).vals.length := by simp [szN, ht, hn]
          rw [show dgV L ⟨kd, n, re, im⟩ q = vl (ob L (at_ ⟨kd, n, re, im⟩)).vals q by unfold dgV; rw [if_pos ⟨hst, hi⟩, if_neg (by rw [ht]; simp)]; rfl]
          obtain ⟨i, hi2⟩ : ∃ i, at_ ⟨kd, n, re, im⟩ = i := ⟨_, rfl⟩
          rw [hi2] at h5 h6 hz ⊢
          simp only at h6
          obtain rfl : n = (i : Int) + 1 := by omega
          exact getd_4 room cells h hN kd re im i (by omega) _ q (by omega) rfl ht hz hst
  · have hb : txB L ⟨kd, n, re, im⟩ = false ∧ nameB L ⟨kd, n, re, im⟩ = false := by
      unfold szT at hst
      cases a1 : txB L ⟨kd, n, re, im⟩ with
      | true => rw [a1] at hst; simp at hst
      | false =>
        cases a2 : nameB L ⟨kd, n, re, im⟩ with
        | true => rw [a1, a2] at hst; simp at hst
        | false => exact ⟨rfl, rfl⟩
    rw [show dgV L ⟨kd, n, re, im⟩ ix = v0 by simp [dgV, hst], show dgT L ⟨kd, n, re, im⟩ ix = 3 by simp [dgT, hst]]
    exact getd_1 room cells h hN kd n re im (by simp [szN, hb.1, hb.2]) (by simp [szT, hb.1, hb.2]) ix

end Go.Proofs.Ytfeeikajekemlaa
