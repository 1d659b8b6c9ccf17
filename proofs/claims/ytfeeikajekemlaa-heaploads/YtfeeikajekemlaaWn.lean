/-
  The walk of heap.changeable. Conditions: as said.
-/
import Derived.Test.YtfeeikajekemlaaWk
import Derived.Test.YtfeeikajekemlaaWf
import Derived.IntWalk
namespace Go.Proofs.Ytfeeikajekemlaa
open Go.RowKit
set_option linter.unusedVariables false
set_option linter.unusedSimpArgs false
set_option maxRecDepth 100000

set_option maxHeartbeats 1000000 in
theorem chg_no (p i n g1 g2 c1 c2 b : Nat) (w : World) (q2 : w.cell? ⟨p, 2, none⟩ = some (.slice (some ⟨g1, 0, none⟩) n c1)) (q3 : w.cell? ⟨p, 3, none⟩ = some (.slice (some ⟨g2, 0, none⟩) n c2))
    (r1 : w.cell? ⟨g1, i, none⟩ = some (.pointer (some ⟨b, 0, none⟩))) (r2 : w.cell? ⟨g2, i, none⟩ = some (.bool true)) (hi : i < n) (hn : n ≤ 65536) :
    Calls Try.prog 46 #[.pointer (some ⟨p, 0, none⟩), .int .i64 ((i : Int) + 1)] w fun e w' => e = .returned (.pointer (some ⟨b, 0, none⟩)) ∧ w = w' := by
  go_enter Try.func46, Try.ntmps46
  go_wp2_with fail
  go_ret
  exact ⟨rfl, rfl⟩

/-- What changeable leaves where it copies. -/
structure ChgW (w w' : World) (g1 g2 c1 c2 n i : Nat) (l1 l2 : List Value) (x : Oc) (l : List Vl) (B vb : Nat) (a : Option Addr) (c : Nat) : Prop where
  oth : Oth (fun b => b = g1 ∨ b = g2) w w'
  o1 : w'.ownsRow 0 83 1 (.slice (some ⟨g1, 0, none⟩) n c1) n (l1.set i (.pointer (some ⟨B, 0, none⟩)))
  o2 : w'.ownsRow 0 4 1 (.slice (some ⟨g2, 0, none⟩) n c2) n (l2.set i (.bool true))
  bx : w'.rowIs B 45 4 (ocF ⟨x.kind, x.of, x.text, a, x.n, c⟩)
  va : VA w' ⟨x.kind, x.of, x.text, a, x.n, c⟩ vb l
  bl : w.heap.size ≤ B
  bs : B < w'.heap.size
  vl : x.n ≠ 0 → w.heap.size ≤ vb ∧ vb ≠ B
def ChgP (w : World) (g1 g2 c1 c2 n i : Nat) (l1 l2 : List Value) (x : Oc) (l : List Vl) (e : Ending) (w' : World) : Prop :=
  ∃ B vb a c, e = .returned (.pointer (some ⟨B, 0, none⟩)) ∧ ChgW w w' g1 g2 c1 c2 n i l1 l2 x l B vb a c

set_option maxHeartbeats 4000000 in
theorem chg_walk (p i n g1 g2 c1 c2 b : Nat) (l1 l2 : List Value) (x : Oc) (l : List Vl) (w : World) (q2 : w.cell? ⟨p, 2, none⟩ = some (.slice (some ⟨g1, 0, none⟩) n c1)) (q3 : w.cell? ⟨p, 3, none⟩ = some (.slice (some ⟨g2, 0, none⟩) n c2))
    (ho : Hid (w.ownsRow 0 83 1 (.slice (some ⟨g1, 0, none⟩) n c1) n l1)) (ha : Hid (w.ownsRow 0 4 1 (.slice (some ⟨g2, 0, none⟩) n c2) n l2)) (e1 : Hid (l1[i]? = some (.pointer (some ⟨b, 0, none⟩)))) (e2 : Hid (l2[i]? = some (.bool false)))
    (hx : Hid (AtO w b 0 x)) (hl : Hid (l.length = x.n)) (hz : Hid (x.a = none → x.n = 0)) (hr : Hid (RV (fun _ => True) w x.a l)) (hxn : x.n ≤ 70000) (hi : i < n) (hn : n ≤ 65536) (n1 : g1 ≠ p) (n2 : g2 ≠ p) (n3 : g1 ≠ g2) :
    Calls Try.prog 46 #[.pointer (some ⟨p, 0, none⟩), .int .i64 ((i : Int) + 1)] w (ChgP w g1 g2 c1 c2 n i l1 l2 x l) := by
  obtain ⟨kx, fx, tx, ax, nx, cx⟩ := x
  have r1 : w.cell? ⟨g1, i, none⟩ = some (.pointer (some ⟨b, 0, none⟩)) := by rw [ho.out.cellAt i (by omega)]; exact e1.out
  have r2 : w.cell? ⟨g2, i, none⟩ = some (.bool false) := by rw [ha.out.cellAt i (by omega)]; exact e2.out
  obtain ⟨x0, x1, x2, x3⟩ := hx.out
  simp only [Nat.zero_add] at x0 x1 x2 x3
  have HT := Lib.hid (twin_any ⟨kx, fx, tx, ax, nx, cx⟩ l w (fun _ => True) hl.out hz.out hr.out (by show nx ≤ 1000000; simp only at hxn; omega))
  go_enter Try.func46, Try.ntmps46
  go_wp2_with ((with_reducible refine HT.out.mono ?_); rintro e w2 ⟨a', c', vb, rfl, hva, hvb, hb2⟩; replace hva := Lib.hid hva; replace hvb := Lib.hid hvb; have HB2 := Lib.hid hb2; clear x0 x1 x2 x3)
  obtain ⟨W, hW⟩ : ∃ W, W = w2.alloc (.cells #[.int .u8 kx, .int .i64 fx, .string tx, .slice a' nx c'] 45) := ⟨_, rfl⟩
  rw [← hW]
  have hBW : Below w.heap.size w W := by rw [hW]; exact hb2.alloc hb2.size _
  have hBW2 : Below w2.heap.size w2 W := by rw [hW]; go_grown
  have hzW : W.heap.size = w2.heap.size + 1 := by rw [hW]; simp
  have hbx : W.rowIs w2.heap.size 45 4 (ocF ⟨kx, fx, tx, a', nx, c'⟩) := by rw [hW]; exact box_row w2 ⟨kx, fx, tx, a', nx, c'⟩
  have g1l := block_lt_of_cell r1
  have g2l := block_lt_of_cell r2
  have hpl := block_lt_of_cell q2
  simp only at g1l g2l hpl
  have hsz := hb2.size
  replace q2 := cell_carry hBW q2
  replace q3 := cell_carry hBW q3
  replace r1 := cell_carry hBW r1
  replace r2 := cell_carry hBW r2
  have f1 : ∀ o, W.frozen? ⟨g1, o, none⟩ = false := fun o => (own_carry ho.out hBW).frozenAt o
  have f2 : ∀ o, W.frozen? ⟨g2, o, none⟩ = false := fun o => (own_carry ha.out hBW).frozenAt o
  have ho1 := Lib.hid (own_carry ho.out hBW)
  have ha1 := Lib.hid (own_carry ha.out hBW)
  replace hbx := Lib.hid hbx
  replace hBW := Lib.hid hBW
  replace hBW2 := Lib.hid hBW2
  replace hzW := Lib.hid hzW
  clear hW hb2
  go_region
  go_wp2_with fail
  go_ret
  have hzz := hzW.out
  have hE : ∀ q, q ≠ g1 → q ≠ g2 → (((W.setCell ⟨g1, i, none⟩ (.pointer (some ⟨w2.heap.size, 0, none⟩))).setCell ⟨g2, i, none⟩ (.bool true)).drew).heap[q]? = W.heap[q]? := fun q h1 h2 =>
    (set_other (q := ⟨g2, i, none⟩) h2).trans (set_other (q := ⟨g1, i, none⟩) h1)
  have hS : (((W.setCell ⟨g1, i, none⟩ (.pointer (some ⟨w2.heap.size, 0, none⟩))).setCell ⟨g2, i, none⟩ (.bool true)).drew).heap.size = w2.heap.size + 1 := by rw [heap_drew]; simp [hzz]
  have hvl : nx ≠ 0 → vb < w2.heap.size := fun hn0 => by
    rcases hva.out.2.2 with h1 | ⟨_, h2⟩
    · exact absurd h1 hn0
    · exact h2.lt
  refine ⟨w2.heap.size, vb, a', c', rfl, ⟨⟨hBW.out.os, hBW.out.tape, hBW.out.output, by rw [hS]; omega, fun q hq hs => (hE q (fun e => hs (.inl e)) (fun e => hs (.inr e))).trans (hBW.out.block q hq)⟩, ?_, ?_, hbx.out.of_block (hE _ (by omega) (by omega)), ?_, hsz, by rw [hS]; omega, fun hn0 => ⟨hvb.out hn0, by have := hvl hn0; omega⟩⟩⟩
  · refine own_same (ho1.out.stored i _).1 fun q hq => ?_
    have : q = g1 := by simpa [Value.ownBlock] using hq.symm
    subst this
    exact set_other (q := ⟨g2, i, none⟩) n3
  · have h3 : (W.setCell ⟨g1, i, none⟩ (.pointer (some ⟨w2.heap.size, 0, none⟩))).ownsRow 0 4 1 (.slice (some ⟨g2, 0, none⟩) n c2) n l2 := own_same ha1.out fun q hq => by
      have : q = g2 := by simpa [Value.ownBlock] using hq.symm
      subst this
      exact set_other (q := ⟨g1, i, none⟩) (fun e => n3 e.symm)
    exact (h3.stored i _).1
  · refine hva.out.of_block fun hn0 => ?_
    have h1 := hvb.out hn0
    have h2 := hvl hn0
    rw [hE vb (by omega) (by omega)]
    exact hBW2.out.block vb (by omega)

end Go.Proofs.Ytfeeikajekemlaa
