/-
  Contract of the document's Div, by signs, out of its callees' contracts. Conditions: the divisor isn't 0.
-/
import Derived.Test.YthkimoladjpjgaaDx
import Derived.Test.YthkimoladjpjgaaTog
import Derived.Test.YthkimoladjpjgaaDivA
namespace Go.Proofs.Ythkimoladjpjgaa
open Go.RowKit Go.Sort
set_option linter.unusedVariables false

theorem cfar {w : World} {a b : Addr} {v x : Value} (h : a ≠ b) (k : w.cell? b = some x) : (w.setCell a v).cell? b = some x := (World.cell?_setCell_other w a b v h).trans k
theorem cnear {w : World} {a : Addr} {v x : Value} (k : w.cell? a = some x) : (w.setCell a v).cell? a = some v := World.cell?_setCell_same _ _ _ k
theorem cice {w : World} {a b : Addr} {v : Value} (k : w.frozen? b = false) : (w.setCell a v).frozen? b = false := by rw [World.frozen?_setCell]; exact k

/-- Eight digits lie in block number b, which may be written. -/
structure Row8 (b : Nat) (x : Int) (w : World) : Prop where
  c0 : w.cell? ⟨b, 0, none⟩ = some (.int .i64 (dg 0 x))
  c1 : w.cell? ⟨b, 1, none⟩ = some (.int .i64 (dg 1 x))
  c2 : w.cell? ⟨b, 2, none⟩ = some (.int .i64 (dg 2 x))
  c3 : w.cell? ⟨b, 3, none⟩ = some (.int .i64 (dg 3 x))
  c4 : w.cell? ⟨b, 4, none⟩ = some (.int .i64 (dg 4 x))
  c5 : w.cell? ⟨b, 5, none⟩ = some (.int .i64 (dg 5 x))
  c6 : w.cell? ⟨b, 6, none⟩ = some (.int .i64 (dg 6 x))
  c7 : w.cell? ⟨b, 7, none⟩ = some (.int .i64 (dg 7 x))
  fr : ∀ q, w.frozen? ⟨b, q, none⟩ = false
  lt : b < w.heap.size
theorem Row8.below {b : Nat} {x : Int} {w w' : World} (h : Row8 b x w) (k : Below w.heap.size w w') : Row8 b x w' :=
  ⟨(k.cell (p := ⟨b, 0, none⟩) h.lt).trans h.c0, (k.cell (p := ⟨b, 1, none⟩) h.lt).trans h.c1, (k.cell (p := ⟨b, 2, none⟩) h.lt).trans h.c2, (k.cell (p := ⟨b, 3, none⟩) h.lt).trans h.c3, (k.cell (p := ⟨b, 4, none⟩) h.lt).trans h.c4, (k.cell (p := ⟨b, 5, none⟩) h.lt).trans h.c5, (k.cell (p := ⟨b, 6, none⟩) h.lt).trans h.c6, (k.cell (p := ⟨b, 7, none⟩) h.lt).trans h.c7, fun q => (k.frozen (p := ⟨b, q, none⟩) h.lt).trans (h.fr q), Nat.lt_of_lt_of_le h.lt k.size⟩
theorem Row8.far {b c : Nat} {x : Int} {w : World} (h : Row8 b x w) (hn : c ≠ b) (o : Nat) (v : Value) : Row8 b x (w.setCell ⟨c, o, none⟩ v) :=
  ⟨cfar (by intro e; exact hn (congrArg Addr.block e)) h.c0, cfar (by intro e; exact hn (congrArg Addr.block e)) h.c1, cfar (by intro e; exact hn (congrArg Addr.block e)) h.c2, cfar (by intro e; exact hn (congrArg Addr.block e)) h.c3, cfar (by intro e; exact hn (congrArg Addr.block e)) h.c4, cfar (by intro e; exact hn (congrArg Addr.block e)) h.c5, cfar (by intro e; exact hn (congrArg Addr.block e)) h.c6, cfar (by intro e; exact hn (congrArg Addr.block e)) h.c7, fun q => cice (h.fr q), by simpa [World.setCell] using h.lt⟩
theorem Row8.far8 {b c : Nat} {x : Int} {w : World} (h : Row8 b x w) (hn : c ≠ b) (v0 v1 v2 v3 v4 v5 v6 v7 : Value) :
    Row8 b x ((((((((w.setCell ⟨c, 0, none⟩ v0).setCell ⟨c, 1, none⟩ v1).setCell ⟨c, 2, none⟩ v2).setCell ⟨c, 3, none⟩ v3).setCell ⟨c, 4, none⟩ v4).setCell ⟨c, 5, none⟩ v5).setCell ⟨c, 6, none⟩ v6).setCell ⟨c, 7, none⟩ v7) :=
  (((((((h.far hn 0 v0).far hn 1 v1).far hn 2 v2).far hn 3 v3).far hn 4 v4).far hn 5 v5).far hn 6 v6).far hn 7 v7
theorem Row8.set {b : Nat} {x z : Int} {w : World} (h : Row8 b x w) : Row8 b z ((((((((w.setCell ⟨b, 0, none⟩ (.int .i64 (dg 0 z))).setCell ⟨b, 1, none⟩ (.int .i64 (dg 1 z))).setCell ⟨b, 2, none⟩ (.int .i64 (dg 2 z))).setCell ⟨b, 3, none⟩ (.int .i64 (dg 3 z))).setCell ⟨b, 4, none⟩ (.int .i64 (dg 4 z))).setCell ⟨b, 5, none⟩ (.int .i64 (dg 5 z))).setCell ⟨b, 6, none⟩ (.int .i64 (dg 6 z))).setCell ⟨b, 7, none⟩ (.int .i64 (dg 7 z))) := by
  constructor
  · exact (cfar (by simp) (cfar (by simp) (cfar (by simp) (cfar (by simp) (cfar (by simp) (cfar (by simp) (cfar (by simp) (cnear h.c0))))))))
  · exact (cfar (by simp) (cfar (by simp) (cfar (by simp) (cfar (by simp) (cfar (by simp) (cfar (by simp) (cnear (cfar (by simp) h.c1))))))))
  · exact (cfar (by simp) (cfar (by simp) (cfar (by simp) (cfar (by simp) (cfar (by simp) (cnear (cfar (by simp) (cfar (by simp) h.c2))))))))
  · exact (cfar (by simp) (cfar (by simp) (cfar (by simp) (cfar (by simp) (cnear (cfar (by simp) (cfar (by simp) (cfar (by simp) h.c3))))))))
  · exact (cfar (by simp) (cfar (by simp) (cfar (by simp) (cnear (cfar (by simp) (cfar (by simp) (cfar (by simp) (cfar (by simp) h.c4))))))))
  · exact (cfar (by simp) (cfar (by simp) (cnear (cfar (by simp) (cfar (by simp) (cfar (by simp) (cfar (by simp) (cfar (by simp) h.c5))))))))
  · exact (cfar (by simp) (cnear (cfar (by simp) (cfar (by simp) (cfar (by simp) (cfar (by simp) (cfar (by simp) (cfar (by simp) h.c6))))))))
  · exact (cnear (cfar (by simp) (cfar (by simp) (cfar (by simp) (cfar (by simp) (cfar (by simp) (cfar (by simp) (cfar (by simp) h.c7))))))))
  · intro q; exact cice (cice (cice (cice (cice (cice (cice (cice (h.fr q))))))))
  · simpa [World.setCell] using h.lt
theorem Row8.new {w : World} (x : Int) : Row8 w.heap.size x (w.alloc (.cells #[.int .i64 (dg 0 x), .int .i64 (dg 1 x), .int .i64 (dg 2 x), .int .i64 (dg 3 x), .int .i64 (dg 4 x), .int .i64 (dg 5 x), .int .i64 (dg 6 x), .int .i64 (dg 7 x)] 23)) := by
  constructor
  all_goals first | (simp; done) | (simp [go_sem]; done) | (intro q; simp [go_sem]; done)
theorem below_alloc (w : World) (o : Obj) : Below w.heap.size w (w.alloc o) := (Below.refl _ _).alloc (Nat.le_refl _) o
theorem below_set8 {w0 w : World} {b : Nat} (h : Below w0.heap.size w0 w) (hb : w0.heap.size ≤ b) (v0 v1 v2 v3 v4 v5 v6 v7 : Value) :
    Below w0.heap.size w0 ((((((((w.setCell ⟨b, 0, none⟩ v0).setCell ⟨b, 1, none⟩ v1).setCell ⟨b, 2, none⟩ v2).setCell ⟨b, 3, none⟩ v3).setCell ⟨b, 4, none⟩ v4).setCell ⟨b, 5, none⟩ v5).setCell ⟨b, 6, none⟩ v6).setCell ⟨b, 7, none⟩ v7) :=
  (((((((h.setCell hb v0).setCell hb v1).setCell hb v2).setCell hb v3).setCell hb v4).setCell hb v5).setCell hb v6).setCell hb v7

theorem back64 (n : Nat) (h : n ≤ 9223372036854775808) : IntKind.u64.wrap (wrap64 n) = n := by rw [IntKind.wrap_u64]; unfold wrap64; omega

set_option maxRecDepth 100000 in
set_option maxHeartbeats 1000000 in
theorem div_np (a b : Int) (x y : Nat) (P L p l : Int) (w : World) (hx : Hid (x ≤ 9223372036854775808)) (hy : 0 < y) (hy2 : Hid (y ≤ 9223372036854775808))
    (ha : decide (a < 0) = true) (hb : decide (b < 0) = false)
    (H1 : Hid (∀ w, Calls Try.prog 25 #[.int .i64 a] w fun e w' => e = .returned (.int .u64 x) ∧ Below w.heap.size w w'))
    (H2 : Hid (∀ w, Calls Try.prog 25 #[.int .i64 b] w fun e w' => e = .returned (.int .u64 y) ∧ Below w.heap.size w w'))
    (Hq : Hid (∀ w, Calls Try.prog 12 #[.int .i64 (wrap64 (x / y : Nat))] w fun e w' => e = .returned (dx (x / y : Nat)) ∧ Below w.heap.size w w'))
    (Hr : Hid (∀ w, Calls Try.prog 12 #[.int .i64 (wrap64 (x % y : Nat))] w fun e w' => e = .returned (dx (x % y : Nat)) ∧ Below w.heap.size w w'))
    (Hp : Hid (∀ w, Calls Try.prog 17 #[dx (x / y : Nat)] w fun e w' => e = .returned (dx P) ∧ Below w.heap.size w w'))
    (Hl : Hid (∀ w, Calls Try.prog 17 #[dx (x % y : Nat)] w fun e w' => e = .returned (dx L) ∧ Below w.heap.size w w'))
    (Hn : Hid (∀ w, Calls Try.prog 15 #[dx P] w fun e w' => e = .returned (.int .i64 p) ∧ Below w.heap.size w w'))
    (Hm : Hid (∀ w, Calls Try.prog 15 #[dx L] w fun e w' => e = .returned (.int .i64 l) ∧ Below w.heap.size w w')) :
    Calls Try.prog 24 #[.int .i64 a, .int .i64 b] w fun e w' => e = .returned (.tuple #[.int .i64 p, .int .i64 l]) ∧ Below w.heap.size w w' := by
  go_enter Try.func24, Try.ntmps24
  go_wp2_with fail
  refine (H1.out _).mono ?_
  rintro e w1 ⟨rfl, hb1⟩
  go_wp2_with fail
  refine (H2.out _).mono ?_
  rintro e w2 ⟨rfl, hb2⟩
  have B2 := Lib.hid (below_step hb1 hb2)
  clear hb1 hb2
  go_wp2_with fail
  go_loop [8, 9, 10] (fun q r i => ∃ j : Nat, j ≤ 64 ∧ i = .int .i64 ((j : Int) - 1) ∧ q = .int .u64 (dq x y j : Nat) ∧ r = .int .u64 (dr x y j : Nat)) (fun _ _ i => (intOf i + 1).toNat)
  case atStart => exact ⟨64, by omega, rfl, by rw [(dq_start x y hx.out).1]; rfl, by rw [(dq_start x y hx.out).2]; rfl⟩
  case round =>
    obtain ⟨j, hj, rfl, rfl, rfl⟩ := hrel
    rcases j with _ | m
    · rw [(dq_end x y).1, (dq_end x y).2]
      have e1 : (((0 : Nat) : Int) - 1) = -1 := by omega
      rw [e1]
      clear e1
      generalize ((x / y : Nat) : Int) = Q at *
      generalize ((x % y : Nat) : Int) = R at *
      go_wp2_with fail
      refine (Hq.out _).mono ?_
      rintro e w3 ⟨rfl, hb3⟩
      go_wp2_with fail
      refine (Hr.out _).mono ?_
      rintro e w4 ⟨rfl, hb4⟩
      have q4 := (Row8.new (w := w3) Q).below hb4
      have hl3 : w.heap.size ≤ w3.heap.size := (below_step B2.out hb3).size
      have B4 := Lib.hid (below_step (below_step (below_step (below_step B2.out hb3) (below_alloc w3 (.cells #[.int .i64 (dg 0 Q), .int .i64 (dg 1 Q), .int .i64 (dg 2 Q), .int .i64 (dg 3 Q), .int .i64 (dg 4 Q), .int .i64 (dg 5 Q), .int .i64 (dg 6 Q), .int .i64 (dg 7 Q)] 23))) hb4) (below_alloc w4 (.cells #[.int .i64 (dg 0 R), .int .i64 (dg 1 R), .int .i64 (dg 2 R), .int .i64 (dg 3 R), .int .i64 (dg 4 R), .int .i64 (dg 5 R), .int .i64 (dg 6 R), .int .i64 (dg 7 R)] 23)))
      have hl4 : w.heap.size ≤ w4.heap.size := (below_step (below_step (below_step B2.out hb3) (below_alloc w3 (.cells #[.int .i64 (dg 0 Q), .int .i64 (dg 1 Q), .int .i64 (dg 2 Q), .int .i64 (dg 3 Q), .int .i64 (dg 4 Q), .int .i64 (dg 5 Q), .int .i64 (dg 6 Q), .int .i64 (dg 7 Q)] 23))) hb4).size
      have hne : w3.heap.size < w4.heap.size := q4.lt
      have q5 := q4.below (below_alloc w4 (.cells #[.int .i64 (dg 0 R), .int .i64 (dg 1 R), .int .i64 (dg 2 R), .int .i64 (dg 3 R), .int .i64 (dg 4 R), .int .i64 (dg 5 R), .int .i64 (dg 6 R), .int .i64 (dg 7 R)] 23))
      have r5 := Row8.new (w := w4) R
      obtain ⟨W5, h5⟩ : ∃ W, W = w4.alloc (.cells #[.int .i64 (dg 0 R), .int .i64 (dg 1 R), .int .i64 (dg 2 R), .int .i64 (dg 3 R), .int .i64 (dg 4 R), .int .i64 (dg 5 R), .int .i64 (dg 6 R), .int .i64 (dg 7 R)] 23) := ⟨_, rfl⟩
      rw [← h5] at q5 r5 B4
      obtain ⟨bq, hbq⟩ : ∃ bq, bq = w3.heap.size := ⟨_, rfl⟩
      obtain ⟨br, hbr⟩ : ∃ br, br = w4.heap.size := ⟨_, rfl⟩
      have kq0 := q4.c0
      have kq1 := q4.c1
      have kq2 := q4.c2
      have kq3 := q4.c3
      have kq4 := q4.c4
      have kq5 := q4.c5
      have kq6 := q4.c6
      have kq7 := q4.c7
      have H5 := Lib.hid h5
      have Hbq := Lib.hid hbq
      have Hbr := Lib.hid hbr
      have Q5 := Lib.hid q5
      have R5 := Lib.hid r5
      clear h5 hbq hbr q5 r5 q4
      go_wp2_with fail
      have h5 := H5.out
      have hbq := Hbq.out
      have hbr := Hbr.out
      have q5 := Q5.out
      have r5 := R5.out
      rw [← h5, ← hbq, ← hbr]
      rw [← hbq, ← hbr] at hne
      rw [← hbq] at q5 hl3
      rw [← hbr] at r5 hl4
      clear h5 hbq hbr hb3 hb4 H5 Hbq Hbr Q5 R5 kq0 kq1 kq2 kq3 kq4 kq5 kq6 kq7
      have Rq := Lib.hid q5
      have Rr := Lib.hid r5
      clear q5 r5
      refine (Hp.out _).mono ?_
      rintro e v6 ⟨rfl, hv6⟩
      have q6 := Rq.out.below hv6
      have r6 := Rr.out.below hv6
      have D6 := below_step B4.out hv6
      clear Rq Rr B4 hv6
      have kq0 := q6.c0
      have kq1 := q6.c1
      have kq2 := q6.c2
      have kq3 := q6.c3
      have kq4 := q6.c4
      have kq5 := q6.c5
      have kq6 := q6.c6
      have kq7 := q6.c7
      have kr0 := r6.c0
      have kr1 := r6.c1
      have kr2 := r6.c2
      have kr3 := r6.c3
      have kr4 := r6.c4
      have kr5 := r6.c5
      have kr6 := r6.c6
      have kr7 := r6.c7
      have kf := q6.fr
      have hne2 : bq ≠ br := Nat.ne_of_lt hne
      obtain ⟨W6, h6⟩ : ∃ W, W = ((((((((v6.setCell ⟨bq, 0, none⟩ (.int .i64 (dg 0 P))).setCell ⟨bq, 1, none⟩ (.int .i64 (dg 1 P))).setCell ⟨bq, 2, none⟩ (.int .i64 (dg 2 P))).setCell ⟨bq, 3, none⟩ (.int .i64 (dg 3 P))).setCell ⟨bq, 4, none⟩ (.int .i64 (dg 4 P))).setCell ⟨bq, 5, none⟩ (.int .i64 (dg 5 P))).setCell ⟨bq, 6, none⟩ (.int .i64 (dg 6 P))).setCell ⟨bq, 7, none⟩ (.int .i64 (dg 7 P))) := ⟨_, rfl⟩
      have Rq := Lib.hid (show Row8 bq P W6 from h6 ▸ q6.set)
      have Rr := Lib.hid (show Row8 br R W6 from h6 ▸ r6.far8 hne2 _ _ _ _ _ _ _ _)
      have B6 := Lib.hid (show Below w.heap.size w W6 from h6 ▸ below_set8 D6 hl3 _ _ _ _ _ _ _ _)
      have HH := Lib.hid h6
      clear h6 q6 r6 D6 hne2
      go_wp2_with fail
      rw [← HH.out]
      clear HH kf kq0 kr0 kq1 kr1 kq2 kr2 kq3 kr3 kq4 kr4 kq5 kr5 kq6 kr6 kq7 kr7
      refine (Hl.out _).mono ?_
      rintro e v7 ⟨rfl, hv7⟩
      have q7 := Rq.out.below hv7
      have r7 := Rr.out.below hv7
      have D7 := below_step B6.out hv7
      clear Rq Rr B6 hv7
      have kq0 := q7.c0
      have kq1 := q7.c1
      have kq2 := q7.c2
      have kq3 := q7.c3
      have kq4 := q7.c4
      have kq5 := q7.c5
      have kq6 := q7.c6
      have kq7 := q7.c7
      have kr0 := r7.c0
      have kr1 := r7.c1
      have kr2 := r7.c2
      have kr3 := r7.c3
      have kr4 := r7.c4
      have kr5 := r7.c5
      have kr6 := r7.c6
      have kr7 := r7.c7
      have kf := r7.fr
      have hne2 : bq ≠ br := Nat.ne_of_lt hne
      obtain ⟨W7, h7⟩ : ∃ W, W = ((((((((v7.setCell ⟨br, 0, none⟩ (.int .i64 (dg 0 L))).setCell ⟨br, 1, none⟩ (.int .i64 (dg 1 L))).setCell ⟨br, 2, none⟩ (.int .i64 (dg 2 L))).setCell ⟨br, 3, none⟩ (.int .i64 (dg 3 L))).setCell ⟨br, 4, none⟩ (.int .i64 (dg 4 L))).setCell ⟨br, 5, none⟩ (.int .i64 (dg 5 L))).setCell ⟨br, 6, none⟩ (.int .i64 (dg 6 L))).setCell ⟨br, 7, none⟩ (.int .i64 (dg 7 L))) := ⟨_, rfl⟩
      have Rq := Lib.hid (show Row8 bq P W7 from h7 ▸ q7.far8 (Ne.symm hne2) _ _ _ _ _ _ _ _)
      have Rr := Lib.hid (show Row8 br L W7 from h7 ▸ r7.set)
      have B7 := Lib.hid (show Below w.heap.size w W7 from h7 ▸ below_set8 D7 hl4 _ _ _ _ _ _ _ _)
      have HH := Lib.hid h7
      clear h7 q7 r7 D7 hne2
      go_wp2_with fail
      rw [← HH.out]
      clear HH kf kq0 kr0 kq1 kr1 kq2 kr2 kq3 kr3 kq4 kr4 kq5 kr5 kq6 kr6 kq7 kr7
      have rq := Rq.out
      have rr := Rr.out
      have kq0 := fun d os => cell_regrown rq.c0 d os
      have kr0 := fun d os => cell_regrown rr.c0 d os
      have kq1 := fun d os => cell_regrown rq.c1 d os
      have kr1 := fun d os => cell_regrown rr.c1 d os
      have kq2 := fun d os => cell_regrown rq.c2 d os
      have kr2 := fun d os => cell_regrown rr.c2 d os
      have kq3 := fun d os => cell_regrown rq.c3 d os
      have kr3 := fun d os => cell_regrown rr.c3 d os
      have kq4 := fun d os => cell_regrown rq.c4 d os
      have kr4 := fun d os => cell_regrown rr.c4 d os
      have kq5 := fun d os => cell_regrown rq.c5 d os
      have kr5 := fun d os => cell_regrown rr.c5 d os
      have kq6 := fun d os => cell_regrown rq.c6 d os
      have kr6 := fun d os => cell_regrown rr.c6 d os
      have kq7 := fun d os => cell_regrown rq.c7 d os
      have kr7 := fun d os => cell_regrown rr.c7 d os
      have cn : ∀ dd os, Calls Try.prog 15 #[dx P] (grow (redrawn W7 dd) os) fun e w'' => e = .returned (.int .i64 p) ∧ ∃ p : Regrown, w'' = grow (redrawn W7 p.d) p.os := fun dd os => Calls.regrown_of (Hn.out _)
      have cm : ∀ dd os, Calls Try.prog 15 #[dx L] (grow (redrawn W7 dd) os) fun e w'' => e = .returned (.int .i64 l) ∧ ∃ p : Regrown, w'' = grow (redrawn W7 p.d) p.os := fun dd os => Calls.regrown_of (Hm.out _)
      clear rq rr Rq Rr
      refine wp_region_quiet_below (by kernel_rfl) (by kernel_rfl) ?_
      repeat (quiet_step (first | with_reducible exact cn _ _ | with_reducible exact cm _ _))
      refine wpQuiet_nil ?_
      intro _ hw'
      obtain ⟨⟨dq, osq⟩, hw''⟩ := hw'
      subst hw''
      go_wp2
      go_ret2
      exact ⟨rfl, below_step B7.out (below_regrown W7 dq osq)⟩
    · have e1 : (((m + 1 : Nat) : Int) - 1) = (m : Int) := by omega
      rw [e1]
      clear e1
      have HD := Lib.hid (dround x y m hy)
      have hr := dr_lt x y (m + 1) hy
      have hr' := dr_lt x y m hy
      have hq := dq_le x y (m + 1)
      have hq' := dq_le x y m
      have hX := hx.out
      have hY := hy2.out
      have hm : m < 64 := by omega
      obtain ⟨pm, hpm⟩ : ∃ pm : Nat, (2 : Nat) ^ m = pm := ⟨_, rfl⟩
      have hpb : pm ≤ 9223372036854775808 := by
        rw [← hpm]
        have : (2 : Nat) ^ m ≤ 2 ^ 63 := Nat.pow_le_pow_right (by omega) (by omega)
        have e : (2 : Nat) ^ 63 = 9223372036854775808 := by decide
        omega
      have hpi : (2 : Int) ^ m = (pm : Int) := by rw [← hpm]; push_cast; rfl
      have hbit : ((x : Int) / (pm : Int)).tmod 2 = ((x / 2 ^ m % 2 : Nat) : Int) := by
        rw [hpm, Int.tmod_eq_emod_of_nonneg (Int.ediv_nonneg (by omega) (by omega))]; push_cast; rfl
      have hb2 : x / 2 ^ m % 2 < 2 := Nat.mod_lt _ (by omega)
      rw [hpm] at HD hbit hb2
      generalize x / pm % 2 = bt at *
      obtain ⟨d1, hd1⟩ : ∃ d1, dr x y (m + 1) = d1 := ⟨_, rfl⟩
      obtain ⟨d0, hd0⟩ : ∃ d0, dr x y m = d0 := ⟨_, rfl⟩
      obtain ⟨q1, hq1⟩ : ∃ q1, dq x y (m + 1) = q1 := ⟨_, rfl⟩
      obtain ⟨q0, hq0⟩ : ∃ q0, dq x y m = q0 := ⟨_, rfl⟩
      rw [hd1, hd0, hq1, hq0] at HD
      rw [hd1] at hr
      rw [hd0] at hr'
      rw [hq1] at hq
      rw [hq0] at hq'
      rw [hd1, hq1]
      have E0 := Lib.hid hd0
      have E1 := Lib.hid hq0
      clear hd0 hd1 hq0 hq1 hpm
      obtain ⟨D1, hD1⟩ : ∃ D : Int, (d1 : Int) = D := ⟨_, rfl⟩
      obtain ⟨Q1, hQ1⟩ : ∃ D : Int, (q1 : Int) = D := ⟨_, rfl⟩
      obtain ⟨PM, hPM⟩ : ∃ D : Int, (pm : Int) = D := ⟨_, rfl⟩
      obtain ⟨BT, hBT⟩ : ∃ D : Int, (bt : Int) = D := ⟨_, rfl⟩
      have i1 : D1 < 9223372036854775808 := by omega
      have i2 : D1 < (y : Int) := by omega
      have i3 : (y : Int) ≤ 9223372036854775808 := by omega
      have i4 : PM ≤ 9223372036854775808 := by omega
      have i5 : Q1 ≤ 9223372036854775808 := by omega
      have i6 : 0 ≤ BT := by omega
      have i7 : BT ≤ 1 := by omega
      have i8 : 0 ≤ D1 := by omega
      have i9 : 0 ≤ Q1 := by omega
      have i10 : 0 ≤ PM := by omega
      rw [hPM] at hpi hbit
      rw [hBT] at hbit
      rw [hD1, hQ1]
      by_cases hlt : 2 * d1 + bt < y
      · have i11 : D1 * 2 + BT < (y : Int) := by omega
        have Z := Lib.hid (HD.out.1 hlt)
        have Z1 : Hid ((d0 : Int) = D1 * 2 + BT) := Lib.hid (by have := Z.out.1; omega)
        have Z2 : Hid ((q0 : Int) = Q1) := Lib.hid (by have := Z.out.2; omega)
        clear hX hY hpb hq hq' hD1 hQ1 hPM hBT hr hr' hb2 hlt
        go_wp2
        go_round
        case rel => exact ⟨m, by omega, by go_num, by rw [E1.out, Z2.out], by rw [E0.out, Z1.out]⟩
        case measure => simp [intOf]
      · have i11 : (y : Int) ≤ D1 * 2 + BT := by omega
        have Z := Lib.hid (HD.out.2 (by omega))
        have i12 : Q1 + PM ≤ 9223372036854775808 := by have := Z.out.2; omega
        have Z1 : Hid ((d0 : Int) = D1 * 2 + BT - y) := Lib.hid (by have := Z.out.1; omega)
        have Z2 : Hid ((q0 : Int) = Q1 + PM) := Lib.hid (by have := Z.out.2; omega)
        clear hX hY hpb hq hq' hD1 hQ1 hPM hBT hr hr' hb2 hlt
        go_wp2
        go_round
        case rel => exact ⟨m, by omega, by go_num, by rw [E1.out, Z2.out], by rw [E0.out, Z1.out]⟩
        case measure => simp [intOf]

set_option maxRecDepth 100000 in
set_option maxHeartbeats 1000000 in
theorem div_pn (a b : Int) (x y : Nat) (P L p l : Int) (w : World) (hx : Hid (x ≤ 9223372036854775808)) (hy : 0 < y) (hy2 : Hid (y ≤ 9223372036854775808))
    (ha : decide (a < 0) = false) (hb : decide (b < 0) = true)
    (H1 : Hid (∀ w, Calls Try.prog 25 #[.int .i64 a] w fun e w' => e = .returned (.int .u64 x) ∧ Below w.heap.size w w'))
    (H2 : Hid (∀ w, Calls Try.prog 25 #[.int .i64 b] w fun e w' => e = .returned (.int .u64 y) ∧ Below w.heap.size w w'))
    (Hq : Hid (∀ w, Calls Try.prog 12 #[.int .i64 (wrap64 (x / y : Nat))] w fun e w' => e = .returned (dx (x / y : Nat)) ∧ Below w.heap.size w w'))
    (Hr : Hid (∀ w, Calls Try.prog 12 #[.int .i64 (wrap64 (x % y : Nat))] w fun e w' => e = .returned (dx (x % y : Nat)) ∧ Below w.heap.size w w'))
    (Hp : Hid (∀ w, Calls Try.prog 17 #[dx (x / y : Nat)] w fun e w' => e = .returned (dx P) ∧ Below w.heap.size w w'))
    (Hl : Hid (∀ w, Calls Try.prog 17 #[dx (x % y : Nat)] w fun e w' => e = .returned (dx L) ∧ Below w.heap.size w w'))
    (Hn : Hid (∀ w, Calls Try.prog 15 #[dx P] w fun e w' => e = .returned (.int .i64 p) ∧ Below w.heap.size w w'))
    (Hm : Hid (∀ w, Calls Try.prog 15 #[dx (x % y : Nat)] w fun e w' => e = .returned (.int .i64 l) ∧ Below w.heap.size w w')) :
    Calls Try.prog 24 #[.int .i64 a, .int .i64 b] w fun e w' => e = .returned (.tuple #[.int .i64 p, .int .i64 l]) ∧ Below w.heap.size w w' := by
  go_enter Try.func24, Try.ntmps24
  go_wp2_with fail
  refine (H1.out _).mono ?_
  rintro e w1 ⟨rfl, hb1⟩
  go_wp2_with fail
  refine (H2.out _).mono ?_
  rintro e w2 ⟨rfl, hb2⟩
  have B2 := Lib.hid (below_step hb1 hb2)
  clear hb1 hb2
  go_wp2_with fail
  go_loop [8, 9, 10] (fun q r i => ∃ j : Nat, j ≤ 64 ∧ i = .int .i64 ((j : Int) - 1) ∧ q = .int .u64 (dq x y j : Nat) ∧ r = .int .u64 (dr x y j : Nat)) (fun _ _ i => (intOf i + 1).toNat)
  case atStart => exact ⟨64, by omega, rfl, by rw [(dq_start x y hx.out).1]; rfl, by rw [(dq_start x y hx.out).2]; rfl⟩
  case round =>
    obtain ⟨j, hj, rfl, rfl, rfl⟩ := hrel
    rcases j with _ | m
    · rw [(dq_end x y).1, (dq_end x y).2]
      have e1 : (((0 : Nat) : Int) - 1) = -1 := by omega
      rw [e1]
      clear e1
      generalize ((x / y : Nat) : Int) = Q at *
      generalize ((x % y : Nat) : Int) = R at *
      go_wp2_with fail
      refine (Hq.out _).mono ?_
      rintro e w3 ⟨rfl, hb3⟩
      go_wp2_with fail
      refine (Hr.out _).mono ?_
      rintro e w4 ⟨rfl, hb4⟩
      have q4 := (Row8.new (w := w3) Q).below hb4
      have hl3 : w.heap.size ≤ w3.heap.size := (below_step B2.out hb3).size
      have B4 := Lib.hid (below_step (below_step (below_step (below_step B2.out hb3) (below_alloc w3 (.cells #[.int .i64 (dg 0 Q), .int .i64 (dg 1 Q), .int .i64 (dg 2 Q), .int .i64 (dg 3 Q), .int .i64 (dg 4 Q), .int .i64 (dg 5 Q), .int .i64 (dg 6 Q), .int .i64 (dg 7 Q)] 23))) hb4) (below_alloc w4 (.cells #[.int .i64 (dg 0 R), .int .i64 (dg 1 R), .int .i64 (dg 2 R), .int .i64 (dg 3 R), .int .i64 (dg 4 R), .int .i64 (dg 5 R), .int .i64 (dg 6 R), .int .i64 (dg 7 R)] 23)))
      have hl4 : w.heap.size ≤ w4.heap.size := (below_step (below_step (below_step B2.out hb3) (below_alloc w3 (.cells #[.int .i64 (dg 0 Q), .int .i64 (dg 1 Q), .int .i64 (dg 2 Q), .int .i64 (dg 3 Q), .int .i64 (dg 4 Q), .int .i64 (dg 5 Q), .int .i64 (dg 6 Q), .int .i64 (dg 7 Q)] 23))) hb4).size
      have hne : w3.heap.size < w4.heap.size := q4.lt
      have q5 := q4.below (below_alloc w4 (.cells #[.int .i64 (dg 0 R), .int .i64 (dg 1 R), .int .i64 (dg 2 R), .int .i64 (dg 3 R), .int .i64 (dg 4 R), .int .i64 (dg 5 R), .int .i64 (dg 6 R), .int .i64 (dg 7 R)] 23))
      have r5 := Row8.new (w := w4) R
      obtain ⟨W5, h5⟩ : ∃ W, W = w4.alloc (.cells #[.int .i64 (dg 0 R), .int .i64 (dg 1 R), .int .i64 (dg 2 R), .int .i64 (dg 3 R), .int .i64 (dg 4 R), .int .i64 (dg 5 R), .int .i64 (dg 6 R), .int .i64 (dg 7 R)] 23) := ⟨_, rfl⟩
      rw [← h5] at q5 r5 B4
      obtain ⟨bq, hbq⟩ : ∃ bq, bq = w3.heap.size := ⟨_, rfl⟩
      obtain ⟨br, hbr⟩ : ∃ br, br = w4.heap.size := ⟨_, rfl⟩
      have kq0 := q4.c0
      have kq1 := q4.c1
      have kq2 := q4.c2
      have kq3 := q4.c3
      have kq4 := q4.c4
      have kq5 := q4.c5
      have kq6 := q4.c6
      have kq7 := q4.c7
      have H5 := Lib.hid h5
      have Hbq := Lib.hid hbq
      have Hbr := Lib.hid hbr
      have Q5 := Lib.hid q5
      have R5 := Lib.hid r5
      clear h5 hbq hbr q5 r5 q4
      go_wp2_with fail
      have h5 := H5.out
      have hbq := Hbq.out
      have hbr := Hbr.out
      have q5 := Q5.out
      have r5 := R5.out
      rw [← h5, ← hbq, ← hbr]
      rw [← hbq, ← hbr] at hne
      rw [← hbq] at q5 hl3
      rw [← hbr] at r5 hl4
      clear h5 hbq hbr hb3 hb4 H5 Hbq Hbr Q5 R5 kq0 kq1 kq2 kq3 kq4 kq5 kq6 kq7
      have Rq := Lib.hid q5
      have Rr := Lib.hid r5
      clear q5 r5
      refine (Hp.out _).mono ?_
      rintro e v6 ⟨rfl, hv6⟩
      have q6 := Rq.out.below hv6
      have r6 := Rr.out.below hv6
      have D6 := below_step B4.out hv6
      clear Rq Rr B4 hv6
      have kq0 := q6.c0
      have kq1 := q6.c1
      have kq2 := q6.c2
      have kq3 := q6.c3
      have kq4 := q6.c4
      have kq5 := q6.c5
      have kq6 := q6.c6
      have kq7 := q6.c7
      have kr0 := r6.c0
      have kr1 := r6.c1
      have kr2 := r6.c2
      have kr3 := r6.c3
      have kr4 := r6.c4
      have kr5 := r6.c5
      have kr6 := r6.c6
      have kr7 := r6.c7
      have kf := q6.fr
      have hne2 : bq ≠ br := Nat.ne_of_lt hne
      obtain ⟨W6, h6⟩ : ∃ W, W = ((((((((v6.setCell ⟨bq, 0, none⟩ (.int .i64 (dg 0 P))).setCell ⟨bq, 1, none⟩ (.int .i64 (dg 1 P))).setCell ⟨bq, 2, none⟩ (.int .i64 (dg 2 P))).setCell ⟨bq, 3, none⟩ (.int .i64 (dg 3 P))).setCell ⟨bq, 4, none⟩ (.int .i64 (dg 4 P))).setCell ⟨bq, 5, none⟩ (.int .i64 (dg 5 P))).setCell ⟨bq, 6, none⟩ (.int .i64 (dg 6 P))).setCell ⟨bq, 7, none⟩ (.int .i64 (dg 7 P))) := ⟨_, rfl⟩
      have Rq := Lib.hid (show Row8 bq P W6 from h6 ▸ q6.set)
      have Rr := Lib.hid (show Row8 br R W6 from h6 ▸ r6.far8 hne2 _ _ _ _ _ _ _ _)
      have B6 := Lib.hid (show Below w.heap.size w W6 from h6 ▸ below_set8 D6 hl3 _ _ _ _ _ _ _ _)
      have HH := Lib.hid h6
      clear h6 q6 r6 D6 hne2
      go_wp2_with fail
      rw [← HH.out]
      clear HH kf kq0 kr0 kq1 kr1 kq2 kr2 kq3 kr3 kq4 kr4 kq5 kr5 kq6 kr6 kq7 kr7
      have rq := Rq.out
      have rr := Rr.out
      have kq0 := fun d os => cell_regrown rq.c0 d os
      have kr0 := fun d os => cell_regrown rr.c0 d os
      have kq1 := fun d os => cell_regrown rq.c1 d os
      have kr1 := fun d os => cell_regrown rr.c1 d os
      have kq2 := fun d os => cell_regrown rq.c2 d os
      have kr2 := fun d os => cell_regrown rr.c2 d os
      have kq3 := fun d os => cell_regrown rq.c3 d os
      have kr3 := fun d os => cell_regrown rr.c3 d os
      have kq4 := fun d os => cell_regrown rq.c4 d os
      have kr4 := fun d os => cell_regrown rr.c4 d os
      have kq5 := fun d os => cell_regrown rq.c5 d os
      have kr5 := fun d os => cell_regrown rr.c5 d os
      have kq6 := fun d os => cell_regrown rq.c6 d os
      have kr6 := fun d os => cell_regrown rr.c6 d os
      have kq7 := fun d os => cell_regrown rq.c7 d os
      have kr7 := fun d os => cell_regrown rr.c7 d os
      have cn : ∀ dd os, Calls Try.prog 15 #[dx P] (grow (redrawn W6 dd) os) fun e w'' => e = .returned (.int .i64 p) ∧ ∃ p : Regrown, w'' = grow (redrawn W6 p.d) p.os := fun dd os => Calls.regrown_of (Hn.out _)
      have cm : ∀ dd os, Calls Try.prog 15 #[dx R] (grow (redrawn W6 dd) os) fun e w'' => e = .returned (.int .i64 l) ∧ ∃ p : Regrown, w'' = grow (redrawn W6 p.d) p.os := fun dd os => Calls.regrown_of (Hm.out _)
      clear rq rr Rq Rr
      refine wp_region_quiet_below (by kernel_rfl) (by kernel_rfl) ?_
      repeat (quiet_step (first | with_reducible exact cn _ _ | with_reducible exact cm _ _))
      refine wpQuiet_nil ?_
      intro _ hw'
      obtain ⟨⟨dq, osq⟩, hw''⟩ := hw'
      subst hw''
      go_wp2
      go_ret2
      exact ⟨rfl, below_step B6.out (below_regrown W6 dq osq)⟩
    · have e1 : (((m + 1 : Nat) : Int) - 1) = (m : Int) := by omega
      rw [e1]
      clear e1
      have HD := Lib.hid (dround x y m hy)
      have hr := dr_lt x y (m + 1) hy
      have hr' := dr_lt x y m hy
      have hq := dq_le x y (m + 1)
      have hq' := dq_le x y m
      have hX := hx.out
      have hY := hy2.out
      have hm : m < 64 := by omega
      obtain ⟨pm, hpm⟩ : ∃ pm : Nat, (2 : Nat) ^ m = pm := ⟨_, rfl⟩
      have hpb : pm ≤ 9223372036854775808 := by
        rw [← hpm]
        have : (2 : Nat) ^ m ≤ 2 ^ 63 := Nat.pow_le_pow_right (by omega) (by omega)
        have e : (2 : Nat) ^ 63 = 9223372036854775808 := by decide
        omega
      have hpi : (2 : Int) ^ m = (pm : Int) := by rw [← hpm]; push_cast; rfl
      have hbit : ((x : Int) / (pm : Int)).tmod 2 = ((x / 2 ^ m % 2 : Nat) : Int) := by
        rw [hpm, Int.tmod_eq_emod_of_nonneg (Int.ediv_nonneg (by omega) (by omega))]; push_cast; rfl
      have hb2 : x / 2 ^ m % 2 < 2 := Nat.mod_lt _ (by omega)
      rw [hpm] at HD hbit hb2
      generalize x / pm % 2 = bt at *
      obtain ⟨d1, hd1⟩ : ∃ d1, dr x y (m + 1) = d1 := ⟨_, rfl⟩
      obtain ⟨d0, hd0⟩ : ∃ d0, dr x y m = d0 := ⟨_, rfl⟩
      obtain ⟨q1, hq1⟩ : ∃ q1, dq x y (m + 1) = q1 := ⟨_, rfl⟩
      obtain ⟨q0, hq0⟩ : ∃ q0, dq x y m = q0 := ⟨_, rfl⟩
      rw [hd1, hd0, hq1, hq0] at HD
      rw [hd1] at hr
      rw [hd0] at hr'
      rw [hq1] at hq
      rw [hq0] at hq'
      rw [hd1, hq1]
      have E0 := Lib.hid hd0
      have E1 := Lib.hid hq0
      clear hd0 hd1 hq0 hq1 hpm
      obtain ⟨D1, hD1⟩ : ∃ D : Int, (d1 : Int) = D := ⟨_, rfl⟩
      obtain ⟨Q1, hQ1⟩ : ∃ D : Int, (q1 : Int) = D := ⟨_, rfl⟩
      obtain ⟨PM, hPM⟩ : ∃ D : Int, (pm : Int) = D := ⟨_, rfl⟩
      obtain ⟨BT, hBT⟩ : ∃ D : Int, (bt : Int) = D := ⟨_, rfl⟩
      have i1 : D1 < 9223372036854775808 := by omega
      have i2 : D1 < (y : Int) := by omega
      have i3 : (y : Int) ≤ 9223372036854775808 := by omega
      have i4 : PM ≤ 9223372036854775808 := by omega
      have i5 : Q1 ≤ 9223372036854775808 := by omega
      have i6 : 0 ≤ BT := by omega
      have i7 : BT ≤ 1 := by omega
      have i8 : 0 ≤ D1 := by omega
      have i9 : 0 ≤ Q1 := by omega
      have i10 : 0 ≤ PM := by omega
      rw [hPM] at hpi hbit
      rw [hBT] at hbit
      rw [hD1, hQ1]
      by_cases hlt : 2 * d1 + bt < y
      · have i11 : D1 * 2 + BT < (y : Int) := by omega
        have Z := Lib.hid (HD.out.1 hlt)
        have Z1 : Hid ((d0 : Int) = D1 * 2 + BT) := Lib.hid (by have := Z.out.1; omega)
        have Z2 : Hid ((q0 : Int) = Q1) := Lib.hid (by have := Z.out.2; omega)
        clear hX hY hpb hq hq' hD1 hQ1 hPM hBT hr hr' hb2 hlt
        go_wp2
        go_round
        case rel => exact ⟨m, by omega, by go_num, by rw [E1.out, Z2.out], by rw [E0.out, Z1.out]⟩
        case measure => simp [intOf]
      · have i11 : (y : Int) ≤ D1 * 2 + BT := by omega
        have Z := Lib.hid (HD.out.2 (by omega))
        have i12 : Q1 + PM ≤ 9223372036854775808 := by have := Z.out.2; omega
        have Z1 : Hid ((d0 : Int) = D1 * 2 + BT - y) := Lib.hid (by have := Z.out.1; omega)
        have Z2 : Hid ((q0 : Int) = Q1 + PM) := Lib.hid (by have := Z.out.2; omega)
        clear hX hY hpb hq hq' hD1 hQ1 hPM hBT hr hr' hb2 hlt
        go_wp2
        go_round
        case rel => exact ⟨m, by omega, by go_num, by rw [E1.out, Z2.out], by rw [E0.out, Z1.out]⟩
        case measure => simp [intOf]

set_option maxRecDepth 100000 in
set_option maxHeartbeats 1000000 in
theorem div_nn (a b : Int) (x y : Nat) (P L p l : Int) (w : World) (hx : Hid (x ≤ 9223372036854775808)) (hy : 0 < y) (hy2 : Hid (y ≤ 9223372036854775808))
    (ha : decide (a < 0) = true) (hb : decide (b < 0) = true)
    (H1 : Hid (∀ w, Calls Try.prog 25 #[.int .i64 a] w fun e w' => e = .returned (.int .u64 x) ∧ Below w.heap.size w w'))
    (H2 : Hid (∀ w, Calls Try.prog 25 #[.int .i64 b] w fun e w' => e = .returned (.int .u64 y) ∧ Below w.heap.size w w'))
    (Hq : Hid (∀ w, Calls Try.prog 12 #[.int .i64 (wrap64 (x / y : Nat))] w fun e w' => e = .returned (dx (x / y : Nat)) ∧ Below w.heap.size w w'))
    (Hr : Hid (∀ w, Calls Try.prog 12 #[.int .i64 (wrap64 (x % y : Nat))] w fun e w' => e = .returned (dx (x % y : Nat)) ∧ Below w.heap.size w w'))
    (Hp : Hid (∀ w, Calls Try.prog 17 #[dx (x / y : Nat)] w fun e w' => e = .returned (dx P) ∧ Below w.heap.size w w'))
    (Hl : Hid (∀ w, Calls Try.prog 17 #[dx (x % y : Nat)] w fun e w' => e = .returned (dx L) ∧ Below w.heap.size w w'))
    (Hn : Hid (∀ w, Calls Try.prog 15 #[dx (x / y : Nat)] w fun e w' => e = .returned (.int .i64 p) ∧ Below w.heap.size w w'))
    (Hm : Hid (∀ w, Calls Try.prog 15 #[dx L] w fun e w' => e = .returned (.int .i64 l) ∧ Below w.heap.size w w')) :
    Calls Try.prog 24 #[.int .i64 a, .int .i64 b] w fun e w' => e = .returned (.tuple #[.int .i64 p, .int .i64 l]) ∧ Below w.heap.size w w' := by
  go_enter Try.func24, Try.ntmps24
  go_wp2_with fail
  refine (H1.out _).mono ?_
  rintro e w1 ⟨rfl, hb1⟩
  go_wp2_with fail
  refine (H2.out _).mono ?_
  rintro e w2 ⟨rfl, hb2⟩
  have B2 := Lib.hid (below_step hb1 hb2)
  clear hb1 hb2
  go_wp2_with fail
  go_loop [8, 9, 10] (fun q r i => ∃ j : Nat, j ≤ 64 ∧ i = .int .i64 ((j : Int) - 1) ∧ q = .int .u64 (dq x y j : Nat) ∧ r = .int .u64 (dr x y j : Nat)) (fun _ _ i => (intOf i + 1).toNat)
  case atStart => exact ⟨64, by omega, rfl, by rw [(dq_start x y hx.out).1]; rfl, by rw [(dq_start x y hx.out).2]; rfl⟩
  case round =>
    obtain ⟨j, hj, rfl, rfl, rfl⟩ := hrel
    rcases j with _ | m
    · rw [(dq_end x y).1, (dq_end x y).2]
      have e1 : (((0 : Nat) : Int) - 1) = -1 := by omega
      rw [e1]
      clear e1
      generalize ((x / y : Nat) : Int) = Q at *
      generalize ((x % y : Nat) : Int) = R at *
      go_wp2_with fail
      refine (Hq.out _).mono ?_
      rintro e w3 ⟨rfl, hb3⟩
      go_wp2_with fail
      refine (Hr.out _).mono ?_
      rintro e w4 ⟨rfl, hb4⟩
      have q4 := (Row8.new (w := w3) Q).below hb4
      have hl3 : w.heap.size ≤ w3.heap.size := (below_step B2.out hb3).size
      have B4 := Lib.hid (below_step (below_step (below_step (below_step B2.out hb3) (below_alloc w3 (.cells #[.int .i64 (dg 0 Q), .int .i64 (dg 1 Q), .int .i64 (dg 2 Q), .int .i64 (dg 3 Q), .int .i64 (dg 4 Q), .int .i64 (dg 5 Q), .int .i64 (dg 6 Q), .int .i64 (dg 7 Q)] 23))) hb4) (below_alloc w4 (.cells #[.int .i64 (dg 0 R), .int .i64 (dg 1 R), .int .i64 (dg 2 R), .int .i64 (dg 3 R), .int .i64 (dg 4 R), .int .i64 (dg 5 R), .int .i64 (dg 6 R), .int .i64 (dg 7 R)] 23)))
      have hl4 : w.heap.size ≤ w4.heap.size := (below_step (below_step (below_step B2.out hb3) (below_alloc w3 (.cells #[.int .i64 (dg 0 Q), .int .i64 (dg 1 Q), .int .i64 (dg 2 Q), .int .i64 (dg 3 Q), .int .i64 (dg 4 Q), .int .i64 (dg 5 Q), .int .i64 (dg 6 Q), .int .i64 (dg 7 Q)] 23))) hb4).size
      have hne : w3.heap.size < w4.heap.size := q4.lt
      have q5 := q4.below (below_alloc w4 (.cells #[.int .i64 (dg 0 R), .int .i64 (dg 1 R), .int .i64 (dg 2 R), .int .i64 (dg 3 R), .int .i64 (dg 4 R), .int .i64 (dg 5 R), .int .i64 (dg 6 R), .int .i64 (dg 7 R)] 23))
      have r5 := Row8.new (w := w4) R
      obtain ⟨W5, h5⟩ : ∃ W, W = w4.alloc (.cells #[.int .i64 (dg 0 R), .int .i64 (dg 1 R), .int .i64 (dg 2 R), .int .i64 (dg 3 R), .int .i64 (dg 4 R), .int .i64 (dg 5 R), .int .i64 (dg 6 R), .int .i64 (dg 7 R)] 23) := ⟨_, rfl⟩
      rw [← h5] at q5 r5 B4
      obtain ⟨bq, hbq⟩ : ∃ bq, bq = w3.heap.size := ⟨_, rfl⟩
      obtain ⟨br, hbr⟩ : ∃ br, br = w4.heap.size := ⟨_, rfl⟩
      have kq0 := q4.c0
      have kq1 := q4.c1
      have kq2 := q4.c2
      have kq3 := q4.c3
      have kq4 := q4.c4
      have kq5 := q4.c5
      have kq6 := q4.c6
      have kq7 := q4.c7
      have H5 := Lib.hid h5
      have Hbq := Lib.hid hbq
      have Hbr := Lib.hid hbr
      have Q5 := Lib.hid q5
      have R5 := Lib.hid r5
      clear h5 hbq hbr q5 r5 q4
      go_wp2_with fail
      have h5 := H5.out
      have hbq := Hbq.out
      have hbr := Hbr.out
      have q5 := Q5.out
      have r5 := R5.out
      rw [← h5, ← hbq, ← hbr]
      rw [← hbq, ← hbr] at hne
      rw [← hbq] at q5 hl3
      rw [← hbr] at r5 hl4
      clear h5 hbq hbr hb3 hb4 H5 Hbq Hbr Q5 R5 kq0 kq1 kq2 kq3 kq4 kq5 kq6 kq7
      have Rq := Lib.hid q5
      have Rr := Lib.hid r5
      clear q5 r5
      refine (Hl.out _).mono ?_
      rintro e v6 ⟨rfl, hv6⟩
      have q6 := Rq.out.below hv6
      have r6 := Rr.out.below hv6
      have D6 := below_step B4.out hv6
      clear Rq Rr B4 hv6
      have kq0 := q6.c0
      have kq1 := q6.c1
      have kq2 := q6.c2
      have kq3 := q6.c3
      have kq4 := q6.c4
      have kq5 := q6.c5
      have kq6 := q6.c6
      have kq7 := q6.c7
      have kr0 := r6.c0
      have kr1 := r6.c1
      have kr2 := r6.c2
      have kr3 := r6.c3
      have kr4 := r6.c4
      have kr5 := r6.c5
      have kr6 := r6.c6
      have kr7 := r6.c7
      have kf := r6.fr
      have hne2 : bq ≠ br := Nat.ne_of_lt hne
      obtain ⟨W6, h6⟩ : ∃ W, W = ((((((((v6.setCell ⟨br, 0, none⟩ (.int .i64 (dg 0 L))).setCell ⟨br, 1, none⟩ (.int .i64 (dg 1 L))).setCell ⟨br, 2, none⟩ (.int .i64 (dg 2 L))).setCell ⟨br, 3, none⟩ (.int .i64 (dg 3 L))).setCell ⟨br, 4, none⟩ (.int .i64 (dg 4 L))).setCell ⟨br, 5, none⟩ (.int .i64 (dg 5 L))).setCell ⟨br, 6, none⟩ (.int .i64 (dg 6 L))).setCell ⟨br, 7, none⟩ (.int .i64 (dg 7 L))) := ⟨_, rfl⟩
      have Rq := Lib.hid (show Row8 bq Q W6 from h6 ▸ q6.far8 (Ne.symm hne2) _ _ _ _ _ _ _ _)
      have Rr := Lib.hid (show Row8 br L W6 from h6 ▸ r6.set)
      have B6 := Lib.hid (show Below w.heap.size w W6 from h6 ▸ below_set8 D6 hl4 _ _ _ _ _ _ _ _)
      have HH := Lib.hid h6
      clear h6 q6 r6 D6 hne2
      go_wp2_with fail
      rw [← HH.out]
      clear HH kf kq0 kr0 kq1 kr1 kq2 kr2 kq3 kr3 kq4 kr4 kq5 kr5 kq6 kr6 kq7 kr7
      have rq := Rq.out
      have rr := Rr.out
      have kq0 := fun d os => cell_regrown rq.c0 d os
      have kr0 := fun d os => cell_regrown rr.c0 d os
      have kq1 := fun d os => cell_regrown rq.c1 d os
      have kr1 := fun d os => cell_regrown rr.c1 d os
      have kq2 := fun d os => cell_regrown rq.c2 d os
      have kr2 := fun d os => cell_regrown rr.c2 d os
      have kq3 := fun d os => cell_regrown rq.c3 d os
      have kr3 := fun d os => cell_regrown rr.c3 d os
      have kq4 := fun d os => cell_regrown rq.c4 d os
      have kr4 := fun d os => cell_regrown rr.c4 d os
      have kq5 := fun d os => cell_regrown rq.c5 d os
      have kr5 := fun d os => cell_regrown rr.c5 d os
      have kq6 := fun d os => cell_regrown rq.c6 d os
      have kr6 := fun d os => cell_regrown rr.c6 d os
      have kq7 := fun d os => cell_regrown rq.c7 d os
      have kr7 := fun d os => cell_regrown rr.c7 d os
      have cn : ∀ dd os, Calls Try.prog 15 #[dx Q] (grow (redrawn W6 dd) os) fun e w'' => e = .returned (.int .i64 p) ∧ ∃ p : Regrown, w'' = grow (redrawn W6 p.d) p.os := fun dd os => Calls.regrown_of (Hn.out _)
      have cm : ∀ dd os, Calls Try.prog 15 #[dx L] (grow (redrawn W6 dd) os) fun e w'' => e = .returned (.int .i64 l) ∧ ∃ p : Regrown, w'' = grow (redrawn W6 p.d) p.os := fun dd os => Calls.regrown_of (Hm.out _)
      clear rq rr Rq Rr
      refine wp_region_quiet_below (by kernel_rfl) (by kernel_rfl) ?_
      repeat (quiet_step (first | with_reducible exact cn _ _ | with_reducible exact cm _ _))
      refine wpQuiet_nil ?_
      intro _ hw'
      obtain ⟨⟨dq, osq⟩, hw''⟩ := hw'
      subst hw''
      go_wp2
      go_ret2
      exact ⟨rfl, below_step B6.out (below_regrown W6 dq osq)⟩
    · have e1 : (((m + 1 : Nat) : Int) - 1) = (m : Int) := by omega
      rw [e1]
      clear e1
      have HD := Lib.hid (dround x y m hy)
      have hr := dr_lt x y (m + 1) hy
      have hr' := dr_lt x y m hy
      have hq := dq_le x y (m + 1)
      have hq' := dq_le x y m
      have hX := hx.out
      have hY := hy2.out
      have hm : m < 64 := by omega
      obtain ⟨pm, hpm⟩ : ∃ pm : Nat, (2 : Nat) ^ m = pm := ⟨_, rfl⟩
      have hpb : pm ≤ 9223372036854775808 := by
        rw [← hpm]
        have : (2 : Nat) ^ m ≤ 2 ^ 63 := Nat.pow_le_pow_right (by omega) (by omega)
        have e : (2 : Nat) ^ 63 = 9223372036854775808 := by decide
        omega
      have hpi : (2 : Int) ^ m = (pm : Int) := by rw [← hpm]; push_cast; rfl
      have hbit : ((x : Int) / (pm : Int)).tmod 2 = ((x / 2 ^ m % 2 : Nat) : Int) := by
        rw [hpm, Int.tmod_eq_emod_of_nonneg (Int.ediv_nonneg (by omega) (by omega))]; push_cast; rfl
      have hb2 : x / 2 ^ m % 2 < 2 := Nat.mod_lt _ (by omega)
      rw [hpm] at HD hbit hb2
      generalize x / pm % 2 = bt at *
      obtain ⟨d1, hd1⟩ : ∃ d1, dr x y (m + 1) = d1 := ⟨_, rfl⟩
      obtain ⟨d0, hd0⟩ : ∃ d0, dr x y m = d0 := ⟨_, rfl⟩
      obtain ⟨q1, hq1⟩ : ∃ q1, dq x y (m + 1) = q1 := ⟨_, rfl⟩
      obtain ⟨q0, hq0⟩ : ∃ q0, dq x y m = q0 := ⟨_, rfl⟩
      rw [hd1, hd0, hq1, hq0] at HD
      rw [hd1] at hr
      rw [hd0] at hr'
      rw [hq1] at hq
      rw [hq0] at hq'
      rw [hd1, hq1]
      have E0 := Lib.hid hd0
      have E1 := Lib.hid hq0
      clear hd0 hd1 hq0 hq1 hpm
      obtain ⟨D1, hD1⟩ : ∃ D : Int, (d1 : Int) = D := ⟨_, rfl⟩
      obtain ⟨Q1, hQ1⟩ : ∃ D : Int, (q1 : Int) = D := ⟨_, rfl⟩
      obtain ⟨PM, hPM⟩ : ∃ D : Int, (pm : Int) = D := ⟨_, rfl⟩
      obtain ⟨BT, hBT⟩ : ∃ D : Int, (bt : Int) = D := ⟨_, rfl⟩
      have i1 : D1 < 9223372036854775808 := by omega
      have i2 : D1 < (y : Int) := by omega
      have i3 : (y : Int) ≤ 9223372036854775808 := by omega
      have i4 : PM ≤ 9223372036854775808 := by omega
      have i5 : Q1 ≤ 9223372036854775808 := by omega
      have i6 : 0 ≤ BT := by omega
      have i7 : BT ≤ 1 := by omega
      have i8 : 0 ≤ D1 := by omega
      have i9 : 0 ≤ Q1 := by omega
      have i10 : 0 ≤ PM := by omega
      rw [hPM] at hpi hbit
      rw [hBT] at hbit
      rw [hD1, hQ1]
      by_cases hlt : 2 * d1 + bt < y
      · have i11 : D1 * 2 + BT < (y : Int) := by omega
        have Z := Lib.hid (HD.out.1 hlt)
        have Z1 : Hid ((d0 : Int) = D1 * 2 + BT) := Lib.hid (by have := Z.out.1; omega)
        have Z2 : Hid ((q0 : Int) = Q1) := Lib.hid (by have := Z.out.2; omega)
        clear hX hY hpb hq hq' hD1 hQ1 hPM hBT hr hr' hb2 hlt
        go_wp2
        go_round
        case rel => exact ⟨m, by omega, by go_num, by rw [E1.out, Z2.out], by rw [E0.out, Z1.out]⟩
        case measure => simp [intOf]
      · have i11 : (y : Int) ≤ D1 * 2 + BT := by omega
        have Z := Lib.hid (HD.out.2 (by omega))
        have i12 : Q1 + PM ≤ 9223372036854775808 := by have := Z.out.2; omega
        have Z1 : Hid ((d0 : Int) = D1 * 2 + BT - y) := Lib.hid (by have := Z.out.1; omega)
        have Z2 : Hid ((q0 : Int) = Q1 + PM) := Lib.hid (by have := Z.out.2; omega)
        clear hX hY hpb hq hq' hD1 hQ1 hPM hBT hr hr' hb2 hlt
        go_wp2
        go_round
        case rel => exact ⟨m, by omega, by go_num, by rw [E1.out, Z2.out], by rw [E0.out, Z1.out]⟩
        case measure => simp [intOf]

set_option maxRecDepth 100000 in
set_option maxHeartbeats 1000000 in
theorem div_pp (a b : Int) (x y : Nat) (P L p l : Int) (w : World) (hx : Hid (x ≤ 9223372036854775808)) (hy : 0 < y) (hy2 : Hid (y ≤ 9223372036854775808))
    (ha : decide (a < 0) = false) (hb : decide (b < 0) = false)
    (H1 : Hid (∀ w, Calls Try.prog 25 #[.int .i64 a] w fun e w' => e = .returned (.int .u64 x) ∧ Below w.heap.size w w'))
    (H2 : Hid (∀ w, Calls Try.prog 25 #[.int .i64 b] w fun e w' => e = .returned (.int .u64 y) ∧ Below w.heap.size w w'))
    (Hq : Hid (∀ w, Calls Try.prog 12 #[.int .i64 (wrap64 (x / y : Nat))] w fun e w' => e = .returned (dx (x / y : Nat)) ∧ Below w.heap.size w w'))
    (Hr : Hid (∀ w, Calls Try.prog 12 #[.int .i64 (wrap64 (x % y : Nat))] w fun e w' => e = .returned (dx (x % y : Nat)) ∧ Below w.heap.size w w'))
    (Hp : Hid (∀ w, Calls Try.prog 17 #[dx (x / y : Nat)] w fun e w' => e = .returned (dx P) ∧ Below w.heap.size w w'))
    (Hl : Hid (∀ w, Calls Try.prog 17 #[dx (x % y : Nat)] w fun e w' => e = .returned (dx L) ∧ Below w.heap.size w w'))
    (Hn : Hid (∀ w, Calls Try.prog 15 #[dx (x / y : Nat)] w fun e w' => e = .returned (.int .i64 p) ∧ Below w.heap.size w w'))
    (Hm : Hid (∀ w, Calls Try.prog 15 #[dx (x % y : Nat)] w fun e w' => e = .returned (.int .i64 l) ∧ Below w.heap.size w w')) :
    Calls Try.prog 24 #[.int .i64 a, .int .i64 b] w fun e w' => e = .returned (.tuple #[.int .i64 p, .int .i64 l]) ∧ Below w.heap.size w w' := by
  go_enter Try.func24, Try.ntmps24
  go_wp2_with fail
  refine (H1.out _).mono ?_
  rintro e w1 ⟨rfl, hb1⟩
  go_wp2_with fail
  refine (H2.out _).mono ?_
  rintro e w2 ⟨rfl, hb2⟩
  have B2 := Lib.hid (below_step hb1 hb2)
  clear hb1 hb2
  go_wp2_with fail
  go_loop [8, 9, 10] (fun q r i => ∃ j : Nat, j ≤ 64 ∧ i = .int .i64 ((j : Int) - 1) ∧ q = .int .u64 (dq x y j : Nat) ∧ r = .int .u64 (dr x y j : Nat)) (fun _ _ i => (intOf i + 1).toNat)
  case atStart => exact ⟨64, by omega, rfl, by rw [(dq_start x y hx.out).1]; rfl, by rw [(dq_start x y hx.out).2]; rfl⟩
  case round =>
    obtain ⟨j, hj, rfl, rfl, rfl⟩ := hrel
    rcases j with _ | m
    · rw [(dq_end x y).1, (dq_end x y).2]
      have e1 : (((0 : Nat) : Int) - 1) = -1 := by omega
      rw [e1]
      clear e1
      generalize ((x / y : Nat) : Int) = Q at *
      generalize ((x % y : Nat) : Int) = R at *
      go_wp2_with fail
      refine (Hq.out _).mono ?_
      rintro e w3 ⟨rfl, hb3⟩
      go_wp2_with fail
      refine (Hr.out _).mono ?_
      rintro e w4 ⟨rfl, hb4⟩
      have q4 := (Row8.new (w := w3) Q).below hb4
      have hl3 : w.heap.size ≤ w3.heap.size := (below_step B2.out hb3).size
      have B4 := Lib.hid (below_step (below_step (below_step (below_step B2.out hb3) (below_alloc w3 (.cells #[.int .i64 (dg 0 Q), .int .i64 (dg 1 Q), .int .i64 (dg 2 Q), .int .i64 (dg 3 Q), .int .i64 (dg 4 Q), .int .i64 (dg 5 Q), .int .i64 (dg 6 Q), .int .i64 (dg 7 Q)] 23))) hb4) (below_alloc w4 (.cells #[.int .i64 (dg 0 R), .int .i64 (dg 1 R), .int .i64 (dg 2 R), .int .i64 (dg 3 R), .int .i64 (dg 4 R), .int .i64 (dg 5 R), .int .i64 (dg 6 R), .int .i64 (dg 7 R)] 23)))
      have hl4 : w.heap.size ≤ w4.heap.size := (below_step (below_step (below_step B2.out hb3) (below_alloc w3 (.cells #[.int .i64 (dg 0 Q), .int .i64 (dg 1 Q), .int .i64 (dg 2 Q), .int .i64 (dg 3 Q), .int .i64 (dg 4 Q), .int .i64 (dg 5 Q), .int .i64 (dg 6 Q), .int .i64 (dg 7 Q)] 23))) hb4).size
      have hne : w3.heap.size < w4.heap.size := q4.lt
      have q5 := q4.below (below_alloc w4 (.cells #[.int .i64 (dg 0 R), .int .i64 (dg 1 R), .int .i64 (dg 2 R), .int .i64 (dg 3 R), .int .i64 (dg 4 R), .int .i64 (dg 5 R), .int .i64 (dg 6 R), .int .i64 (dg 7 R)] 23))
      have r5 := Row8.new (w := w4) R
      obtain ⟨W5, h5⟩ : ∃ W, W = w4.alloc (.cells #[.int .i64 (dg 0 R), .int .i64 (dg 1 R), .int .i64 (dg 2 R), .int .i64 (dg 3 R), .int .i64 (dg 4 R), .int .i64 (dg 5 R), .int .i64 (dg 6 R), .int .i64 (dg 7 R)] 23) := ⟨_, rfl⟩
      rw [← h5] at q5 r5 B4
      obtain ⟨bq, hbq⟩ : ∃ bq, bq = w3.heap.size := ⟨_, rfl⟩
      obtain ⟨br, hbr⟩ : ∃ br, br = w4.heap.size := ⟨_, rfl⟩
      have kq0 := q4.c0
      have kq1 := q4.c1
      have kq2 := q4.c2
      have kq3 := q4.c3
      have kq4 := q4.c4
      have kq5 := q4.c5
      have kq6 := q4.c6
      have kq7 := q4.c7
      have H5 := Lib.hid h5
      have Hbq := Lib.hid hbq
      have Hbr := Lib.hid hbr
      have Q5 := Lib.hid q5
      have R5 := Lib.hid r5
      clear h5 hbq hbr q5 r5 q4
      go_wp2_with fail
      have h5 := H5.out
      have hbq := Hbq.out
      have hbr := Hbr.out
      have q5 := Q5.out
      have r5 := R5.out
      rw [← h5, ← hbq, ← hbr]
      rw [← hbq, ← hbr] at hne
      rw [← hbq] at q5 hl3
      rw [← hbr] at r5 hl4
      clear h5 hbq hbr hb3 hb4 H5 Hbq Hbr Q5 R5 kq0 kq1 kq2 kq3 kq4 kq5 kq6 kq7
      have Rq := Lib.hid q5
      have Rr := Lib.hid r5
      clear q5 r5
      have rq := Rq.out
      have rr := Rr.out
      have kq0 := fun d os => cell_regrown rq.c0 d os
      have kr0 := fun d os => cell_regrown rr.c0 d os
      have kq1 := fun d os => cell_regrown rq.c1 d os
      have kr1 := fun d os => cell_regrown rr.c1 d os
      have kq2 := fun d os => cell_regrown rq.c2 d os
      have kr2 := fun d os => cell_regrown rr.c2 d os
      have kq3 := fun d os => cell_regrown rq.c3 d os
      have kr3 := fun d os => cell_regrown rr.c3 d os
      have kq4 := fun d os => cell_regrown rq.c4 d os
      have kr4 := fun d os => cell_regrown rr.c4 d os
      have kq5 := fun d os => cell_regrown rq.c5 d os
      have kr5 := fun d os => cell_regrown rr.c5 d os
      have kq6 := fun d os => cell_regrown rq.c6 d os
      have kr6 := fun d os => cell_regrown rr.c6 d os
      have kq7 := fun d os => cell_regrown rq.c7 d os
      have kr7 := fun d os => cell_regrown rr.c7 d os
      have cn : ∀ dd os, Calls Try.prog 15 #[dx Q] (grow (redrawn W5 dd) os) fun e w'' => e = .returned (.int .i64 p) ∧ ∃ p : Regrown, w'' = grow (redrawn W5 p.d) p.os := fun dd os => Calls.regrown_of (Hn.out _)
      have cm : ∀ dd os, Calls Try.prog 15 #[dx R] (grow (redrawn W5 dd) os) fun e w'' => e = .returned (.int .i64 l) ∧ ∃ p : Regrown, w'' = grow (redrawn W5 p.d) p.os := fun dd os => Calls.regrown_of (Hm.out _)
      clear rq rr Rq Rr
      refine wp_region_quiet_below (by kernel_rfl) (by kernel_rfl) ?_
      repeat (quiet_step (first | with_reducible exact cn _ _ | with_reducible exact cm _ _))
      refine wpQuiet_nil ?_
      intro _ hw'
      obtain ⟨⟨dq, osq⟩, hw''⟩ := hw'
      subst hw''
      go_wp2
      go_ret2
      exact ⟨rfl, below_step B4.out (below_regrown W5 dq osq)⟩
    · have e1 : (((m + 1 : Nat) : Int) - 1) = (m : Int) := by omega
      rw [e1]
      clear e1
      have HD := Lib.hid (dround x y m hy)
      have hr := dr_lt x y (m + 1) hy
      have hr' := dr_lt x y m hy
      have hq := dq_le x y (m + 1)
      have hq' := dq_le x y m
      have hX := hx.out
      have hY := hy2.out
      have hm : m < 64 := by omega
      obtain ⟨pm, hpm⟩ : ∃ pm : Nat, (2 : Nat) ^ m = pm := ⟨_, rfl⟩
      have hpb : pm ≤ 9223372036854775808 := by
        rw [← hpm]
        have : (2 : Nat) ^ m ≤ 2 ^ 63 := Nat.pow_le_pow_right (by omega) (by omega)
        have e : (2 : Nat) ^ 63 = 9223372036854775808 := by decide
        omega
      have hpi : (2 : Int) ^ m = (pm : Int) := by rw [← hpm]; push_cast; rfl
      have hbit : ((x : Int) / (pm : Int)).tmod 2 = ((x / 2 ^ m % 2 : Nat) : Int) := by
        rw [hpm, Int.tmod_eq_emod_of_nonneg (Int.ediv_nonneg (by omega) (by omega))]; push_cast; rfl
      have hb2 : x / 2 ^ m % 2 < 2 := Nat.mod_lt _ (by omega)
      rw [hpm] at HD hbit hb2
      generalize x / pm % 2 = bt at *
      obtain ⟨d1, hd1⟩ : ∃ d1, dr x y (m + 1) = d1 := ⟨_, rfl⟩
      obtain ⟨d0, hd0⟩ : ∃ d0, dr x y m = d0 := ⟨_, rfl⟩
      obtain ⟨q1, hq1⟩ : ∃ q1, dq x y (m + 1) = q1 := ⟨_, rfl⟩
      obtain ⟨q0, hq0⟩ : ∃ q0, dq x y m = q0 := ⟨_, rfl⟩
      rw [hd1, hd0, hq1, hq0] at HD
      rw [hd1] at hr
      rw [hd0] at hr'
      rw [hq1] at hq
      rw [hq0] at hq'
      rw [hd1, hq1]
      have E0 := Lib.hid hd0
      have E1 := Lib.hid hq0
      clear hd0 hd1 hq0 hq1 hpm
      obtain ⟨D1, hD1⟩ : ∃ D : Int, (d1 : Int) = D := ⟨_, rfl⟩
      obtain ⟨Q1, hQ1⟩ : ∃ D : Int, (q1 : Int) = D := ⟨_, rfl⟩
      obtain ⟨PM, hPM⟩ : ∃ D : Int, (pm : Int) = D := ⟨_, rfl⟩
      obtain ⟨BT, hBT⟩ : ∃ D : Int, (bt : Int) = D := ⟨_, rfl⟩
      have i1 : D1 < 9223372036854775808 := by omega
      have i2 : D1 < (y : Int) := by omega
      have i3 : (y : Int) ≤ 9223372036854775808 := by omega
      have i4 : PM ≤ 9223372036854775808 := by omega
      have i5 : Q1 ≤ 9223372036854775808 := by omega
      have i6 : 0 ≤ BT := by omega
      have i7 : BT ≤ 1 := by omega
      have i8 : 0 ≤ D1 := by omega
      have i9 : 0 ≤ Q1 := by omega
      have i10 : 0 ≤ PM := by omega
      rw [hPM] at hpi hbit
      rw [hBT] at hbit
      rw [hD1, hQ1]
      by_cases hlt : 2 * d1 + bt < y
      · have i11 : D1 * 2 + BT < (y : Int) := by omega
        have Z := Lib.hid (HD.out.1 hlt)
        have Z1 : Hid ((d0 : Int) = D1 * 2 + BT) := Lib.hid (by have := Z.out.1; omega)
        have Z2 : Hid ((q0 : Int) = Q1) := Lib.hid (by have := Z.out.2; omega)
        clear hX hY hpb hq hq' hD1 hQ1 hPM hBT hr hr' hb2 hlt
        go_wp2
        go_round
        case rel => exact ⟨m, by omega, by go_num, by rw [E1.out, Z2.out], by rw [E0.out, Z1.out]⟩
        case measure => simp [intOf]
      · have i11 : (y : Int) ≤ D1 * 2 + BT := by omega
        have Z := Lib.hid (HD.out.2 (by omega))
        have i12 : Q1 + PM ≤ 9223372036854775808 := by have := Z.out.2; omega
        have Z1 : Hid ((d0 : Int) = D1 * 2 + BT - y) := Lib.hid (by have := Z.out.1; omega)
        have Z2 : Hid ((q0 : Int) = Q1 + PM) := Lib.hid (by have := Z.out.2; omega)
        clear hX hY hpb hq hq' hD1 hQ1 hPM hBT hr hr' hb2 hlt
        go_wp2
        go_round
        case rel => exact ⟨m, by omega, by go_num, by rw [E1.out, Z2.out], by rw [E0.out, Z1.out]⟩
        case measure => simp [intOf]

end Go.Proofs.Ythkimoladjpjgaa
