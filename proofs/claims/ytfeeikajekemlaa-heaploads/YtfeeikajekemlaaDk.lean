/-
  The document's Put, where something is put. Conditions: texts and lists of at most 100000.
-/
import Derived.Test.YtfeeikajekemlaaDf
import Derived.Test.YtfeeikajekemlaaWe
import Derived.Test.YtfeeikajekemlaaFl
import Derived.Test.YtfeeikajekemlaaRs
import Derived.Test.YtfeeikajekemlaaWp
import Derived.IntWalk
import Derived.Test.YtfeeikajekemlaaDj
namespace Go.Proofs.Ytfeeikajekemlaa
open Go.RowKit
set_option linter.unusedVariables false
set_option linter.unusedSimpArgs false
set_option maxRecDepth 100000

theorem oth4k {w : World} {g k : Nat} (u0 u1 u2 u3 : Value) : Oth (fun q => q = g) w ((((w.setCell ⟨g, k, none⟩ u0).setCell ⟨g, k + 1, none⟩ u1).setCell ⟨g, k + 2, none⟩ u2).setCell ⟨g, k + 3, none⟩ u3) :=
  ((((Oth.refl (fun q => q = g) w).set (q := ⟨g, k, none⟩) rfl u0).set (q := ⟨g, k + 1, none⟩) rfl u1).set (q := ⟨g, k + 2, none⟩) rfl u2).set (q := ⟨g, k + 3, none⟩) rfl u3
theorem oth1k {w : World} {g k : Nat} (u : Value) : Oth (fun q => q = g) w (w.setCell ⟨g, k, none⟩ u) := (Oth.refl (fun q => q = g) w).set (q := ⟨g, k, none⟩) rfl u
theorem bx_set3 {w : World} {b : Nat} {x : Oc} {a : Option Addr} {n c : Nat} (h : w.rowIs b 45 4 (ocF x)) : (w.setCell ⟨b, 3, none⟩ (.slice a n c)).rowIs b 45 4 (ocF ⟨x.kind, x.of, x.text, a, n, c⟩) :=
  (h.set 3 _).congr fun j hj => by
    match j, hj with
    | 0, _ => rfl
    | 1, _ => rfl
    | 2, _ => rfl
    | 3, _ => rfl

set_option maxHeartbeats 40000000 in
theorem putd_5 {P : Nat → Prop} {w : World} {a : Option Addr} {N c room : Nat} {m : M} (h : RL P w a N c m.L) (hN : N ≤ 65536) (kd : Nat) (i : Nat) (j : Nat) (re im : Int) (kx : Nat) (nx rx ix : Int) (hk : kd ≠ 3) (hn : nameB m.L ⟨kd, (i : Int) + 1, re, im⟩ = true) (hj : j < (ob m.L i).vals.length) (hjm : (ob m.L i).vals.length ≤ 100000) (hP : ∀ b, w.heap.size ≤ b → P b) :
    Calls Try.prog 31 #[.agg #[.int .i64 room, .int .i64 (m.cells : Nat), .slice a N c], .agg #[.int .u8 kd, .int .i64 ((i : Int) + 1), .int .i64 re, .int .i64 im], .int .i64 (j : Int), .agg #[.int .u8 kx, .int .i64 nx, .int .i64 rx, .int .i64 ix]] w (PutD P w room ⟨m.cells, m.L.set i (putO (ob m.L i) j ⟨kx, nx, rx, ix⟩)⟩ 0) := by
  have e3 : ((kd : Int) == 3) = false := by rw [beq_eq_false_iff_ne]; omega
  have Hn : Hid (∀ w' : World, Below w.heap.size w w' → Calls Try.prog 35 #[.agg #[.int .i64 room, .int .i64 (m.cells : Nat), .slice a N c], .agg #[.int .u8 kd, .int .i64 ((i : Int) + 1), .int .i64 re, .int .i64 im]] w' fun e w'' => e = .returned (.bool true) ∧ Below w'.heap.size w' w'') := Lib.hid fun w' hb => by
    have := names_any room (m.cells : Nat) (h.kp (kp_below hb)) hN ⟨kd, (i : Int) + 1, re, im⟩
    rw [hn] at this
    exact this
  have hi : i < N := by
    have h1 := (name_parts hn).2.2.1
    have h2 : at_ ⟨kd, (i : Int) + 1, re, im⟩ = i := by simp [at_]
    obtain ⟨cs, _, h3, _⟩ := h
    omega
  obtain ⟨cs, h1, h2, h3, h4, h5⟩ := id h
  obtain ⟨b, o, hab, hPb, hat⟩ := h4 i (by omega)
  have hlk := h5 i hi
  obtain ⟨⟨ko, oo, to, ao, no, co⟩, hx⟩ : ∃ x, oc cs i = x := ⟨_, rfl⟩
  rw [hx] at hat hlk
  obtain ⟨e0, e1, e2, e4⟩ := hat
  simp only at e0 e1 e2 e4
  have hlen : (ob m.L i).vals.length = no := hlk.len
  have hrow := hlk.row
  have hnil := hlk.nil
  have hLk : ko = (ob m.L i).kind ∧ oo = (ob m.L i).of ∧ to = (ob m.L i).text := ⟨hlk.kind, hlk.of, hlk.text⟩
  simp only at hrow hnil
  obtain ⟨l, hl⟩ : ∃ l, (ob m.L i).vals = l := ⟨_, rfl⟩
  rw [hl] at hlen hrow hj hjm
  rw [hlen] at hj hjm
  subst hab
  obtain ⟨C, L⟩ := m
  simp only at h h2 h5 hl hLk Hn ⊢
  replace h1 := Lib.hid h1
  replace h2 := Lib.hid h2
  replace h3 := Lib.hid h3
  replace h4 := Lib.hid h4
  replace h5 := Lib.hid h5
  replace hl := Lib.hid hl
  replace hLk := Lib.hid hLk
  replace hlen := Lib.hid hlen
  replace hrow := Lib.hid hrow
  replace hnil := Lib.hid hnil
  replace hP := Lib.hid hP
  replace e0 := Lib.hid e0
  replace e1 := Lib.hid e1
  replace e2 := Lib.hid e2
  replace e4 := Lib.hid e4
  clear hk hn h hlk hx hPb
  go_enter Try.func31, Try.ntmps31
  go_wp2_with (first | ((with_reducible refine (Hn.out _ (by go_grown)).mono ?_); rintro e w2 ⟨rfl, hb⟩; have hB := Lib.hid (below_step (by go_grown) hb : Below w.heap.size w w2); have hz2 : w.heap.size + 1 + 1 + 1 < w2.heap.size := (by have := hb.size; simp at this; omega); have z0 : w2.cell? ⟨w.heap.size, 0, none⟩ = some (.int .i64 room) := (by rw [(bcell hb).1 _ _ (by simp; try omega)]; simp [go_sem]); have z1 : w2.cell? ⟨w.heap.size, 1, none⟩ = some (.int .i64 C) := (by rw [(bcell hb).1 _ _ (by simp; try omega)]; simp [go_sem]); have z2 : w2.cell? ⟨w.heap.size, 2, none⟩ = some (.slice (some ⟨b, o, none⟩) N c) := (by rw [(bcell hb).1 _ _ (by simp; try omega)]; simp [go_sem]); have v0_ : w2.cell? ⟨w.heap.size + 1, 0, none⟩ = some (.int .u8 kd) := (by rw [(bcell hb).1 _ _ (by simp; try omega)]; simp [go_sem]); have v1_ : w2.cell? ⟨w.heap.size + 1, 1, none⟩ = some (.int .i64 ((i : Int) + 1)) := (by rw [(bcell hb).1 _ _ (by simp; try omega)]; simp [go_sem]); have x0 : w2.cell? ⟨w.heap.size + 1 + 1, 0, none⟩ = some (.int .u8 kx) := (by rw [(bcell hb).1 _ _ (by simp; try omega)]; simp [go_sem]); have x1 : w2.cell? ⟨w.heap.size + 1 + 1, 1, none⟩ = some (.int .i64 nx) := (by rw [(bcell hb).1 _ _ (by simp; try omega)]; simp [go_sem]); have x2 : w2.cell? ⟨w.heap.size + 1 + 1, 2, none⟩ = some (.int .i64 rx) := (by rw [(bcell hb).1 _ _ (by simp; try omega)]; simp [go_sem]); have x3 : w2.cell? ⟨w.heap.size + 1 + 1, 3, none⟩ = some (.int .i64 ix) := (by rw [(bcell hb).1 _ _ (by simp; try omega)]; simp [go_sem]); have s0 : w2.cell? ⟨w.heap.size + 1 + 1 + 1, 0, none⟩ = some (.int .i64 0) := (by rw [(bcell hb).1 _ _ (by simp; try omega)]; simp [go_sem]); have s1 : w2.cell? ⟨w.heap.size + 1 + 1 + 1, 1, none⟩ = some (.int .i64 0) := (by rw [(bcell hb).1 _ _ (by simp; try omega)]; simp [go_sem]); have s2 : w2.cell? ⟨w.heap.size + 1 + 1 + 1, 2, none⟩ = some (.slice none 0 0) := (by rw [(bcell hb).1 _ _ (by simp; try omega)]; simp [go_sem]); have sf : ∀ q, w2.frozen? ⟨w.heap.size + 1 + 1 + 1, q, none⟩ = false := (fun q => by rw [(bcell hb).2 _ _ (by simp; try omega)]; simp [go_sem]); have zf : ∀ q, w2.frozen? ⟨w.heap.size, q, none⟩ = false := (fun q => by rw [(bcell hb).2 _ _ (by simp; try omega)]; simp [go_sem]); have k0 := cell_carry hB.out e0.out; have k1 := cell_carry hB.out e1.out; have k2 := cell_carry hB.out e2.out; have k4 := cell_carry hB.out e4.out; obtain ⟨W3, hW3⟩ : ∃ W3, W3 = w2.alloc (.cells #[.int .u8 ko, .int .i64 oo, .string to, .slice ao no co] 45) := ⟨_, rfl⟩; have hg3 : Below w2.heap.size w2 W3 := (by rw [hW3]; go_grown); have hs3 : W3.heap.size = w2.heap.size + 1 := (by rw [hW3]; simp); have bx3 := (by rw [hW3]; exact box_row w2 ⟨ko, oo, to, ao, no, co⟩ : W3.rowIs w2.heap.size 45 4 (ocF ⟨ko, oo, to, ao, no, co⟩)); have own0 := ownV_empty (w := W3) (B := W3.heap.size) (Nat.le_refl _); rw [hs3] at own0; have F3 := Lib.hid (And.intro (cell_carry hg3 z0) ( And.intro (cell_carry hg3 z1) ( And.intro (cell_carry hg3 z2) ( And.intro (cell_carry hg3 v0_) ( And.intro (cell_carry hg3 v1_) ( And.intro (cell_carry hg3 x0) ( And.intro (cell_carry hg3 x1) ( And.intro (cell_carry hg3 x2) ( And.intro (cell_carry hg3 x3) ( And.intro (cell_carry hg3 s0) ( And.intro (cell_carry hg3 s1) ( And.intro (cell_carry hg3 s2) (And.intro (fun q => froz_carry (o := 0) hg3 s0 (sf q) : ∀ q, W3.frozen? ⟨w.heap.size + 1 + 1 + 1, q, none⟩ = false) (fun q => froz_carry (o := 0) hg3 z0 (zf q) : ∀ q, W3.frozen? ⟨w.heap.size, q, none⟩ = false)))))))))))))); replace hW3 := Lib.hid hW3; replace hg3 := Lib.hid hg3; replace hs3 := Lib.hid hs3; replace bx3 := Lib.hid bx3; replace own0 := Lib.hid own0; clear hb) | (at_builtin; rw [← hW3.out]; refine wpList_appV rfl (.tmp 41) (.tmp 43) rfl (w2.heap.size + 1) (.slice (some ⟨w2.heap.size + 1, 0, none⟩) 0 0) [] l P ao no co rfl rfl hnil.out hlen.out (hrow.out.kp (kp_below ((hB.out.trans (hg3.out.mono hB.out.size)).trans ((below_alloc W3 _).mono (Nat.le_trans hB.out.size hg3.out.size))))) own0.out (by have := hs3.out; simp; omega) (by simp; omega) ?_; intro v4 w4 hown4 hb4; have hb34 : Below W3.heap.size W3 w4 := (below_alloc W3 _).trans (hb4.mono (by rw [hs3.out]; exact Nat.le_refl _)); replace hown4 : OwnV w4 (w2.heap.size + 1) v4 l := hown4; have hlen' := hlen.out; obtain ⟨gr, cap, rfl, hbg, hgl, tf, tt⟩ := ownV_form hown4 (by omega); obtain ⟨t0, t1, t2, t3⟩ := tt j (by omega); rw [hlen'] at hown4 ⊢; clear tt; obtain ⟨Yz0, Yz1, Yz2, Yv0_, Yv1_, Yx0, Yx1, Yx2, Yx3, Ys0, Ys1, Ys2, Ysf, Yzf⟩ := F3.out; replace z0 := cell_carry hb34 Yz0; replace z1 := cell_carry hb34 Yz1; replace z2 := cell_carry hb34 Yz2; replace v0_ := cell_carry hb34 Yv0_; replace v1_ := cell_carry hb34 Yv1_; replace x0 := cell_carry hb34 Yx0; replace x1 := cell_carry hb34 Yx1; replace x2 := cell_carry hb34 Yx2; replace x3 := cell_carry hb34 Yx3; replace s0 := cell_carry hb34 Ys0; replace s1 := cell_carry hb34 Ys1; replace s2 := cell_carry hb34 Ys2; replace sf := (fun q => froz_carry (o := 0) hb34 Ys0 (Ysf q) : ∀ q, w4.frozen? ⟨w.heap.size + 1 + 1 + 1, q, none⟩ = false); replace zf := (fun q => froz_carry (o := 0) hb34 Yz0 (Yzf q) : ∀ q, w4.frozen? ⟨w.heap.size, q, none⟩ = false); have bx4 := bx3.out.of_block (hb34.block w2.heap.size (by have := hs3.out; omega)); have q0 : w4.cell? ⟨w2.heap.size, 0, none⟩ = some (.int .u8 ko) := bx4.cell (i := 0) (by omega); have q1 : w4.cell? ⟨w2.heap.size, 1, none⟩ = some (.int .i64 oo) := bx4.cell (i := 1) (by omega); have q2 : w4.cell? ⟨w2.heap.size, 2, none⟩ = some (.string to) := bx4.cell (i := 2) (by omega); have q3 : w4.cell? ⟨w2.heap.size, 3, none⟩ = some (.slice ao no co) := bx4.cell (i := 3) (by omega); have qf : ∀ q, w4.frozen? ⟨w2.heap.size, q, none⟩ = false := (fun q => bx4.frozen q); have hw24 : w2.heap.size < w4.heap.size := (by have := hb34.size; have := hs3.out; omega); have ng1 : Hid (gr ≠ w2.heap.size) := Lib.hid (by omega); have ng2 : Hid (gr ≠ w.heap.size) := Lib.hid (by omega); have ng3 : Hid (gr ≠ w.heap.size + 1) := Lib.hid (by omega); have ng4 : Hid (gr ≠ w.heap.size + 1 + 1) := Lib.hid (by omega); have ng5 : Hid (gr ≠ w.heap.size + 1 + 1 + 1) := Lib.hid (by omega); have mg1 : Hid (w2.heap.size ≠ w.heap.size) := Lib.hid (by omega); have mg2 : Hid (w2.heap.size ≠ w.heap.size + 1) := Lib.hid (by omega); have mg4 : Hid (w2.heap.size ≠ w.heap.size + 1 + 1) := Lib.hid (by omega); have mg5 : Hid (w2.heap.size ≠ w.heap.size + 1 + 1 + 1) := Lib.hid (by omega); obtain ⟨W4, hW4⟩ : ∃ W4, W4 = ((((w4.setCell ⟨gr, j * 4, none⟩ (.int .u8 kx)).setCell ⟨gr, j * 4 + 1, none⟩ (.int .i64 nx)).setCell ⟨gr, j * 4 + 2, none⟩ (.int .i64 rx)).setCell ⟨gr, j * 4 + 3, none⟩ (.int .i64 ix)) := ⟨_, rfl⟩; have hrv4 := (by rw [hW4]; exact ownV_set (P := fun q => w2.heap.size + 1 ≤ q) hown4 hlen' hbg j ⟨kx, nx, rx, ix⟩ : RV (fun q => w2.heap.size + 1 ≤ q) W4 (some ⟨gr, 0, none⟩) (l.set j ⟨kx, nx, rx, ix⟩)); obtain ⟨W5, hW5⟩ : ∃ W5, W5 = W4.setCell ⟨w2.heap.size, 3, none⟩ (.slice (some ⟨gr, 0, none⟩) no cap) := ⟨_, rfl⟩; have hE4 : ∀ q, q ≠ gr → W4.heap[q]? = w4.heap[q]? := (fun q hq => by rw [hW4]; exact (set_other (q := ⟨gr, j * 4 + 3, none⟩) hq).trans ((set_other (q := ⟨gr, j * 4 + 2, none⟩) hq).trans ((set_other (q := ⟨gr, j * 4 + 1, none⟩) hq).trans (set_other (q := ⟨gr, j * 4, none⟩) hq)))); have hE5 : ∀ q, q ≠ w2.heap.size → W5.heap[q]? = W4.heap[q]? := (fun q hq => by rw [hW5]; exact set_other (q := ⟨w2.heap.size, 3, none⟩) hq); have hs5 : W5.heap.size = w4.heap.size := (by rw [hW5, hW4]; simp); have hs4 := Lib.hid (by rw [hW4]; simp : W4.heap.size = w4.heap.size); have bx5 := (by rw [hW5]; exact bx_set3 (bx4.of_block (hE4 _ (fun e => ng1.out e.symm))) : W5.rowIs w2.heap.size 45 4 (ocF ⟨ko, oo, to, some ⟨gr, 0, none⟩, no, cap⟩)); have own5 := ownO_empty (w := W5) (B := W5.heap.size) (Nat.le_refl _); rw [hs5] at own5; have hO4 : Oth (fun q => q = gr) w4 W4 := (by rw [hW4]; exact oth4k _ _ _ _); have hO5 : Oth (fun q => q = w2.heap.size) W4 W5 := (by rw [hW5]; exact oth1k _); have hB5 : Below w.heap.size w W5 := Below.mk (hO5.os.trans (hO4.os.trans (hb34.os.trans (hg3.out.os.trans hB.out.os)))) (hO5.tape.trans (hO4.tape.trans (hb34.tape.trans (hg3.out.tape.trans hB.out.tape)))) (hO5.output.trans (hO4.output.trans (hb34.output.trans (hg3.out.output.trans hB.out.output)))) (by rw [hs5]; omega) (fun q hq => (hE5 q (by omega)).trans ((hE4 q (by omega)).trans ((hb34.block q (by have := hs3.out; omega)).trans ((hg3.out.block q (by omega)).trans (hB.out.block q hq))))); clear hO4 hO5; have hC5 := (fun q hq1 hq2 => (hE5 q hq1).trans (hE4 q hq2) : ∀ q, q ≠ w2.heap.size → q ≠ gr → W5.heap[q]? = w4.heap[q]?); have hW45 := (by rw [hW5, hW4] : W5 = (((((w4.setCell ⟨gr, j * 4, none⟩ (.int .u8 kx)).setCell ⟨gr, j * 4 + 1, none⟩ (.int .i64 nx)).setCell ⟨gr, j * 4 + 2, none⟩ (.int .i64 rx)).setCell ⟨gr, j * 4 + 3, none⟩ (.int .i64 ix)).setCell ⟨w2.heap.size, 3, none⟩ (.slice (some ⟨gr, 0, none⟩) no cap))); have F5 := Lib.hid (And.intro (cell_block (hC5 _ mg1.out.symm ng2.out.symm) z0) ( And.intro (cell_block (hC5 _ mg1.out.symm ng2.out.symm) z1) ( And.intro (cell_block (hC5 _ mg1.out.symm ng2.out.symm) z2) ( And.intro (cell_block (hC5 _ mg2.out.symm ng3.out.symm) v0_) ( And.intro (cell_block (hC5 _ mg2.out.symm ng3.out.symm) v1_) ( And.intro (cell_block (hC5 _ mg4.out.symm ng4.out.symm) x0) ( And.intro (cell_block (hC5 _ mg4.out.symm ng4.out.symm) x1) ( And.intro (cell_block (hC5 _ mg4.out.symm ng4.out.symm) x2) ( And.intro (cell_block (hC5 _ mg4.out.symm ng4.out.symm) x3) ( And.intro (cell_block (hC5 _ mg5.out.symm ng5.out.symm) s0) ( And.intro (cell_block (hC5 _ mg5.out.symm ng5.out.symm) s1) ( And.intro (cell_block (hC5 _ mg5.out.symm ng5.out.symm) s2) (And.intro (fun q => (World.frozen?_of_block (a := ⟨w.heap.size + 1 + 1 + 1, q, none⟩) (hC5 _ mg5.out.symm ng5.out.symm)).trans (sf q) : ∀ q, W5.frozen? ⟨w.heap.size + 1 + 1 + 1, q, none⟩ = false) (fun q => (World.frozen?_of_block (a := ⟨w.heap.size, q, none⟩) (hC5 _ mg1.out.symm ng2.out.symm)).trans (zf q) : ∀ q, W5.frozen? ⟨w.heap.size, q, none⟩ = false)))))))))))))); replace hW45 := Lib.hid hW45; replace hrv4 := Lib.hid hrv4; replace hE5 := Lib.hid hE5; replace hs5 := Lib.hid hs5; replace bx5 := Lib.hid bx5; replace own5 := Lib.hid own5; replace hB5 := Lib.hid hB5; clear hW5 hW4 hE4 hC5 bx4 hb34 hb4 hown4 hlen' hg3 Yz0 Yz1 Yz2 Yv0_ Yv1_ Yx0 Yx1 Yx2 Yx3 Ys0 Ys1 Ys2 Ysf Yzf k0 k1 k2 k4; have lw0 : w.heap.size < w4.heap.size := (by omega); have lw1 : w.heap.size + 1 < w4.heap.size := (by omega); have lw2 : w.heap.size + 1 + 1 < w4.heap.size := (by omega); have lw3 : w.heap.size + 1 + 1 + 1 < w4.heap.size := (by omega); replace ng1 := ng1.out; replace ng2 := ng2.out; replace ng3 := ng3.out; replace ng4 := ng4.out; replace ng5 := ng5.out; replace mg1 := mg1.out; replace mg2 := mg2.out; replace mg4 := mg4.out; replace mg5 := mg5.out) | (at_builtin; rw [← hW45.out]; replace ng1 := Lib.hid ng1; replace ng2 := Lib.hid ng2; replace ng3 := Lib.hid ng3; replace ng4 := Lib.hid ng4; replace ng5 := Lib.hid ng5; replace mg1 := Lib.hid mg1; replace mg2 := Lib.hid mg2; replace mg4 := Lib.hid mg4; replace mg5 := Lib.hid mg5; refine wpList_appO rfl (.tmp 52) (.tmp 54) rfl w4.heap.size (.slice (some ⟨w4.heap.size, 0, none⟩) 0 0) [] cs P (some ⟨b, o, none⟩) N c rfl rfl h3.out h1.out (h4.out.kp (kp_below (hB5.out.alloc hB5.out.size _))) own5.out (by have := hs5.out; simp; omega) (by simp; omega) ?_; intro v6 w6 hown6 hb6; have hb56 : Below W5.heap.size W5 w6 := (below_alloc W5 _).trans (hb6.mono (by rw [hs5.out]; exact Nat.le_refl _)); replace hown6 : OwnO w6 w4.heap.size v6 cs := hown6; have hlen6 := h1.out; obtain ⟨gr6, cap6, rfl, hbg6, hgl6, uf, uu⟩ := ownO_form hown6 (by omega); obtain ⟨u0, u1, u2, u3⟩ := uu i (by omega); rw [hlen6] at hown6 ⊢; clear uu hlen6; obtain ⟨Yz0, Yz1, Yz2, Yv0_, Yv1_, Yx0, Yx1, Yx2, Yx3, Ys0, Ys1, Ys2, Ysf, Yzf⟩ := F5.out; replace z0 := cell_carry hb56 Yz0; replace z1 := cell_carry hb56 Yz1; replace z2 := cell_carry hb56 Yz2; replace v0_ := cell_carry hb56 Yv0_; replace v1_ := cell_carry hb56 Yv1_; replace x0 := cell_carry hb56 Yx0; replace x1 := cell_carry hb56 Yx1; replace x2 := cell_carry hb56 Yx2; replace x3 := cell_carry hb56 Yx3; replace s0 := cell_carry hb56 Ys0; replace s1 := cell_carry hb56 Ys1; replace s2 := cell_carry hb56 Ys2; replace sf := (fun q => froz_carry (o := 0) hb56 Ys0 (Ysf q) : ∀ q, w6.frozen? ⟨w.heap.size + 1 + 1 + 1, q, none⟩ = false); replace zf := (fun q => froz_carry (o := 0) hb56 Yz0 (Yzf q) : ∀ q, w6.frozen? ⟨w.heap.size, q, none⟩ = false); have bx6 := bx5.out.of_block (hb56.block w2.heap.size (by have := hs5.out; omega)); replace q0 : w6.cell? ⟨w2.heap.size, 0, none⟩ = some (.int .u8 ko) := bx6.cell (i := 0) (by omega); replace q1 : w6.cell? ⟨w2.heap.size, 1, none⟩ = some (.int .i64 oo) := bx6.cell (i := 1) (by omega); replace q2 : w6.cell? ⟨w2.heap.size, 2, none⟩ = some (.string to) := bx6.cell (i := 2) (by omega); replace q3 : w6.cell? ⟨w2.heap.size, 3, none⟩ = some (.slice (some ⟨gr, 0, none⟩) no cap) := bx6.cell (i := 3) (by omega); have n61 : Hid (gr6 ≠ w.heap.size) := Lib.hid (by omega); have n62 : Hid (gr6 ≠ w.heap.size + 1) := Lib.hid (by omega); have n63 : Hid (gr6 ≠ w.heap.size + 1 + 1 + 1) := Lib.hid (by omega); have n64 : Hid (gr6 ≠ w2.heap.size) := Lib.hid (by omega); replace n61 := n61.out; replace n62 := n62.out; replace n63 := n63.out; replace n64 := n64.out; replace ng1 := ng1.out; replace ng2 := ng2.out; replace ng3 := ng3.out; replace ng4 := ng4.out; replace ng5 := ng5.out; replace mg1 := mg1.out; replace mg2 := mg2.out; replace mg4 := mg4.out; replace mg5 := mg5.out; replace hown6 := Lib.hid hown6; replace hb56 := Lib.hid hb56; clear bx6 hb6 t0 t1 t2 t3 tf qf Yz0 Yz1 Yz2 Yv0_ Yv1_ Yx0 Yx1 Yx2 Yx3 Ys0 Ys1 Ys2 Ysf Yzf))
  have hro6 := ownO_set (P := fun q => w4.heap.size ≤ q) hown6.out h1.out hbg6 i ⟨ko, oo, to, some ⟨gr, 0, none⟩, no, cap⟩
  obtain ⟨S6, hS6⟩ : ∃ S6, S6 = ((((w6.setCell ⟨gr6, i * 4, none⟩ (.int .u8 (ko : Nat))).setCell ⟨gr6, i * 4 + 1, none⟩ (.int .i64 oo)).setCell ⟨gr6, i * 4 + 2, none⟩ (.string to)).setCell ⟨gr6, i * 4 + 3, none⟩ (.slice (some ⟨gr, 0, none⟩) no cap)) := ⟨_, rfl⟩
  have hO6 : Oth (fun q => q = gr6) w6 S6 := by rw [hS6]; exact oth4k _ _ _ _
  have hE6 : ∀ q, q ≠ gr6 → S6.heap[q]? = w6.heap[q]? := fun q hq => by
    rw [hS6]
    exact (set_other (q := ⟨gr6, i * 4 + 3, none⟩) hq).trans ((set_other (q := ⟨gr6, i * 4 + 2, none⟩) hq).trans ((set_other (q := ⟨gr6, i * 4 + 1, none⟩) hq).trans (set_other (q := ⟨gr6, i * 4, none⟩) hq)))
  have hs6 : S6.heap.size = w6.heap.size := by rw [hS6]; simp
  simp only at hro6
  rw [← hS6] at hro6 ⊢
  clear hS6
  obtain ⟨W7, hW7⟩ : ∃ W7, W7 = S6.setCell ⟨w.heap.size, 2, none⟩ (.slice (some ⟨gr6, 0, none⟩) N cap6) := ⟨_, rfl⟩
  have hO7 : Oth (fun q => q = w.heap.size) S6 W7 := by rw [hW7]; exact oth1k _
  have hE7 : ∀ q, q ≠ w.heap.size → W7.heap[q]? = S6.heap[q]? := fun q hq => by rw [hW7]; exact set_other (q := ⟨w.heap.size, 2, none⟩) hq
  have hs7 : W7.heap.size = w6.heap.size := by rw [hW7]; simp [hs6]
  have lz : w.heap.size < S6.heap.size := by rw [hs6]; have := hb56.out.size; have := hs5.out; omega
  have y0 := cell_block (hE6 _ n61.symm) z0
  have y1 := cell_block (hE6 _ n61.symm) z1
  have y2 := cell_block (hE6 _ n61.symm) z2
  have Z0 : W7.cell? ⟨w.heap.size, 0, none⟩ = some (.int .i64 room) := by rw [hW7]; simp [go_sem, y0]
  have Z1 : W7.cell? ⟨w.heap.size, 1, none⟩ = some (.int .i64 C) := by rw [hW7]; simp [go_sem, y1]
  have Z2 : W7.cell? ⟨w.heap.size, 2, none⟩ = some (.slice (some ⟨gr6, 0, none⟩) N cap6) := by rw [hW7]; simp [go_sem, lz, y2]
  have S0 := cell_block (hE7 _ (by omega)) (cell_block (hE6 _ n63.symm) s0)
  have S1 := cell_block (hE7 _ (by omega)) (cell_block (hE6 _ n63.symm) s1)
  have S2 := cell_block (hE7 _ (by omega)) (cell_block (hE6 _ n63.symm) s2)
  have SF : ∀ q, W7.frozen? ⟨w.heap.size + 1 + 1 + 1, q, none⟩ = false := fun q => ((World.frozen?_of_block (a := ⟨w.heap.size + 1 + 1 + 1, q, none⟩) (hE7 _ (by simp; omega))).trans (World.frozen?_of_block (a := ⟨w.heap.size + 1 + 1 + 1, q, none⟩) (hE6 _ n63.symm))).trans (sf q)
  have hBW7 : Below w.heap.size w W7 := by
    refine Below.mk (hO7.os.trans (hO6.os.trans (hb56.out.os.trans hB5.out.os))) (hO7.tape.trans (hO6.tape.trans (hb56.out.tape.trans hB5.out.tape))) (hO7.output.trans (hO6.output.trans (hb56.out.output.trans hB5.out.output))) ?_ (fun q hq => ?_)
    · have h1 := hB5.out.size
      have h2 := hb56.out.size
      have h3 := hO6.size
      have h4 := hO7.size
      omega
    · have h2 := hs5.out
      rw [hE7 q (by omega), hE6 q (by omega), hb56.out.block q (by omega), hB5.out.block q hq]
  rw [← hW7]
  have hK1 : ∀ q, w4.heap.size ≤ q → W7.heap[q]? = S6.heap[q]? := fun q hq => hE7 q (by omega)
  have hK2 : ∀ q, w2.heap.size + 1 ≤ q → q < w4.heap.size → W7.heap[q]? = W4.heap[q]? := fun q h1 h2 => by
    have h3 := hs5.out
    rw [hE7 q (by omega), hE6 q (by omega), hb56.out.block q (by omega), hE5.out q (by omega)]
  replace hK1 := Lib.hid hK1
  replace hK2 := Lib.hid hK2
  replace hBW7 := Lib.hid hBW7
  replace hro6 := Lib.hid hro6
  clear hW7 hO7 hE7 hO6 hE6 y0 y1 y2 z0 z1 z2 s0 s1 s2 sf zf v0_ v1_ x0 x1 x2 x3 q0 q1 q2 q3 u0 u1 u2 u3 uf lz
  go_region
  go_wp2_with fail
  have hE : Below w.heap.size w ((((W7.setCell ⟨w.heap.size + 1 + 1 + 1, 0, none⟩ (.int .i64 room)).setCell ⟨w.heap.size + 1 + 1 + 1, 1, none⟩ (.int .i64 C)).setCell ⟨w.heap.size + 1 + 1 + 1, 2, none⟩ (.slice (some ⟨gr6, 0, none⟩) N cap6)).drew) := by
    refine Below.drew ?_
    exact ((hBW7.out.setCell (by simp; omega) _).setCell (by simp; omega) _).setCell (by simp; omega) _
  have hF : ∀ q, q ≠ w.heap.size + 1 + 1 + 1 → ((((W7.setCell ⟨w.heap.size + 1 + 1 + 1, 0, none⟩ (.int .i64 room)).setCell ⟨w.heap.size + 1 + 1 + 1, 1, none⟩ (.int .i64 C)).setCell ⟨w.heap.size + 1 + 1 + 1, 2, none⟩ (.slice (some ⟨gr6, 0, none⟩) N cap6)).drew).heap[q]? = W7.heap[q]? := fun q hq => by
    rw [heap_drew, set_other hq, set_other hq, set_other hq]
  refine bodyPost_ret (v := .tuple #[.int .i64 0, .agg #[.int .i64 room, .int .i64 C, .slice (some ⟨gr6, 0, none⟩) N cap6]]) (by simp [results, Try.results31, go_sem, S0, S1, S2]) rfl ⟨some ⟨gr6, 0, none⟩, N, cap6, rfl, ⟨cs.set i ⟨ko, oo, to, some ⟨gr, 0, none⟩, no, cap⟩, by simp [h1.out], by simp [h2.out], (fun e => by cases e), hro6.out.kp fun q hq hp => ⟨hP.out q (by omega), (hF q (by omega)).trans (hK1.out q hp)⟩, fun y hy => ?_⟩, hE⟩
  rw [oc_set _ _ _ _ (by rw [h1.out]; exact hy)]
  have hob : ob (L.set i (putO (ob L i) j ⟨kx, nx, rx, ix⟩)) y = if y = i then putO (ob L i) j ⟨kx, nx, rx, ix⟩ else ob L y := by
    unfold ob
    rw [List.getD_eq_getElem?_getD, List.getElem?_set]
    by_cases e : i = y
    · subst e; simp [h2.out, hi]
    · rw [if_neg e, if_neg (fun z => e z.symm), List.getD_eq_getElem?_getD]
  rw [hob]
  by_cases e : y = i
  · subst e
    rw [if_pos rfl, if_pos rfl]
    obtain ⟨lk1, lk2, lk3⟩ := hLk.out
    refine ⟨lk1, lk2, lk3, ?_, (fun e => by cases e), ?_⟩
    · simp only [putO, List.length_set]
      rw [hl.out]; exact hlen.out
    · show RV P _ _ ((ob L y).vals.set j ⟨kx, nx, rx, ix⟩)
      rw [hl.out]
      refine hrv4.out.kp fun q hq hp => ⟨hP.out q (by omega), ?_⟩
      have h3 := hs4.out
      exact (hF q (by omega)).trans (hK2.out q hp (by omega))
  · rw [if_neg e, if_neg e]
    exact (h5.out y hy).kp (kp_below hE)

end Go.Proofs.Ytfeeikajekemlaa
