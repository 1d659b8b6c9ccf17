/-
  does: a look at what names an object. Conditions: texts of at most 1000 bytes, at most 300 fields.
-/
import Derived.Test.YtfeeikajekemlaaPq
import Derived.Test.YtfeeikajekemlaaLk
import Derived.IntWalk
namespace Go.Proofs.Ytfeeikajekemlaa
open Go.RowKit Go.Sort
set_option linter.unusedVariables false
set_option linter.unusedSimpArgs false
set_option maxRecDepth 100000

set_option maxHeartbeats 40000000 in
theorem does_look_t {w : World} {own : Owns} {k p room : Nat} {m : M} {a : Option Addr} {N d : Nat} (h : Hp w own k p room m) (fz : Fz w own) (hL : RL (Free own) w a N d m.L) (kd f i : Int) (s : ByteArray) (kv : Nat) (nv rv iv : Int) (kx : Nat) (nx rx ix : Int) (b : Option Addr) (n c : Nat) (l : List Vl) (hl : l.length = n) (hz : b = none → n = 0 ∧ c = 0) (hr : RV (Free own) w b l) (hs : s.size ≤ 1000) (hn : n ≤ 300) (hk0' : kd ≠ 0) (hk1' : kd ≠ 1) (hk2' : kd ≠ 2) (hk3' : kd ≠ 3) (hN : N ≤ 65536) (q : Nat) (hnq : nv = (q : Int) + 1) (hnm : nameB m.L ⟨kv, nv, rv, iv⟩ = true) : Calls Try.prog 12 #[.pointer (some ⟨p, 0, none⟩), .agg #[.int .i64 room, .int .i64 (m.cells : Nat), .slice a N d], .agg #[.int .i64 kd, .int .i64 f, .int .i64 i, .string s, .int .u8 kv, .int .i64 nv, .int .i64 rv, .int .i64 iv, .int .u8 kx, .int .i64 nx, .int .i64 rx, .int .i64 ix, .slice b n c]] w (DoesP w own k p room m) := by
  have e0 : (kd == 0) = false := by rw [beq_eq_false_iff_ne]; exact hk0'
  have e1 : (kd == 1) = false := by rw [beq_eq_false_iff_ne]; exact hk1'
  have e2 : (kd == 2) = false := by rw [beq_eq_false_iff_ne]; exact hk2'
  have e3 : (kd == 3) = false := by rw [beq_eq_false_iff_ne]; exact hk3'
  clear hk0' hk1' hk2' hk3'
  have hk0 := h.k0
  have hok := h.ok
  have hrm := h.rm
  obtain ⟨W, hW⟩ : ∃ W, W = ((w.alloc (.cells #[.int .i64 room, .int .i64 (m.cells : Nat), .slice a N d] 31)).alloc (.cells #[.int .i64 kd, .int .i64 f, .int .i64 i, .string s, .int .u8 kv, .int .i64 nv, .int .i64 rv, .int .i64 iv, .int .u8 kx, .int .i64 nx, .int .i64 rx, .int .i64 ix, .slice b n c] 38)).alloc (.cells #[.int .i64 0, .int .i64 0, .slice none 0 0] 31) := ⟨_, rfl⟩
  have hB : Below w.heap.size w W := by rw [hW]; go_grown
  have hsz : W.heap.size = w.heap.size + 1 + 1 + 1 := by rw [hW]; simp
  have HX : W.rowIs w.heap.size 31 3 (fun j => if j = 0 then .int .i64 room else if j = 1 then .int .i64 (m.cells : Nat) else .slice a N d) := by rw [hW]; exact ((h_box w room (m.cells : Nat) (.slice a N d)).alloc _).alloc _
  have OX : W.rowIs (w.heap.size + 1) 38 13 (opF ⟨kd, f, i, s, ⟨kv, nv, rv, iv⟩, ⟨kx, nx, rx, ix⟩, l⟩ b n c) := by rw [hW]; exact (op_box1 w _ ⟨kd, f, i, s, ⟨kv, nv, rv, iv⟩, ⟨kx, nx, rx, ix⟩, l⟩ b n c).alloc _
  have QX : W.rowIs (w.heap.size + 1 + 1) 31 3 (fun j => if j = 0 then .int .i64 0 else if j = 1 then .int .i64 0 else .slice none 0 0) := by rw [hW]; exact h_box2 w _ _
  obtain ⟨hH, hF⟩ := hp_box h fz hB (q := w.heap.size + 1 + 1) (by omega) (by omega)
  have o0 : own w.heap.size = (0, 0) := fz _ (by omega)
  have o1 : own (w.heap.size + 1) = (0, 0) := fz _ (by omega)
  have hrW : RV (fun _ => True) W b l := hr.kp fun q hq hp => ⟨trivial, hB.block q hq⟩
  replace hW := Lib.hid hW
  replace hB := Lib.hid hB
  replace hsz := Lib.hid hsz
  replace HX := Lib.hid HX
  replace OX := Lib.hid OX
  replace QX := Lib.hid QX
  replace hok := Lib.hid hok
  replace hz := Lib.hid hz
  replace hl := Lib.hid hl
  replace hrW := Lib.hid hrW
  replace hr := Lib.hid hr
  replace hL := Lib.hid hL
  replace o0 := Lib.hid o0
  replace o1 := Lib.hid o1
  have K1 := Lib.hid fun w' (hb : Below w.heap.size w w') => textp_any (h.below hb) ⟨kv, nv, rv, iv⟩
  have K2 := Lib.hid fun w' (hb : Below w.heap.size w w') => textd_any room (m.cells : Nat) (hL.out.kp (kp_below hb)) hN ⟨kv, nv, rv, iv⟩
  have K3 := Lib.hid fun w' (hb : Below w.heap.size w w') => sizep_any (h.below hb) ⟨kv, nv, rv, iv⟩
  have K4 := Lib.hid fun w' (hb : Below w.heap.size w w') => sized_any room (m.cells : Nat) (hL.out.kp (kp_below hb)) hN ⟨kv, nv, rv, iv⟩
  have K5 := Lib.hid fun w' (hb : Below w.heap.size w w') => getp_any (h.below hb) ⟨kv, nv, rv, iv⟩ i
  have K6 := Lib.hid fun w' (hb : Below w.heap.size w w') => getd_any room (m.cells : Nat) (hL.out.kp (kp_below hb)) hN ⟨kv, nv, rv, iv⟩ i
  have K7 : Hid (∀ w' : World, Below w.heap.size w w' → Calls Try.prog 35 #[.agg #[.int .i64 room, .int .i64 (m.cells : Nat), .slice a N d], .agg #[.int .u8 kv, .int .i64 nv, .int .i64 rv, .int .i64 iv]] w' fun e w'' => e = .returned (.bool true) ∧ Below w'.heap.size w' w'') := Lib.hid fun w' hb => by
    have := names_any room (m.cells : Nat) (hL.out.kp (kp_below hb)) hN ⟨kv, nv, rv, iv⟩
    rw [hnm] at this
    exact this
  have K8 : Hid (∀ w' : World, Below w.heap.size w w' → Calls Try.prog 36 #[.pointer (some ⟨p, 0, none⟩), .agg #[.int .u8 kv, .int .i64 nv, .int .i64 rv, .int .i64 iv]] w' fun e w'' => e = .returned (.int .i64 (ob m.L (at_ ⟨kv, nv, rv, iv⟩)).of) ∧ Below w'.heap.size w' w'') := Lib.hid fun w' hb => by
    have := of_any (h.below hb) ⟨kv, nv, rv, iv⟩
    rw [of_same, hnm] at this
    exact this
  have hat : at_ ⟨kv, nv, rv, iv⟩ = q := by simp [at_]; omega
  rw [hat] at K8
  have hq : q < N := by
    have h1 := (name_parts hnm).2.2.1
    obtain ⟨cs, _, h2, _⟩ := hL.out
    rw [hat] at h1
    omega
  have hof : ∃ bb oo, a = some ⟨bb, oo, none⟩ ∧ w.cell? ⟨bb, oo + q * 4 + 1, none⟩ = some (.int .i64 (ob m.L q).of) := by
    obtain ⟨cs, h1, h2, h3, h4, h5⟩ := hL.out
    obtain ⟨bb, oo, hA, _, hc⟩ := h4 q (by omega)
    refine ⟨bb, oo, hA, ?_⟩
    rw [← (h5 q hq).of]
    exact hc.c1
  obtain ⟨bb, oo, rfl, hofc⟩ := hof
  generalize (ob m.L q).of = F at K8 hofc
  replace hofc := Lib.hid hofc
  clear hat
  obtain ⟨S, hS⟩ : ∃ S, txS m.L ⟨kv, nv, rv, iv⟩ = S := ⟨_, rfl⟩
  obtain ⟨tb, hT⟩ : ∃ T, txB m.L ⟨kv, nv, rv, iv⟩ = T := ⟨_, rfl⟩
  obtain ⟨zn, hzn⟩ : ∃ z, szN m.L ⟨kv, nv, rv, iv⟩ = z := ⟨_, rfl⟩
  obtain ⟨zt, hzt⟩ : ∃ z, szT m.L ⟨kv, nv, rv, iv⟩ = z := ⟨_, rfl⟩
  obtain ⟨⟨gk, gn, gr, gi⟩, hgv⟩ : ∃ z, dgV m.L ⟨kv, nv, rv, iv⟩ i = z := ⟨_, rfl⟩
  obtain ⟨gt, hgt⟩ : ∃ z, dgT m.L ⟨kv, nv, rv, iv⟩ i = z := ⟨_, rfl⟩
  have zt3 : zt ≤ 3 := by rw [← hzt]; exact sz_le _ _
  have gt3 : gt ≤ 3 := by rw [← hgt]; exact dg_le _ _ _
  rw [hS, hT] at K1 K2
  rw [hzn, hzt] at K3 K4
  rw [hgv, hgt] at K5 K6
  have qe := eql_vl ⟨gk, gn, gr, gi⟩
  have qg := guard_vl .eql (.tmp 239) (.tmp 240) ⟨gk, gn, gr, gi⟩ ⟨gk, gn, gr, gi⟩
  simp only [vlV] at qe qg K1 K2 K3 K4 K5 K6
  have hHp := Lib.hid h
  have hFz := Lib.hid fz
  clear h fz hS hT hzn hzt hgv hgt hnm hH hF
  subst hnq
  go_enter Try.func12, Try.ntmps12
  go_wp2_with (first | (rw [← hW.out]; (with_reducible refine (K1.out _ hB.out).mono ?_); rintro e w1 ⟨rfl, hb⟩; replace HX := Lib.hid (HX.out.of_block (hb.block _ (by have := HX.out.lt; simp; try omega))); replace OX := Lib.hid (OX.out.of_block (hb.block _ (by have := OX.out.lt; simp; try omega))); replace QX := Lib.hid (QX.out.of_block (hb.block _ (by have := QX.out.lt; simp; try omega))); have G := Lib.hid (below_step hB.out hb); clear hb; have x0 : w1.cell? ⟨w.heap.size, 0, none⟩ = some (.int .i64 room) := HX.out.cell (i := 0) (by omega); have x1 : w1.cell? ⟨w.heap.size, 1, none⟩ = some (.int .i64 (m.cells : Nat)) := HX.out.cell (i := 1) (by omega); have x2 : w1.cell? ⟨w.heap.size, 2, none⟩ = some (.slice (some ⟨bb, oo, none⟩) N d) := HX.out.cell (i := 2) (by omega); have c2 : w1.cell? ⟨w.heap.size + 1, 2, none⟩ = some (.int .i64 i) := OX.out.cell (i := 2) (by omega); have c4 : w1.cell? ⟨w.heap.size + 1, 4, none⟩ = some (.int .u8 kv) := OX.out.cell (i := 4) (by omega); have c5 : w1.cell? ⟨w.heap.size + 1, 5, none⟩ = some (.int .i64 ((q : Int) + 1)) := OX.out.cell (i := 5) (by omega); have c6 : w1.cell? ⟨w.heap.size + 1, 6, none⟩ = some (.int .i64 rv) := OX.out.cell (i := 6) (by omega); have c7 : w1.cell? ⟨w.heap.size + 1, 7, none⟩ = some (.int .i64 iv) := OX.out.cell (i := 7) (by omega); have lx : w.heap.size < w1.heap.size := HX.out.lt; have lo : w.heap.size + 1 < w1.heap.size := OX.out.lt) | ((with_reducible refine (K2.out _ G.out).mono ?_); rintro e w2 ⟨rfl, hb⟩; clear x0 x1 x2 c2 c4 c5 c6 c7 lx lo; replace HX := Lib.hid (HX.out.of_block (hb.block _ (by have := HX.out.lt; simp; try omega))); replace OX := Lib.hid (OX.out.of_block (hb.block _ (by have := OX.out.lt; simp; try omega))); replace QX := Lib.hid (QX.out.of_block (hb.block _ (by have := QX.out.lt; simp; try omega))); replace G := Lib.hid (below_step G.out hb); clear hb; have x0 : w2.cell? ⟨w.heap.size, 0, none⟩ = some (.int .i64 room) := HX.out.cell (i := 0) (by omega); have x1 : w2.cell? ⟨w.heap.size, 1, none⟩ = some (.int .i64 (m.cells : Nat)) := HX.out.cell (i := 1) (by omega); have x2 : w2.cell? ⟨w.heap.size, 2, none⟩ = some (.slice (some ⟨bb, oo, none⟩) N d) := HX.out.cell (i := 2) (by omega); have c2 : w2.cell? ⟨w.heap.size + 1, 2, none⟩ = some (.int .i64 i) := OX.out.cell (i := 2) (by omega); have c4 : w2.cell? ⟨w.heap.size + 1, 4, none⟩ = some (.int .u8 kv) := OX.out.cell (i := 4) (by omega); have c5 : w2.cell? ⟨w.heap.size + 1, 5, none⟩ = some (.int .i64 ((q : Int) + 1)) := OX.out.cell (i := 5) (by omega); have c6 : w2.cell? ⟨w.heap.size + 1, 6, none⟩ = some (.int .i64 rv) := OX.out.cell (i := 6) (by omega); have c7 : w2.cell? ⟨w.heap.size + 1, 7, none⟩ = some (.int .i64 iv) := OX.out.cell (i := 7) (by omega); have lx : w.heap.size < w2.heap.size := HX.out.lt; have lo : w.heap.size + 1 < w2.heap.size := OX.out.lt) | ((with_reducible refine (K3.out _ G.out).mono ?_); rintro e w3 ⟨rfl, hb⟩; clear x0 x1 x2 c2 c4 c5 c6 c7 lx lo; replace HX := Lib.hid (HX.out.of_block (hb.block _ (by have := HX.out.lt; simp; try omega))); replace OX := Lib.hid (OX.out.of_block (hb.block _ (by have := OX.out.lt; simp; try omega))); replace QX := Lib.hid (QX.out.of_block (hb.block _ (by have := QX.out.lt; simp; try omega))); replace G := Lib.hid (below_step G.out hb); clear hb; have x0 : w3.cell? ⟨w.heap.size, 0, none⟩ = some (.int .i64 room) := HX.out.cell (i := 0) (by omega); have x1 : w3.cell? ⟨w.heap.size, 1, none⟩ = some (.int .i64 (m.cells : Nat)) := HX.out.cell (i := 1) (by omega); have x2 : w3.cell? ⟨w.heap.size, 2, none⟩ = some (.slice (some ⟨bb, oo, none⟩) N d) := HX.out.cell (i := 2) (by omega); have c2 : w3.cell? ⟨w.heap.size + 1, 2, none⟩ = some (.int .i64 i) := OX.out.cell (i := 2) (by omega); have c4 : w3.cell? ⟨w.heap.size + 1, 4, none⟩ = some (.int .u8 kv) := OX.out.cell (i := 4) (by omega); have c5 : w3.cell? ⟨w.heap.size + 1, 5, none⟩ = some (.int .i64 ((q : Int) + 1)) := OX.out.cell (i := 5) (by omega); have c6 : w3.cell? ⟨w.heap.size + 1, 6, none⟩ = some (.int .i64 rv) := OX.out.cell (i := 6) (by omega); have c7 : w3.cell? ⟨w.heap.size + 1, 7, none⟩ = some (.int .i64 iv) := OX.out.cell (i := 7) (by omega); have lx : w.heap.size < w3.heap.size := HX.out.lt; have lo : w.heap.size + 1 < w3.heap.size := OX.out.lt) | ((with_reducible refine (K4.out _ G.out).mono ?_); rintro e w4 ⟨rfl, hb⟩; clear x0 x1 x2 c2 c4 c5 c6 c7 lx lo; replace HX := Lib.hid (HX.out.of_block (hb.block _ (by have := HX.out.lt; simp; try omega))); replace OX := Lib.hid (OX.out.of_block (hb.block _ (by have := OX.out.lt; simp; try omega))); replace QX := Lib.hid (QX.out.of_block (hb.block _ (by have := QX.out.lt; simp; try omega))); replace G := Lib.hid (below_step G.out hb); clear hb; have x0 : w4.cell? ⟨w.heap.size, 0, none⟩ = some (.int .i64 room) := HX.out.cell (i := 0) (by omega); have x1 : w4.cell? ⟨w.heap.size, 1, none⟩ = some (.int .i64 (m.cells : Nat)) := HX.out.cell (i := 1) (by omega); have x2 : w4.cell? ⟨w.heap.size, 2, none⟩ = some (.slice (some ⟨bb, oo, none⟩) N d) := HX.out.cell (i := 2) (by omega); have c2 : w4.cell? ⟨w.heap.size + 1, 2, none⟩ = some (.int .i64 i) := OX.out.cell (i := 2) (by omega); have c4 : w4.cell? ⟨w.heap.size + 1, 4, none⟩ = some (.int .u8 kv) := OX.out.cell (i := 4) (by omega); have c5 : w4.cell? ⟨w.heap.size + 1, 5, none⟩ = some (.int .i64 ((q : Int) + 1)) := OX.out.cell (i := 5) (by omega); have c6 : w4.cell? ⟨w.heap.size + 1, 6, none⟩ = some (.int .i64 rv) := OX.out.cell (i := 6) (by omega); have c7 : w4.cell? ⟨w.heap.size + 1, 7, none⟩ = some (.int .i64 iv) := OX.out.cell (i := 7) (by omega); have lx : w.heap.size < w4.heap.size := HX.out.lt; have lo : w.heap.size + 1 < w4.heap.size := OX.out.lt) | ((with_reducible refine (K5.out _ G.out).mono ?_); rintro e w5 ⟨rfl, hb⟩; clear x0 x1 x2 c2 c4 c5 c6 c7 lx lo; replace HX := Lib.hid (HX.out.of_block (hb.block _ (by have := HX.out.lt; simp; try omega))); replace OX := Lib.hid (OX.out.of_block (hb.block _ (by have := OX.out.lt; simp; try omega))); replace QX := Lib.hid (QX.out.of_block (hb.block _ (by have := QX.out.lt; simp; try omega))); replace G := Lib.hid (below_step G.out hb); clear hb; have x0 : w5.cell? ⟨w.heap.size, 0, none⟩ = some (.int .i64 room) := HX.out.cell (i := 0) (by omega); have x1 : w5.cell? ⟨w.heap.size, 1, none⟩ = some (.int .i64 (m.cells : Nat)) := HX.out.cell (i := 1) (by omega); have x2 : w5.cell? ⟨w.heap.size, 2, none⟩ = some (.slice (some ⟨bb, oo, none⟩) N d) := HX.out.cell (i := 2) (by omega); have c2 : w5.cell? ⟨w.heap.size + 1, 2, none⟩ = some (.int .i64 i) := OX.out.cell (i := 2) (by omega); have c4 : w5.cell? ⟨w.heap.size + 1, 4, none⟩ = some (.int .u8 kv) := OX.out.cell (i := 4) (by omega); have c5 : w5.cell? ⟨w.heap.size + 1, 5, none⟩ = some (.int .i64 ((q : Int) + 1)) := OX.out.cell (i := 5) (by omega); have c6 : w5.cell? ⟨w.heap.size + 1, 6, none⟩ = some (.int .i64 rv) := OX.out.cell (i := 6) (by omega); have c7 : w5.cell? ⟨w.heap.size + 1, 7, none⟩ = some (.int .i64 iv) := OX.out.cell (i := 7) (by omega); have lx : w.heap.size < w5.heap.size := HX.out.lt; have lo : w.heap.size + 1 < w5.heap.size := OX.out.lt) | ((with_reducible refine (K6.out _ (G.out.alloc G.out.size _)).mono ?_); rintro e w6 ⟨rfl, hb⟩; clear x0 x1 x2 c2 c4 c5 c6 c7 lx lo; replace HX := Lib.hid ((HX.out.alloc _).of_block (hb.block _ (by have := HX.out.lt; simp; try omega))); replace OX := Lib.hid ((OX.out.alloc _).of_block (hb.block _ (by have := OX.out.lt; simp; try omega))); replace QX := Lib.hid ((QX.out.alloc _).of_block (hb.block _ (by have := QX.out.lt; simp; try omega))); have T5 := Lib.hid ((vl_box w5 ⟨gk, gn, gr, gi⟩).of_block (hb.block w5.heap.size (by simp))); replace G := Lib.hid (below_step (G.out.alloc G.out.size _) hb); clear hb; have x0 : w6.cell? ⟨w.heap.size, 0, none⟩ = some (.int .i64 room) := HX.out.cell (i := 0) (by omega); have x1 : w6.cell? ⟨w.heap.size, 1, none⟩ = some (.int .i64 (m.cells : Nat)) := HX.out.cell (i := 1) (by omega); have x2 : w6.cell? ⟨w.heap.size, 2, none⟩ = some (.slice (some ⟨bb, oo, none⟩) N d) := HX.out.cell (i := 2) (by omega); have c2 : w6.cell? ⟨w.heap.size + 1, 2, none⟩ = some (.int .i64 i) := OX.out.cell (i := 2) (by omega); have c4 : w6.cell? ⟨w.heap.size + 1, 4, none⟩ = some (.int .u8 kv) := OX.out.cell (i := 4) (by omega); have c5 : w6.cell? ⟨w.heap.size + 1, 5, none⟩ = some (.int .i64 ((q : Int) + 1)) := OX.out.cell (i := 5) (by omega); have c6 : w6.cell? ⟨w.heap.size + 1, 6, none⟩ = some (.int .i64 rv) := OX.out.cell (i := 6) (by omega); have c7 : w6.cell? ⟨w.heap.size + 1, 7, none⟩ = some (.int .i64 iv) := OX.out.cell (i := 7) (by omega); have lx : w.heap.size < w6.heap.size := HX.out.lt; have lo : w.heap.size + 1 < w6.heap.size := OX.out.lt) | ((with_reducible refine (K7.out _ (G.out.alloc G.out.size _)).mono ?_); rintro e w7 ⟨rfl, hb⟩; clear x0 x1 x2 c2 c4 c5 c6 c7 lx lo; replace HX := Lib.hid ((HX.out.alloc _).of_block (hb.block _ (by have := HX.out.lt; simp; try omega))); replace OX := Lib.hid ((OX.out.alloc _).of_block (hb.block _ (by have := OX.out.lt; simp; try omega))); replace QX := Lib.hid ((QX.out.alloc _).of_block (hb.block _ (by have := QX.out.lt; simp; try omega))); replace T5 := Lib.hid ((T5.out.alloc _).of_block (hb.block _ (by have := T5.out.lt; simp; try omega))); have T6 := Lib.hid ((vl_box w6 ⟨gk, gn, gr, gi⟩).of_block (hb.block w6.heap.size (by simp))); replace G := Lib.hid (below_step (G.out.alloc G.out.size _) hb); clear hb; have x0 : w7.cell? ⟨w.heap.size, 0, none⟩ = some (.int .i64 room) := HX.out.cell (i := 0) (by omega); have x1 : w7.cell? ⟨w.heap.size, 1, none⟩ = some (.int .i64 (m.cells : Nat)) := HX.out.cell (i := 1) (by omega); have x2 : w7.cell? ⟨w.heap.size, 2, none⟩ = some (.slice (some ⟨bb, oo, none⟩) N d) := HX.out.cell (i := 2) (by omega); have c2 : w7.cell? ⟨w.heap.size + 1, 2, none⟩ = some (.int .i64 i) := OX.out.cell (i := 2) (by omega); have c4 : w7.cell? ⟨w.heap.size + 1, 4, none⟩ = some (.int .u8 kv) := OX.out.cell (i := 4) (by omega); have c5 : w7.cell? ⟨w.heap.size + 1, 5, none⟩ = some (.int .i64 ((q : Int) + 1)) := OX.out.cell (i := 5) (by omega); have c6 : w7.cell? ⟨w.heap.size + 1, 6, none⟩ = some (.int .i64 rv) := OX.out.cell (i := 6) (by omega); have c7 : w7.cell? ⟨w.heap.size + 1, 7, none⟩ = some (.int .i64 iv) := OX.out.cell (i := 7) (by omega); have lx : w.heap.size < w7.heap.size := HX.out.lt; have lo : w.heap.size + 1 < w7.heap.size := OX.out.lt; have hofc7 := cell_carry G.out hofc.out))
  all_goals
    have t50 := fun D os => cell_regrown (w := w7) (a := ⟨w5.heap.size, 0, none⟩) (v := .int .u8 (gk : Nat)) (T5.out.cell (i := 0) (by omega)) D os
    have t51 := fun D os => cell_regrown (w := w7) (a := ⟨w5.heap.size, 1, none⟩) (v := .int .i64 gn) (T5.out.cell (i := 1) (by omega)) D os
    have t52 := fun D os => cell_regrown (w := w7) (a := ⟨w5.heap.size, 2, none⟩) (v := .int .i64 gr) (T5.out.cell (i := 2) (by omega)) D os
    have t53 := fun D os => cell_regrown (w := w7) (a := ⟨w5.heap.size, 3, none⟩) (v := .int .i64 gi) (T5.out.cell (i := 3) (by omega)) D os
    have t60 := fun D os => cell_regrown (w := w7) (a := ⟨w6.heap.size, 0, none⟩) (v := .int .u8 (gk : Nat)) (T6.out.cell (i := 0) (by omega)) D os
    have t61 := fun D os => cell_regrown (w := w7) (a := ⟨w6.heap.size, 1, none⟩) (v := .int .i64 gn) (T6.out.cell (i := 1) (by omega)) D os
    have t62 := fun D os => cell_regrown (w := w7) (a := ⟨w6.heap.size, 2, none⟩) (v := .int .i64 gr) (T6.out.cell (i := 2) (by omega)) D os
    have t63 := fun D os => cell_regrown (w := w7) (a := ⟨w6.heap.size, 3, none⟩) (v := .int .i64 gi) (T6.out.cell (i := 3) (by omega)) D os
    have r0 := fun D os => cell_regrown (w := w7) x0 D os
    have r1 := fun D os => cell_regrown (w := w7) x1 D os
    have r2 := fun D os => cell_regrown (w := w7) x2 D os
    have r4 := fun D os => cell_regrown (w := w7) c4 D os
    have r5 := fun D os => cell_regrown (w := w7) c5 D os
    have r6 := fun D os => cell_regrown (w := w7) c6 D os
    have r7 := fun D os => cell_regrown (w := w7) c7 D os
    have hc : ∀ D os, Calls Try.prog 36 #[.pointer (some ⟨p, 0, none⟩), .agg #[.int .u8 kv, .int .i64 ((q : Int) + 1), .int .i64 rv, .int .i64 iv]] (grow (redrawn w7 D) os) fun e w'' => e = .returned (.int .i64 F) ∧ ∃ p : Regrown, w'' = grow (redrawn w7 p.d) p.os := fun D os => Calls.regrown_of (K8.out _ (below_step G.out (below_regrown _ _ _)))
    clear x0 x1 x2 c2 c4 c5 c6 c7 lx lo hofc7
    have wz : IntKind.i64.wrap (zt : Int) = zt := IntWalk.i64_in _ (by omega)
    have wg : IntKind.i64.wrap (gt : Int) = gt := IntWalk.i64_in _ (by omega)
    refine region_tail_below 40 (by kernel_rfl) (by kernel_rfl) ?_
    simp only [List.take_succ_cons, List.take_zero, List.drop_succ_cons, List.drop_zero]
    repeat (quiet_step (first | with_reducible exact hc _ _))
    refine wpQuiet_nil ?_
    rintro _ ⟨⟨dq, osq⟩, rfl⟩
    have hb := below_regrown w7 dq osq
    generalize grow (redrawn w7 dq) osq = w8 at *
    have Q8 := QX.out.of_block (hb.block _ QX.out.lt)
    have y0 : w8.cell? ⟨w.heap.size + 1 + 1, 0, none⟩ = some (.int .i64 0) := Q8.cell (i := 0) (by omega)
    have y1 : w8.cell? ⟨w.heap.size + 1 + 1, 1, none⟩ = some (.int .i64 0) := Q8.cell (i := 1) (by omega)
    have y2 : w8.cell? ⟨w.heap.size + 1 + 1, 2, none⟩ = some (.slice none 0 0) := Q8.cell (i := 2) (by omega)
    have yf : ∀ q, w8.frozen? ⟨w.heap.size + 1 + 1, q, none⟩ = false := fun q => Q8.frozen q
    have G8 := Lib.hid (below_step G.out hb)
    clear t50 t51 t52 t53 t60 t61 t62 t63 r0 r1 r2 r4 r5 r6 r7 hc hb Q8 wz wg
    go_wp2_with fail
    have hE : Below w.heap.size w (((w8.setCell ⟨w.heap.size + 1 + 1, 0, none⟩ (.int .i64 room)).setCell ⟨w.heap.size + 1 + 1, 1, none⟩ (.int .i64 (m.cells : Nat))).setCell ⟨w.heap.size + 1 + 1, 2, none⟩ (.slice (some ⟨bb, oo, none⟩) N d)) :=
      ((G8.out.setCell (by simp; omega) _).setCell (by simp; omega) _).setCell (by simp; omega) _
    refine bodyPost_ret (v := .tuple #[.bool true, .agg #[.int .i64 room, .int .i64 (m.cells : Nat), (.slice (some ⟨bb, oo, none⟩) N d)]]) (by simp [results, Try.results12, go_sem, y0, y1, y2]) rfl ⟨own, some ⟨bb, oo, none⟩, N, d, rfl, hHp.out.below hE, hFz.out.below hE.size, Stp.of_below hE, hL.out.kp (kp_below hE)⟩

end Go.Proofs.Ytfeeikajekemlaa
