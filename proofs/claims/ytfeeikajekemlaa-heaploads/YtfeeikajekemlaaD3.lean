/-
  does: Put. Conditions: texts of at most 1000 bytes, at most 300 fields.
-/
import Derived.Test.YtfeeikajekemlaaPq
import Derived.Test.YtfeeikajekemlaaDs
import Derived.Test.YtfeeikajekemlaaPd
namespace Go.Proofs.Ytfeeikajekemlaa
open Go.RowKit
set_option linter.unusedVariables false
set_option linter.unusedSimpArgs false
set_option maxRecDepth 100000

set_option maxHeartbeats 16000000 in
theorem does_put {w : World} {own : Owns} {k p room : Nat} {m : M} {a : Option Addr} {N d : Nat} (h : Hp w own k p room m) (fz : Fz w own) (hL : RL (Free own) w a N d m.L) (f i : Int) (s : ByteArray) (kv : Nat) (nv rv iv : Int) (kx : Nat) (nx rx ix : Int) (b : Option Addr) (n c : Nat) (l : List Vl) (hl : l.length = n) (hz : b = none → n = 0 ∧ c = 0) (hr : RV (Free own) w b l) (hs : s.size ≤ 1000) (hn : n ≤ 300) (hvl : ∀ q, q < m.L.length → (ob m.L q).vals.length ≤ 100000) : Calls Try.prog 12 #[.pointer (some ⟨p, 0, none⟩), .agg #[.int .i64 room, .int .i64 (m.cells : Nat), .slice a N d], .agg #[.int .i64 3, .int .i64 f, .int .i64 i, .string s, .int .u8 kv, .int .i64 nv, .int .i64 rv, .int .i64 iv, .int .u8 kx, .int .i64 nx, .int .i64 rx, .int .i64 ix, .slice b n c]] w (DoesP w own k p room (putM m ⟨kv, nv, rv, iv⟩ i ⟨kx, nx, rx, ix⟩)) := by
  have hk0 := h.k0
  have hok := h.ok
  have hrm := h.rm
  obtain ⟨W, hW⟩ : ∃ W, W = ((w.alloc (.cells #[.int .i64 room, .int .i64 (m.cells : Nat), .slice a N d] 31)).alloc (.cells #[.int .i64 3, .int .i64 f, .int .i64 i, .string s, .int .u8 kv, .int .i64 nv, .int .i64 rv, .int .i64 iv, .int .u8 kx, .int .i64 nx, .int .i64 rx, .int .i64 ix, .slice b n c] 38)).alloc (.cells #[.int .i64 0, .int .i64 0, .slice none 0 0] 31) := ⟨_, rfl⟩
  have hB : Below w.heap.size w W := by rw [hW]; go_grown
  have hsz : W.heap.size = w.heap.size + 1 + 1 + 1 := by rw [hW]; simp
  have HX : W.rowIs w.heap.size 31 3 (fun j => if j = 0 then .int .i64 room else if j = 1 then .int .i64 (m.cells : Nat) else .slice a N d) := by rw [hW]; exact ((h_box w room (m.cells : Nat) (.slice a N d)).alloc _).alloc _
  have OX : W.rowIs (w.heap.size + 1) 38 13 (opF ⟨3, f, i, s, ⟨kv, nv, rv, iv⟩, ⟨kx, nx, rx, ix⟩, l⟩ b n c) := by rw [hW]; exact (op_box1 w _ ⟨3, f, i, s, ⟨kv, nv, rv, iv⟩, ⟨kx, nx, rx, ix⟩, l⟩ b n c).alloc _
  have QX : W.rowIs (w.heap.size + 1 + 1) 31 3 (fun j => if j = 0 then .int .i64 0 else if j = 1 then .int .i64 0 else .slice none 0 0) := by rw [hW]; exact h_box2 w _ _
  obtain ⟨hH, hF⟩ := hp_box h fz hB (q := w.heap.size + 1 + 1) (by omega) (by omega)
  have o0 : own w.heap.size = (0, 0) := fz _ (by omega)
  have o1 : own (w.heap.size + 1) = (0, 0) := fz _ (by omega)
  have hrW : RV (fun _ => True) W b l := hr.kp fun q hq hp => ⟨trivial, hB.block q hq⟩
  replace hW := Lib.hid hW
  replace hB := Lib.hid hB
  replace hsz := Lib.hid hsz
  replace HX := Lib.hid HX
  replace OX := Lib.hid OX
  replace QX := Lib.hid QX
  replace hok := Lib.hid hok
  replace hz := Lib.hid hz
  replace hl := Lib.hid hl
  replace hrW := Lib.hid hrW
  replace hr := Lib.hid hr
  replace hL := Lib.hid hL
  replace o0 := Lib.hid o0
  replace o1 := Lib.hid o1
  have K1 := Lib.hid (put_any hH hF ⟨kv, nv, rv, iv⟩ ⟨kx, nx, rx, ix⟩ i)
  have K2 : Hid (∀ (own1 : Owns) (w1 w' : World), RL (Free own1) w1 a N d m.L → Fz w1 own1 → Below w1.heap.size w1 w' → Calls Try.prog 31 #[.agg #[.int .i64 room, .int .i64 (m.cells : Nat), .slice a N d], .agg #[.int .u8 kv, .int .i64 nv, .int .i64 rv, .int .i64 iv], .int .i64 i, .agg #[.int .u8 kx, .int .i64 nx, .int .i64 rx, .int .i64 ix]] w' (PutD (Free own1) w' room (putM m ⟨kv, nv, rv, iv⟩ i ⟨kx, nx, rx, ix⟩) (putT m.L ⟨kv, nv, rv, iv⟩ i))) := Lib.hid fun own1 w1 w' rl f1 hb => putd_any (rl.kp (kp_below hb)) (fun q hq => f1.free q (by have := hb.size; omega)) hok.out hrm hvl ⟨kv, nv, rv, iv⟩ i ⟨kx, nx, rx, ix⟩
  generalize putM m ⟨kv, nv, rv, iv⟩ i ⟨kx, nx, rx, ix⟩ = m2 at K1 K2 ⊢
  generalize hTT : putT m.L ⟨kv, nv, rv, iv⟩ i = tt at K1 K2
  have ht4 : tt ≤ 3 := by rw [← hTT]; unfold putT; split; exact Nat.le_refl _; split <;> omega
  unfold PutD at K2
  obtain ⟨C2, L2⟩ := m2
  simp only at K2
  clear hH hF fz h hTT hvl
  go_enter Try.func12, Try.ntmps12
  go_wp2_with (first | (rw [← hW.out]; (with_reducible refine K1.out.mono ?_); rintro e w1 ⟨rfl, own1, h1, f1, s1⟩; have hs3 := hsz.out; have n0 : (ownQ (w.heap.size + 1 + 1) k own w.heap.size).1 ≠ k := (by rw [ownQ_ne (by omega), o0.out]; exact fun z => hk0 z.symm); have n1 : (ownQ (w.heap.size + 1 + 1) k own (w.heap.size + 1)).1 ≠ k := (by rw [ownQ_ne (by omega), o1.out]; exact fun z => hk0 z.symm); have n2 : (ownQ (w.heap.size + 1 + 1) k own (w.heap.size + 1 + 1)).1 ≠ k := (by rw [ownQ_q]; simp); have H1 := HX.out.of_block (s1.block _ (by omega) n0); have O1 := OX.out.of_block (s1.block _ (by omega) n1); have Q1 := QX.out.of_block (s1.block _ (by omega) n2); have x0 : w1.cell? ⟨w.heap.size, 0, none⟩ = some (.int .i64 room) := H1.cell (i := 0) (by omega); have x1 : w1.cell? ⟨w.heap.size, 1, none⟩ = some (.int .i64 (m.cells : Nat)) := H1.cell (i := 1) (by omega); have x2 : w1.cell? ⟨w.heap.size, 2, none⟩ = some (.slice a N d) := H1.cell (i := 2) (by omega); have c2 : w1.cell? ⟨w.heap.size + 1, 2, none⟩ = some (.int .i64 i) := O1.cell (i := 2) (by omega); have c4 : w1.cell? ⟨w.heap.size + 1, 4, none⟩ = some (.int .u8 kv) := O1.cell (i := 4) (by omega); have c5 : w1.cell? ⟨w.heap.size + 1, 5, none⟩ = some (.int .i64 nv) := O1.cell (i := 5) (by omega); have c6 : w1.cell? ⟨w.heap.size + 1, 6, none⟩ = some (.int .i64 rv) := O1.cell (i := 6) (by omega); have c7 : w1.cell? ⟨w.heap.size + 1, 7, none⟩ = some (.int .i64 iv) := O1.cell (i := 7) (by omega); have c8 : w1.cell? ⟨w.heap.size + 1, 8, none⟩ = some (.int .u8 kx) := O1.cell (i := 8) (by omega); have c9 : w1.cell? ⟨w.heap.size + 1, 9, none⟩ = some (.int .i64 nx) := O1.cell (i := 9) (by omega); have c10 : w1.cell? ⟨w.heap.size + 1, 10, none⟩ = some (.int .i64 rx) := O1.cell (i := 10) (by omega); have c11 : w1.cell? ⟨w.heap.size + 1, 11, none⟩ = some (.int .i64 ix) := O1.cell (i := 11) (by omega); have y0 : w1.cell? ⟨w.heap.size + 1 + 1, 0, none⟩ = some (.int .i64 0) := Q1.cell (i := 0) (by omega); have y1 : w1.cell? ⟨w.heap.size + 1 + 1, 1, none⟩ = some (.int .i64 0) := Q1.cell (i := 1) (by omega); have y2 : w1.cell? ⟨w.heap.size + 1 + 1, 2, none⟩ = some (.slice none 0 0) := Q1.cell (i := 2) (by omega); have yf : ∀ q, w1.frozen? ⟨w.heap.size + 1 + 1, q, none⟩ = false := (fun q => Q1.frozen q); have hl1 : w.heap.size + 1 + 1 < w1.heap.size := Q1.lt; have hl0 : w.heap.size < w1.heap.size := H1.lt; have hl01 : w.heap.size + 1 < w1.heap.size := O1.lt; have hRL1 := does_rl hB.out (by omega) s1 hk0 hL.out; have hRV1 := does_rv hB.out (by omega) s1 hk0 hr.out; have K3 := Lib.hid fun w' hb => K2.out own1 w1 w' hRL1 f1 hb; replace h1 := Lib.hid h1; replace f1 := Lib.hid f1; replace s1 := Lib.hid s1; clear n0 n1 n2 H1 O1 Q1 hs3 hRL1 hRV1) | ((with_reducible refine (K3.out _ (by go_grown)).mono ?_); rintro e w2 ⟨a2, N2, d2, rfl, hRL2, hb2⟩; have g2 : Below w1.heap.size w1 w2 := below_step (by go_grown) hb2; have yg : ∀ q, w2.frozen? ⟨w.heap.size + 1 + 1, q, none⟩ = false := (fun q => froz_carry (o := 0) g2 y0 (yf q)); have ya : w2.cell? ⟨w.heap.size + 1 + 1, 0, none⟩ = some (.int .i64 0) := cell_carry g2 y0; have yb : w2.cell? ⟨w.heap.size + 1 + 1, 1, none⟩ = some (.int .i64 0) := cell_carry g2 y1; have yc : w2.cell? ⟨w.heap.size + 1 + 1, 2, none⟩ = some (.slice none 0 0) := cell_carry g2 y2; have hRL3 := Lib.hid hRL2; have g3 := Lib.hid g2; clear hb2 g2 hRL2 y0 y1 y2 yf x0 x1 x2))
  all_goals
    obtain ⟨W2, hW2⟩ : ∃ W2, W2 = w2.alloc (.cells #[.int .i64 room, .int .i64 (C2 : Nat), .slice a2 N2 d2] 31) := ⟨_, rfl⟩
    rw [← hW2]
    have gW : Below w2.heap.size w2 W2 := by rw [hW2]; go_grown
    have u4 : W2.cell? ⟨w2.heap.size, 0, none⟩ = some (.int .i64 room) := by rw [hW2]; simp [go_sem]
    have u5 : W2.cell? ⟨w2.heap.size, 1, none⟩ = some (.int .i64 (C2 : Nat)) := by rw [hW2]; simp [go_sem]
    have u6 : W2.cell? ⟨w2.heap.size, 2, none⟩ = some (.slice a2 N2 d2) := by rw [hW2]; simp [go_sem]
    have yf : ∀ q, W2.frozen? ⟨w.heap.size + 1 + 1, q, none⟩ = false := fun q => froz_carry (o := 0) gW ya (yg q)
    have y0 := cell_carry gW ya
    have y1 := cell_carry gW yb
    have y2 := cell_carry gW yc
    have gA := Lib.hid (below_step g3.out gW)
    have hR3 := Lib.hid (hRL3.out.kp (kp_below gW))
    clear hW2 gW ya yb yc yg
    go_region
    go_wp2_with fail
    have hE : Oth (fun b => b = w.heap.size + 1 + 1) W2 ((((W2.setCell ⟨w.heap.size + 1 + 1, 0, none⟩ (.int .i64 room)).setCell ⟨w.heap.size + 1 + 1, 1, none⟩ (.int .i64 (C2 : Nat))).setCell ⟨w.heap.size + 1 + 1, 2, none⟩ (.slice a2 N2 d2)).drew) :=
      Oth.drew ((((Oth.refl (fun b => b = w.heap.size + 1 + 1) W2).set (q := ⟨w.heap.size + 1 + 1, 0, none⟩) rfl _).set (q := ⟨w.heap.size + 1 + 1, 1, none⟩) rfl _).set (q := ⟨w.heap.size + 1 + 1, 2, none⟩) rfl _)
    have hs3 := hsz.out
    refine bodyPost_ret (v := .tuple #[.bool true, .agg #[.int .i64 room, .int .i64 (C2 : Nat), .slice a2 N2 d2]]) (by simp [results, Try.results12, go_sem, y0, y1, y2]) rfl ⟨own1, a2, N2, d2, rfl, does_end hB.out (by omega) (by omega) h1.out f1.out s1.out gA.out hR3.out hE⟩

end Go.Proofs.Ytfeeikajekemlaa
