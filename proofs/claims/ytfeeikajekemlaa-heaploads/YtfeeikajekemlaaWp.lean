/-
  Contract of heap's Put. Conditions: as said.
-/
import Derived.Test.YtfeeikajekemlaaWo
import Derived.Test.YtfeeikajekemlaaWb
namespace Go.Proofs.Ytfeeikajekemlaa
open Go.RowKit
set_option linter.unusedVariables false
set_option linter.unusedSimpArgs false
set_option maxRecDepth 100000

theorem ret_u8 {a b : Int} (h : a = b) : Ending.returned (.int .u8 a) = .returned (.int .u8 b) := by rw [h]

/-- What the value's object says of the trap. -/
theorem putT_of {L : List Ob} {v : Vl} (i : Int) (h : meansB L v = true) (h3 : (meant L v).kind ≠ 3) : nameB L v = true ∧ v.kind ≠ 3 ∧ meant L v = ob L (at_ v) := by
  unfold meansB at h
  unfold meant at h3 ⊢
  by_cases h0 : v.kind = 3 ∧ v.n = 0
  · rw [if_pos h0] at h3; exact absurd rfl h3
  · rw [if_neg h0] at h3 ⊢
    have hn : nameB L v = true := by
      rw [Bool.or_eq_true] at h
      rcases h with h | h
      · simp at h; exact absurd h h0
      · exact h
    rw [if_pos hn] at h3 ⊢
    exact ⟨hn, fun e => h3 (by rw [(name_parts hn).2.2.2.2, e]), rfl⟩
theorem putT_3a {L : List Ob} {v : Vl} (i : Int) (h : meansB L v = false) : putT L v i = 3 := by
  unfold meansB at h
  rw [Bool.or_eq_false_iff] at h
  unfold putT
  rw [if_pos (.inr (by rw [h.2]; simp))]
theorem putT_3b {L : List Ob} {v : Vl} (i : Int) (h : meansB L v = true) (h3 : (meant L v).kind = 3) : putT L v i = 3 := by
  unfold putT
  by_cases hv : v.kind = 3
  · rw [if_pos (.inl hv)]
  · have h0 : ¬ (v.kind = 3 ∧ v.n = 0) := fun e => hv e.1
    unfold meant at h3
    rw [if_neg h0] at h3
    by_cases hn : nameB L v = true
    · rw [if_pos hn] at h3
      exact absurd ((name_parts hn).2.2.2.2.symm.trans h3) hv
    · rw [if_pos (.inr hn)]
theorem putT_2 {L : List Ob} {v : Vl} {i : Int} (hn : nameB L v = true) (hv : v.kind ≠ 3) (hw : inB i (ob L (at_ v)).vals.length = false) : putT L v i = 2 := by
  unfold putT
  rw [if_neg (fun e => e.elim hv (fun z => z hn)), if_pos (by simp [inB] at hw; omega)]
theorem putT_0 {L : List Ob} {v : Vl} {i : Int} (hn : nameB L v = true) (hv : v.kind ≠ 3) (hw : inB i (ob L (at_ v)).vals.length = true) : putT L v i = 0 := by
  unfold putT
  rw [if_neg (fun e => e.elim hv (fun z => z hn)), if_neg (by simp [inB] at hw; omega)]
theorem putM_id {m : M} {v x : Vl} {i : Int} (h : putT m.L v i ≠ 0) : putM m v i x = m := by unfold putM; rw [if_neg h]

set_option maxHeartbeats 2000000 in
theorem put_a {w : World} {own : Owns} {k p room : Nat} {m : M} (h : Hp w own k p room m) (v x : Vl) (i : Int) (hm : meansB m.L v = false) :
    Calls Try.prog 19 #[.pointer (some ⟨p, 0, none⟩), vlV v, .int .i64 i, vlV x] w fun e w' => e = .returned (.int .u8 3) ∧ Below w.heap.size w w' := by
  have H := Lib.hid fun w' (hb : Below w.heap.size w w') => meant_any (h.below hb) v
  clear h
  obtain ⟨kd, n, re, im⟩ := v
  obtain ⟨kx, nx, rx, ix⟩ := x
  unfold MeanP at H
  rw [hm] at H
  clear hm
  go_enter Try.func19, Try.ntmps19
  go_wp2_with ((with_reducible refine (H.out _ (by go_grown)).mono ?_); rintro e w2 ⟨⟨kk, oo, tt, aa, nn, cc⟩, rfl, hl, hb⟩; clear hl; have hB : Below w.heap.size w w2 := below_step (by go_grown) hb; clear hb)
  go_ret
  exact ⟨rfl, hB.alloc hB.size _⟩

set_option maxHeartbeats 2000000 in
theorem put_b {w : World} {own : Owns} {k p room : Nat} {m : M} (h : Hp w own k p room m) (v x : Vl) (i : Int) (hm : meansB m.L v = true) (h3 : (meant m.L v).kind = 3) :
    Calls Try.prog 19 #[.pointer (some ⟨p, 0, none⟩), vlV v, .int .i64 i, vlV x] w fun e w' => e = .returned (.int .u8 3) ∧ Below w.heap.size w w' := by
  have H := Lib.hid fun w' (hb : Below w.heap.size w w') => meant_any (h.below hb) v
  clear h
  obtain ⟨kd, n, re, im⟩ := v
  obtain ⟨kx, nx, rx, ix⟩ := x
  unfold MeanP at H
  rw [hm] at H
  clear hm
  go_enter Try.func19, Try.ntmps19
  go_wp2_with ((with_reducible refine (H.out _ (by go_grown)).mono ?_); rintro e w2 ⟨⟨kk, oo, tt, aa, nn, cc⟩, rfl, hl, hb⟩; have e3 : ((kk : Int) == 3) = true := (by rw [beq_iff_eq]; have := hl.kind; simp only at this; omega); clear hl; have hB : Below w.heap.size w w2 := below_step (by go_grown) hb; clear hb)
  go_ret
  exact ⟨rfl, hB.alloc hB.size _⟩

set_option maxHeartbeats 2000000 in
theorem put_c {w : World} {own : Owns} {k p room : Nat} {m : M} (h : Hp w own k p room m) (v x : Vl) (i : Int) (hm : meansB m.L v = true) (h3 : (meant m.L v).kind ≠ 3) (hw : inB i (meant m.L v).vals.length = false) :
    Calls Try.prog 19 #[.pointer (some ⟨p, 0, none⟩), vlV v, .int .i64 i, vlV x] w fun e w' => e = .returned (.int .u8 2) ∧ Below w.heap.size w w' := by
  have H := Lib.hid fun w' (hb : Below w.heap.size w w') => meant_any (h.below hb) v
  clear h
  obtain ⟨kd, n, re, im⟩ := v
  obtain ⟨kx, nx, rx, ix⟩ := x
  unfold MeanP at H
  rw [hm] at H
  clear hm
  go_enter Try.func19, Try.ntmps19
  go_wp2_with (first | ((with_reducible refine (H.out _ (by go_grown)).mono ?_); rintro e w2 ⟨⟨kk, oo, tt, aa, nn, cc⟩, rfl, hl, hb⟩; have e3 : ((kk : Int) == 3) = false := (by rw [beq_eq_false_iff_ne]; have := hl.kind; simp only at this; omega); have g2 : inB i nn = false := (by have := hl.len; simp only at this; rw [← this]; exact hw); clear hl hw; have hB : Below w.heap.size w w2 := below_step (by go_grown) hb; clear hb) | ((with_reducible refine (within_any _ _ _).mono ?_); rintro e w3 ⟨rfl, rfl⟩))
  go_ret
  exact ⟨rfl, hB.alloc hB.size _⟩

theorem put_end {w W w4 : World} {own own' : Owns} {k p room : Nat} {m : M} {vo va : Value} {bl vb : Nat → Nat} {al : Nat → Bool} {xs : Nat → Oc} {v : Vl} {i j kx : Nat} {nx rx ix : Int} (hBW : Below w.heap.size w W) (hs : Stp W.heap.size k own own' W w4) (hH : HeapAt w4 own' k p room m vo va bl vb al xs) (fz4 : Fz w4 own')
    (hi : i < m.L.length) (hat : at_ v = i) (hT : putT m.L v (j : Int) = 0) (hal : al i = true) (hj : j < (xs i).n) (hrow : w4.rowIs (vb i) 35 ((xs i).n * 4) (flV (ob m.L i).vals)) :
    MadeP w own k p room (putM m v (j : Int) ⟨kx, nx, rx, ix⟩) ((((w4.setCell ⟨vb i, j * 4, none⟩ (.int .u8 (kx : Nat))).setCell ⟨vb i, j * 4 + 1, none⟩ (.int .i64 nx)).setCell ⟨vb i, j * 4 + 2, none⟩ (.int .i64 rx)).setCell ⟨vb i, j * 4 + 3, none⟩ (.int .i64 ix)) := by
  have hO : Oth (fun b => b = vb i) w4 ((((w4.setCell ⟨vb i, j * 4, none⟩ (.int .u8 (kx : Nat))).setCell ⟨vb i, j * 4 + 1, none⟩ (.int .i64 nx)).setCell ⟨vb i, j * 4 + 2, none⟩ (.int .i64 rx)).setCell ⟨vb i, j * 4 + 3, none⟩ (.int .i64 ix)) :=
    ((((Oth.refl (fun b => b = vb i) w4).set (q := ⟨vb i, j * 4, none⟩) rfl _).set (q := ⟨vb i, j * 4 + 1, none⟩) rfl _).set (q := ⟨vb i, j * 4 + 2, none⟩) rfl _).set (q := ⟨vb i, j * 4 + 3, none⟩) rfl _
  have ho := hH.at_ i hi
  have hov := (ho.ownA hal).2 (by omega)
  have hlen := ho.vals.1
  refine ⟨own', Hp.put hH i j v ⟨kx, nx, rx, ix⟩ hi hat hT hal hj hO (flF_set (F := vl (ob m.L i).vals) hrow j ⟨kx, nx, rx, ix⟩ (vl ((ob m.L i).vals.set j ⟨kx, nx, rx, ix⟩)) fun q hq => vl_set _ _ _ _ (by omega)), fun q hq => fz4 q (by have := hO.size; omega), ?_⟩
  have h1 := (Stp.of_below (k := k) (own := own) hBW).trans (hs.mono hBW.size)
  refine ⟨hO.os.trans h1.os, hO.tape.trans h1.tape, hO.output.trans h1.output, Nat.le_trans h1.size hO.size, h1.ownE, fun q hq hqk => (hO.block q (by have := h1.size; omega) fun e => ?_).trans (h1.block q hq hqk)⟩
  have := h1.ownE q hq
  rw [e, hov] at this
  rw [e, ← this] at hqk
  exact hqk rfl

set_option maxHeartbeats 4000000 in
theorem put_d {w : World} {own : Owns} {k p room : Nat} {m : M} (h : Hp w own k p room m) (fz : Fz w own) (kd i j : Nat) (re im : Int) (x : Vl) (hm : meansB m.L ⟨kd, (i : Int) + 1, re, im⟩ = true) (h3 : (meant m.L ⟨kd, (i : Int) + 1, re, im⟩).kind ≠ 3) (hw : inB (j : Int) (meant m.L ⟨kd, (i : Int) + 1, re, im⟩).vals.length = true) (hi : i < m.L.length) :
    Calls Try.prog 19 #[.pointer (some ⟨p, 0, none⟩), vlV ⟨kd, (i : Int) + 1, re, im⟩, .int .i64 j, vlV x] w fun e w' => e = .returned (.int .u8 0) ∧ MadeP w own k p room (putM m ⟨kd, (i : Int) + 1, re, im⟩ j x) w' := by
  have H := Lib.hid fun w' (hb : Below w.heap.size w w') => meant_any (h.below hb) ⟨kd, (i : Int) + 1, re, im⟩
  have HC := Lib.hid fun w' (hb : Below w.heap.size w w') => chg_any (h.below hb) (fz.below hb.size) i hi
  obtain ⟨kx, nx, rx, ix⟩ := x
  unfold MeanP at H
  rw [hm] at H
  replace hm := Lib.hid hm
  replace h := Lib.hid h
  replace fz := Lib.hid fz
  go_enter Try.func19, Try.ntmps19
  go_wp2_with (first | ((with_reducible refine (H.out _ (by go_grown)).mono ?_); rintro e w2 ⟨⟨kk, oo, tt, aa, nn, cc⟩, rfl, hl, hb⟩; have e3 : ((kk : Int) == 3) = false := (by rw [beq_eq_false_iff_ne]; have := hl.kind; simp only at this; omega); have g2 : inB (j : Int) nn = true := (by have := hl.len; simp only at this; rw [← this]; exact hw); clear hl; have hB : Below w.heap.size w w2 := below_step (by go_grown) hb; have X2 := ((by have := vl_box (w.alloc (.cells #[.int .u8 kd, .int .i64 ((i : Int) + 1), .int .i64 re, .int .i64 im] 35)) ⟨kx, nx, rx, ix⟩; simpa using this : ((w.alloc (.cells #[.int .u8 kd, .int .i64 ((i : Int) + 1), .int .i64 re, .int .i64 im] 35)).alloc (.cells #[.int .u8 kx, .int .i64 nx, .int .i64 rx, .int .i64 ix] 35)).rowIs (w.heap.size + 1) 35 4 (flV [⟨kx, nx, rx, ix⟩])).of_block (hb.block (w.heap.size + 1) (by simp))); have V2 := ((vl_box w ⟨kd, (i : Int) + 1, re, im⟩).alloc (.cells #[.int .u8 kx, .int .i64 nx, .int .i64 rx, .int .i64 ix] 35)).of_block (hb.block w.heap.size (by simp; omega)); clear hb) | ((with_reducible refine (within_any _ _ _).mono ?_); rintro e w3 ⟨rfl, rfl⟩))
  obtain ⟨W, hW⟩ : ∃ W, W = w2.alloc (.cells #[.int .u8 kk, .int .i64 oo, .string tt, .slice aa nn cc] 45) := ⟨_, rfl⟩
  rw [← hW]
  have hBW : Below w.heap.size w W := by rw [hW]; exact hB.alloc hB.size _
  have X3 : W.rowIs (w.heap.size + 1) 35 4 (flV [⟨kx, nx, rx, ix⟩]) := by rw [hW]; exact X2.alloc _
  have V3 : W.rowIs w.heap.size 35 4 (flV [⟨kd, (i : Int) + 1, re, im⟩]) := by rw [hW]; exact V2.alloc _
  clear hW X2 V2
  have v1 : W.cell? ⟨w.heap.size, 1, none⟩ = some (.int .i64 ((i : Int) + 1)) := V3.cell (i := 1) (by omega)
  have x0 : W.cell? ⟨w.heap.size + 1, 0, none⟩ = some (.int .u8 kx) := X3.cell (i := 0) (by omega)
  have x1 : W.cell? ⟨w.heap.size + 1, 1, none⟩ = some (.int .i64 nx) := X3.cell (i := 1) (by omega)
  have x2 : W.cell? ⟨w.heap.size + 1, 2, none⟩ = some (.int .i64 rx) := X3.cell (i := 2) (by omega)
  have x3 : W.cell? ⟨w.heap.size + 1, 3, none⟩ = some (.int .i64 ix) := X3.cell (i := 3) (by omega)
  have hqW := X3.lt
  have HCW : Hid (∀ w' : World, Below W.heap.size W w' → Calls Try.prog 46 #[.pointer (some ⟨p, 0, none⟩), .int .i64 ((i : Int) + 1)] w' fun e w4 => ∃ own' vo va bl vb al xs, e = .returned (.pointer (some ⟨bl i, 0, none⟩)) ∧ HeapAt w4 own' k p room m vo va bl vb al xs ∧ al i = true ∧ Fz w4 own' ∧ Stp W.heap.size k own own' W w4) :=
    Lib.hid fun w' hb => (HC.out w' (below_step hBW hb)).mono fun e w4 ⟨own', vo, va, bl, vb, al, xs, a1, a2, a3, a4, a5⟩ => ⟨own', vo, va, bl, vb, al, xs, a1, a2, a3, a4, (Stp.of_below hb).trans (a5.mono hb.size)⟩
  have hqo : own (w.heap.size + 1) = (0, 0) := fz.out _ (by omega)
  have hk0 := h.out.k0
  have hnm := putT_of (j : Int) hm.out h3
  rw [hnm.2.2] at hw
  have hat_ : at_ ⟨kd, (i : Int) + 1, re, im⟩ = i := by simp [at_]
  have hT := Lib.hid (putT_0 hnm.1 hnm.2.1 hw)
  rw [hat_] at hw
  have hjl : j < (ob m.L i).vals.length := by simp [inB] at hw; omega
  replace hat_ := Lib.hid hat_
  replace X3 := Lib.hid X3
  replace hBW := Lib.hid hBW
  replace hqo := Lib.hid hqo
  clear V3 hB HC hw h3 hnm
  go_region_with ((with_reducible refine (HCW.out _ (by go_grown)).mono ?_); rintro e w4 ⟨own', vo, va, bl, vb, al, xs, rfl, hH, hal, fz4, hs⟩; have ho := hH.at_ i hi; have hjn : j < (xs i).n := (by have := ho.vals.1; omega); have haq : (xs i).a = some ⟨vb i, 0, none⟩ ∧ w4.rowIs (vb i) 35 ((xs i).n * 4) (flV (ob m.L i).vals) := (by rcases ho.vals.2.2 with z | z; (exact absurd z (by omega)); exact z); obtain ⟨haq, hrow⟩ := haq; have b3 : w4.cell? ⟨bl i, 3, none⟩ = some (.slice (some ⟨vb i, 0, none⟩) (xs i).n (xs i).c) := (by have := ho.row.cell (i := 3) (by omega); rw [this, ← haq]; rfl); obtain ⟨t0, t1, t2, t3⟩ := flF_at (F := vl (ob m.L i).vals) hrow hjn; have tf : ∀ o, w4.frozen? ⟨vb i, o, none⟩ = false := (fun o => hrow.frozen o); have X4 := X3.out.of_block (hs.block (w.heap.size + 1) hqW (by rw [hqo.out]; exact fun z => hk0 z.symm)); have y0 : w4.cell? ⟨w.heap.size + 1, 0, none⟩ = some (.int .u8 kx) := X4.cell (i := 0) (by omega); have y1 : w4.cell? ⟨w.heap.size + 1, 1, none⟩ = some (.int .i64 nx) := X4.cell (i := 1) (by omega); have y2 : w4.cell? ⟨w.heap.size + 1, 2, none⟩ = some (.int .i64 rx) := X4.cell (i := 2) (by omega); have y3 : w4.cell? ⟨w.heap.size + 1, 3, none⟩ = some (.int .i64 ix) := X4.cell (i := 3) (by omega); replace hH := Lib.hid hH; replace fz4 := Lib.hid fz4; replace hs := Lib.hid hs; replace hrow := Lib.hid hrow; replace hal := Lib.hid hal; clear X4 ho haq)
  all_goals
    go_wp2_with fail
    go_ret
    exact ⟨rfl, put_end hBW.out hs.out hH.out fz4.out hi hat_.out hT.out hal.out hjn hrow.out⟩

/-- Put. -/
theorem put_any {w : World} {own : Owns} {k p room : Nat} {m : M} (h : Hp w own k p room m) (fz : Fz w own) (v x : Vl) (i : Int) :
    Calls Try.prog 19 #[.pointer (some ⟨p, 0, none⟩), vlV v, .int .i64 i, vlV x] w fun e w' => e = .returned (.int .u8 (putT m.L v i : Nat)) ∧ MadeP w own k p room (putM m v i x) w' := by
  cases hm : meansB m.L v with
  | false =>
    have h3 := putT_3a i hm
    rw [putM_id (by omega), h3]
    exact (put_a h v x i hm).mono fun e w' ⟨a, b⟩ => ⟨a, made_below h fz b⟩
  | true =>
    by_cases hk : (meant m.L v).kind = 3
    · have h3 := putT_3b i hm hk
      rw [putM_id (by omega), h3]
      exact (put_b h v x i hm hk).mono fun e w' ⟨a, b⟩ => ⟨a, made_below h fz b⟩
    · obtain ⟨h1, h2, h3⟩ := putT_of i hm hk
      cases hw : inB i (meant m.L v).vals.length with
      | false =>
        have h4 := putT_2 h1 h2 (h3 ▸ hw)
        rw [putM_id (by omega), h4]
        exact (put_c h v x i hm hk hw).mono fun e w' ⟨a, b⟩ => ⟨a, made_below h fz b⟩
      | true =>
        rw [putT_0 h1 h2 (h3 ▸ hw)]
        obtain ⟨_, _, h5, h6, _⟩ := name_parts h1
        obtain ⟨kd, n, re, im⟩ := v
        obtain ⟨q, hq⟩ : ∃ q, at_ ⟨kd, n, re, im⟩ = q := ⟨_, rfl⟩
        rw [hq] at h5 h6
        simp only at h6
        obtain rfl : n = (q : Int) + 1 := by omega
        obtain ⟨j, rfl⟩ : ∃ j : Nat, i = j := ⟨i.toNat, by simp [inB] at hw; omega⟩
        exact put_d h fz kd q j re im x hm hk hw h5

end Go.Proofs.Ytfeeikajekemlaa
