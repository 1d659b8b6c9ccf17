/-
  What a Put that traps not leaves; objects of All, one element of which is set back. Conditions: as said. The walk of HeapPuts. Conditions: none.
-/
import Derived.Test.YtfeeikajekemlaaLp0
namespace Go.Proofs.Ytfeeikajekemlaa
section
open Go.RowKit
set_option linter.unusedVariables false
set_option linter.unusedSimpArgs false

theorem Tb.made {w w' : World} {own own' : Owns} {k p room t : Nat} {F : Nat → Value} {m : M} {a : Option Addr} {n c : Nat} (h : Tb w own k p room t F m a n c) (s : Stp w.heap.size k own own' w w') (hp : Hp w' own' k p room m) : Tb w' own' k p room t F m a n c :=
  ⟨hp, h.box.of_block (s.block _ h.box.lt (by rw [h.lab]; simp)), by rw [s.ownE _ h.box.lt]; exact h.lab, h.rl.kp (s.kp rfl hp.k0)⟩

theorem ob_set (L : List Ob) (j q : Nat) (o : Ob) (hq : q < L.length) : ob (L.set j o) q = if q = j then o else ob L q := by
  unfold ob
  rw [List.getD_eq_getElem?_getD, List.getD_eq_getElem?_getD, List.getElem?_set]
  by_cases e : j = q
  · subst e; simp [hq]
  · rw [if_neg e, if_neg (fun h => e h.symm)]

structure PutF (m : M) (v x : Vl) (i : Int) (j ii : Nat) : Prop where
  n : v.n = (j : Int) + 1
  ix : i = ii
  lt : j < m.L.length
  lt2 : ii < (ob m.L j).vals.length
  eq : putM m v i x = ⟨m.cells, m.L.set j (putO (ob m.L j) ii x)⟩
  means : meansB (putM m v i x).L v = true
  tx : inB i (meant (putM m v i x).L v).text.size = false
  vs : inB i (meant (putM m v i x).L v).vals.length = true
  get : getV (meant (putM m v i x).L v) i = x

theorem put_facts {room : Nat} {m : M} {v x : Vl} {i : Int} (hok : OkM room m) (hT : putT m.L v i = 0) : ∃ j ii : Nat, PutF m v x i j ii := by
  have h0 := hT
  unfold putT at hT
  by_cases h1 : v.kind = 3 ∨ ¬ nameB m.L v = true
  · rw [if_pos h1] at hT; cases hT
  rw [if_neg h1] at hT
  have hn : nameB m.L v = true := Classical.byContradiction fun hc => h1 (.inr hc)
  have h3 : v.kind ≠ 3 := fun hc => h1 (.inl hc)
  by_cases h2 : i < 0 ∨ ((ob m.L (at_ v)).vals.length : Int) ≤ i
  · rw [if_pos h2] at hT; cases hT
  obtain ⟨g1, g2, hlt, ge, hk⟩ := name_parts hn
  obtain ⟨ii, rfl⟩ : ∃ ii : Nat, i = ii := ⟨i.toNat, by omega⟩
  obtain ⟨j, hj⟩ : ∃ j, at_ v = j := ⟨_, rfl⟩
  rw [hj] at h2 hlt ge hk
  have heq : putM m v (ii : Int) x = ⟨m.cells, m.L.set j (putO (ob m.L j) ii x)⟩ := by
    unfold putM; rw [if_pos h0, hj]; simp
  have hob : ob (m.L.set j (putO (ob m.L j) ii x)) j = putO (ob m.L j) ii x := by rw [ob_set _ _ _ _ hlt, if_pos rfl]
  have hnm : nameB (m.L.set j (putO (ob m.L j) ii x)) v = true := by
    unfold nameB
    have e : (v.n - 1).toNat = j := hj
    rw [List.length_set, e, hob]
    simp [putO, hk, g1, g2]
  have hmn : meant (putM m v (ii : Int) x).L v = putO (ob m.L j) ii x := by
    rw [heq]; unfold meant
    rw [if_neg (fun c => h3 c.1), if_pos hnm, hj, hob]
  have hmay := hok.may _ (ob_mem hlt)
  have htx : (ob m.L j).text.size = 0 := by
    unfold mayB at hmay
    rw [if_neg (by omega)] at hmay
    simp at hmay
    rw [hmay.1.2]; rfl
  have hl2 : ii < (ob m.L j).vals.length := by omega
  have ht : inB (ii : Int) (meant (putM m v (ii : Int) x).L v).text.size = false := by
    rw [hmn]; show inB _ (ob m.L j).text.size = false
    rw [htx]; simp [inB]
  have hvv : inB (ii : Int) (meant (putM m v (ii : Int) x).L v).vals.length = true := by
    rw [hmn]; show inB _ ((ob m.L j).vals.set ii x).length = true
    rw [List.length_set]; simp [inB, hl2]
  refine ⟨j, ii, by omega, rfl, hlt, hl2, heq, ?_, ht, hvv, ?_⟩
  · rw [heq]; unfold meansB; rw [hnm]; simp
  · unfold getV
    rw [if_neg (by rw [ht]; simp), if_pos hvv, hmn]
    show vl ((ob m.L j).vals.set ii x) ((ii : Int)).toNat = x
    rw [Int.toNat_natCast, vl_set _ _ _ _ hl2, if_pos rfl]

/-- One element is set back. -/
theorem objs_reset {w : World} {B g n : Nat} {L : List Ob} {xs : Nat → Oc} {vb : Nat → Nat} {j ii : Nat} {x : Vl} (h : Objs w B g n n (L.set j (putO (ob L j) ii x)) xs vb) (hB : B ≤ g) (hn : L.length = n) (hj : j < n) (hii : ii < (ob L j).vals.length) (u : Vl) (hu : vl (ob L j).vals ii = u) :
    RL (fun b => B ≤ b) ((((w.setCell ⟨vb j, ii * 4, none⟩ (.int .u8 u.kind)).setCell ⟨vb j, ii * 4 + 1, none⟩ (.int .i64 u.n)).setCell ⟨vb j, ii * 4 + 2, none⟩ (.int .i64 u.re)).setCell ⟨vb j, ii * 4 + 3, none⟩ (.int .i64 u.im)) (some ⟨g, 0, none⟩) n n L := by
  have hobj : ∀ i, i < n → ob (L.set j (putO (ob L j) ii x)) i = if i = j then putO (ob L j) ii x else ob L i := fun i hi => ob_set _ _ _ _ (by omega)
  have hlen : ∀ i, i < n → (ob L i).vals.length = (xs i).n := fun i hi => by
    have := (h.vals i hi).1
    rw [hobj i hi] at this
    by_cases e : i = j
    · subst e; rw [if_pos rfl] at this; rw [← this]; simp [putO]
    · rw [if_neg e] at this; exact this
  have hnj : (xs j).n ≠ 0 := by have := hlen j hj; omega
  have hlo := h.lo j hj hnj
  obtain ⟨w', hw'⟩ : ∃ w', w' = ((((w.setCell ⟨vb j, ii * 4, none⟩ (.int .u8 u.kind)).setCell ⟨vb j, ii * 4 + 1, none⟩ (.int .i64 u.n)).setCell ⟨vb j, ii * 4 + 2, none⟩ (.int .i64 u.re)).setCell ⟨vb j, ii * 4 + 3, none⟩ (.int .i64 u.im)) := ⟨_, rfl⟩
  rw [← hw']
  have hE : ∀ b, b ≠ vb j → w'.heap[b]? = w.heap[b]? := fun b hb => by
    rw [hw']
    exact (set_other (q := ⟨vb j, ii * 4 + 3, none⟩) hb).trans ((set_other (q := ⟨vb j, ii * 4 + 2, none⟩) hb).trans ((set_other (q := ⟨vb j, ii * 4 + 1, none⟩) hb).trans (set_other (q := ⟨vb j, ii * 4, none⟩) hb)))
  have hrow : w'.rowIs g 45 (n * 4) (flO xs) := h.row.of_block (hE g (by omega))
  have hne : ∀ i, i < n → i ≠ j → (xs i).n ≠ 0 → vb i ≠ vb j := fun i hi hij hni => by
    rcases Nat.lt_or_gt_of_ne hij with hlt | hgt
    · have := h.inc i j hlt hj hni hnj; omega
    · have := h.inc j i hgt hi hnj hni; omega
  refine ⟨(List.range n).map xs, by simp, hn, (fun e => by cases e), fun i hi => ?_, fun i hi => ?_⟩
  · have hi' : i < n := by simpa using hi
    refine ⟨g, 0, rfl, hB, ?_⟩
    have e : oc ((List.range n).map xs) i = xs i := by simp [oc, List.getD, hi']
    rw [e, Nat.zero_add]
    exact flO_at hrow hi'
  · have e : oc ((List.range n).map xs) i = xs i := by simp [oc, List.getD, hi]
    rw [e]
    have hk := h.kind i hi
    have hf := h.of i hi
    have ht := h.text i hi
    have hv := h.vals i hi
    rw [hobj i hi] at hk hf ht hv
    by_cases ej : i = j
    · subst ej
      rw [if_pos rfl] at hk hf ht hv
      refine ⟨hk, hf, ht, hlen i hi, hv.2.1, ?_⟩
      rcases hv.2.2 with z | ⟨z1, z2⟩
      · exact absurd z hnj
      · have hw2 : w'.rowIs (vb i) 35 ((xs i).n * 4) (flF (vl (ob L i).vals)) := by
          rw [hw']
          refine flF_set z2 ii u _ fun q hq => ?_
          show vl (ob L i).vals q = if q = ii then u else vl ((ob L i).vals.set ii x) q
          have := hlen i hi
          by_cases eq : q = ii
          · subst eq; rw [if_pos rfl]; exact hu
          · rw [if_neg eq, vl_set _ _ _ _ (by omega), if_neg eq]
        exact va_rv (x := xs i) (vb := vb i) ⟨hlen i hi, hv.2.1, .inr ⟨z1, hw2⟩⟩ fun _ => hlo.1
    · rw [if_neg ej] at hk hf ht hv
      refine ⟨hk, hf, ht, hlen i hi, hv.2.1, ?_⟩
      exact va_rv (hv.of_block fun hni => hE _ (hne i hi ej hni)) fun hni => (h.lo i hi hni).1
end
end Go.Proofs.Ytfeeikajekemlaa

namespace Go.Proofs.Ytfeeikajekemlaa
section
open Go.RowKit
set_option linter.unusedVariables false
set_option linter.unusedSimpArgs false
set_option maxRecDepth 100000

set_option maxHeartbeats 16000000 in
theorem heapPuts_walk (W : World) (a : Option Addr) (len cap : Nat) (l : List Op) (z : l.length = len ∧ RP W a l op0) (v x : Vl) (i : Int) :
    Calls Try.prog 5 #[.slice a len cap, vlV v, vlV x, .int .i64 i] W fun e w' => e = .returned (.bool true) ∧ Below W.heap.size W w' := by
  obtain ⟨kv0, nv0, rv0, iv0⟩ := v
  obtain ⟨kx0, nx0, rx0, ix0⟩ := x
  obtain ⟨hl, h⟩ := z
  have HA := Lib.hid fun w' => awake_any w'
  obtain ⟨room, hroom⟩ : ∃ r : Nat, r = 2000 := ⟨_, rfl⟩
  have er : (2000 : Int) = (room : Int) := by omega
  obtain ⟨W0, hW0⟩ : ∃ W0, W0 = (W.alloc (.cells #[.int .u8 kv0, .int .i64 nv0, .int .i64 rv0, .int .i64 iv0] 35)).alloc (.cells #[.int .u8 kx0, .int .i64 nx0, .int .i64 rx0, .int .i64 ix0] 35) := ⟨_, rfl⟩
  have hBW : Below W.heap.size W W0 := by rw [hW0]; go_grown
  have hz0 : W0.heap.size = W.heap.size + 1 + 1 := by rw [hW0]; simp
  have V0 : W0.rowIs W.heap.size 35 4 (flV [⟨kv0, nv0, rv0, iv0⟩]) := by rw [hW0]; exact (vl_box W ⟨kv0, nv0, rv0, iv0⟩).alloc _
  have X0 : W0.rowIs (W.heap.size + 1) 35 4 (flV [⟨kx0, nx0, rx0, ix0⟩]) := by
    rw [hW0]
    have := vl_box (W.alloc (.cells #[.int .u8 kv0, .int .i64 nv0, .int .i64 rv0, .int .i64 iv0] 35)) ⟨kx0, nx0, rx0, ix0⟩
    simpa using this
  have HN := new_ok room W0 (by omega) own00 1 (by omega) (fz00 W0)
  rw [← er] at HN
  replace h := Lib.hid (rp_carry h hBW)
  replace HN := Lib.hid HN
  replace hW0 := Lib.hid hW0
  replace hBW := Lib.hid hBW
  replace hz0 := Lib.hid hz0
  replace V0 := Lib.hid V0
  replace X0 := Lib.hid X0
  replace er := Lib.hid er
  clear hroom
  go_enter Try.func5, Try.ntmps5
  go_wp2_with fail
  rw [← hW0.out]
  clear hW0
  refine HN.out.mono ?_
  rintro e w1 ⟨rfl, own1, h1, f1, s1, hb1⟩
  have HG := Lib.hid (great_any a len cap l hl w1 (rp_carry h.out hb1))
  replace h1 := Lib.hid h1
  replace f1 := Lib.hid f1
  replace s1 := Lib.hid s1
  replace hb1 := Lib.hid hb1
  go_wp2_with fail
  refine HG.out.mono ?_
  rintro e w2 ⟨g, rfl, hg, rfl⟩
  cases g
  case true =>
    go_wp2_with ((with_reducible refine (HA.out _).mono ?_); rintro e w3 ⟨rfl, hb⟩)
    go_ret
    exact ⟨rfl, below_step (below_step hBW.out hb1.out) hb⟩
  case false =>
    have hcalm := Lib.hid (hg rfl)
    clear hg HG
    go_wp2_with fail
    obtain ⟨hL0, hC0⟩ := lp_start (p := W0.heap.size) h1.out f1.out s1.out
    have hlen60 : len ≤ 60 := by rw [← hl]; exact hcalm.out.1
    obtain ⟨W2, hW2⟩ : ∃ W2, W2 = w1.alloc (.cells #[.int .i64 2000, .int .i64 0, .slice none 0 0] 31) := ⟨_, rfl⟩
    rw [← hW2]
    rw [er.out] at hW2
    rw [← hW2] at hL0 hC0
    clear hW2
    replace hL0 := Lib.hid hL0
    replace hC0 := Lib.hid hC0
    replace hl := Lib.hid hl
    clear h1 f1 s1 hb1 HN
    go_loopw [12] (fun j wr => ∃ q own m a' n' c', q ≤ len ∧ j = .int .i64 q ∧ Hid (Lp wr own 1 W0.heap.size room w1.heap.size m a' n' c') ∧ Hid (Cx W0.heap.size W0 wr own)) (fun j _ => len - (intOf j).toNat)
    case atStart => exact ⟨0, _, _, _, _, _, Nat.zero_le _, rfl, hL0, hC0⟩
    case round =>
      obtain ⟨q, own, m, a', n', c', hq, rfl, hL, hC⟩ := hrel
      clear hL0 hC0
      have x0 := Lp.c0 hL.out
      have x1 := Lp.c1 hL.out
      have x2 := Lp.c2 hL.out
      by_cases hlt : q < len
      · obtain ⟨b, o, ad, n, c, rfl, hat, hn, hz, hr⟩ := h.out q (by rw [hl.out]; exact hlt)
        have hc2 := calm_at hcalm.out (i := q) (by rw [hl.out]; exact hlt)
        replace hat := hat.carry hC.out.bel
        replace hr := hC.out.rv rfl hr
        obtain ⟨op, hop⟩ : ∃ y, l.getD q op0 = y := ⟨_, rfl⟩
        rw [hop] at hat hn hr hc2
        clear hop
        obtain ⟨m', hm'⟩ : ∃ m', stepM room m op = m' := ⟨_, rfl⟩
        have K2 := Lib.hid fun (w' : World) (hb : Below wr.heap.size wr w') => does_b hL.out hC.out op ad n c hn hz hr hc2.1 (by omega) hb
        rw [hm'] at K2
        clear hm'
        obtain ⟨kd, f, i, s, ⟨kv, nv, rv, iv⟩, ⟨kx, nx, rx, ix⟩, vs⟩ := op
        have c0 : wr.cell? ⟨b, o + q * 13, none⟩ = some (.int .i64 kd) := hat.all 0 (by omega)
        have c1 : wr.cell? ⟨b, o + q * 13 + 1, none⟩ = some (.int .i64 f) := hat.all 1 (by omega)
        have c2 : wr.cell? ⟨b, o + q * 13 + 2, none⟩ = some (.int .i64 i) := hat.all 2 (by omega)
        have c3 : wr.cell? ⟨b, o + q * 13 + 3, none⟩ = some (.string s) := hat.all 3 (by omega)
        have c4 : wr.cell? ⟨b, o + q * 13 + 4, none⟩ = some (.int .u8 kv) := hat.all 4 (by omega)
        have c5 : wr.cell? ⟨b, o + q * 13 + 5, none⟩ = some (.int .i64 nv) := hat.all 5 (by omega)
        have c6 : wr.cell? ⟨b, o + q * 13 + 6, none⟩ = some (.int .i64 rv) := hat.all 6 (by omega)
        have c7 : wr.cell? ⟨b, o + q * 13 + 7, none⟩ = some (.int .i64 iv) := hat.all 7 (by omega)
        have c8 : wr.cell? ⟨b, o + q * 13 + 8, none⟩ = some (.int .u8 kx) := hat.all 8 (by omega)
        have c9 : wr.cell? ⟨b, o + q * 13 + 9, none⟩ = some (.int .i64 nx) := hat.all 9 (by omega)
        have c10 : wr.cell? ⟨b, o + q * 13 + 10, none⟩ = some (.int .i64 rx) := hat.all 10 (by omega)
        have c11 : wr.cell? ⟨b, o + q * 13 + 11, none⟩ = some (.int .i64 ix) := hat.all 11 (by omega)
        have c12 : wr.cell? ⟨b, o + q * 13 + 12, none⟩ = some (.slice ad n c) := hat.all 12 (by omega)
        unfold DoesB at K2
        simp only [opV] at K2
        have lt1 := hL.out.box.lt
        have lt2 := block_lt_of_cell c0
        clear hat hn hz hr hc2
        go_wp2_with fail
        go_region_with ((with_reducible refine (K2.out (World.drew wr) (by go_grown)).mono ?_); rintro e w3 ⟨own2, a2, n2, d2, rfl, hC2, hs, hT⟩; have z0 := hT.box.cell (i := 0) (by omega); have z1 := hT.box.cell (i := 1) (by omega); have z2 := hT.box.cell (i := 2) (by omega); have zf : ∀ o, w3.frozen? ⟨w1.heap.size, o, none⟩ = false := (fun o => hT.box.frozen o); replace hC2 := Lib.hid hC2; replace hs := Lib.hid hs; replace hT := Lib.hid hT)
        all_goals
          have hS3 := Lib.hid hT.out.store
          have hC4 := Lib.hid (hC2.out.store hT.out.lab (.int .i64 room) (.int .i64 (m'.cells : Nat)) (.slice a2 n2 d2))
          clear hT hC2 hs hL hC K2 x0 x1 x2 c0 c1 c2 c3 c4 c5 c6 c7 c8 c9 c10 c11 c12 lt1 lt2 z0 z1 z2 zf
          obtain ⟨W4, hW4⟩ : ∃ W4, W4 = ((w3.setCell ⟨w1.heap.size, 0, none⟩ (.int .i64 room)).setCell ⟨w1.heap.size, 1, none⟩ (.int .i64 (m'.cells : Nat))).setCell ⟨w1.heap.size, 2, none⟩ (.slice a2 n2 d2) := ⟨_, rfl⟩
          rw [← hW4]
          rw [← hW4] at hS3 hC4
          clear hW4
          go_wp2_with fail
          go_roundw
          case rel => exact ⟨q + 1, own2, m', a2, n2, d2, hlt, by go_num, hS3, hC4⟩
          case measure => simp [intOf]; omega
      · obtain rfl : q = len := by omega
        have hzz := hz0.out
        have V1 := V0.out.of_block (hC.out.bel.block _ (by omega))
        have X1 := X0.out.of_block (hC.out.bel.block _ (by omega))
        have v0 : wr.cell? ⟨W.heap.size, 0, none⟩ = some (.int .u8 kv0) := V1.cell (i := 0) (by omega)
        have v1 : wr.cell? ⟨W.heap.size, 1, none⟩ = some (.int .i64 nv0) := V1.cell (i := 1) (by omega)
        have v2 : wr.cell? ⟨W.heap.size, 2, none⟩ = some (.int .i64 rv0) := V1.cell (i := 2) (by omega)
        have v3 : wr.cell? ⟨W.heap.size, 3, none⟩ = some (.int .i64 iv0) := V1.cell (i := 3) (by omega)
        have y0 : wr.cell? ⟨W.heap.size + 1, 0, none⟩ = some (.int .u8 kx0) := X1.cell (i := 0) (by omega)
        have y1 : wr.cell? ⟨W.heap.size + 1, 1, none⟩ = some (.int .i64 nx0) := X1.cell (i := 1) (by omega)
        have y2 : wr.cell? ⟨W.heap.size + 1, 2, none⟩ = some (.int .i64 rx0) := X1.cell (i := 2) (by omega)
        have y3 : wr.cell? ⟨W.heap.size + 1, 3, none⟩ = some (.int .i64 ix0) := X1.cell (i := 3) (by omega)
        have HC := Lib.hid (cells_any hL.out.hp)
        have HP := Lib.hid (put_any hL.out.hp hC.out.fz ⟨kv0, nv0, rv0, iv0⟩ ⟨kx0, nx0, rx0, ix0⟩ i)
        have hbel := Lib.hid (below_step hBW.out hC.out.bel)
        have hle : W.heap.size ≤ wr.heap.size := by have := hC.out.le; omega
        clear h x0 x1 x2 V1 X1 hzz
        by_cases hT : putT m.L ⟨kv0, nv0, rv0, iv0⟩ i = 0
        · obtain ⟨j, ii, hF⟩ := put_facts (x := ⟨kx0, nx0, rx0, ix0⟩) hL.out.hp.ok hT
          rw [hT] at HP
          obtain rfl : nv0 = (j : Int) + 1 := hF.n
          obtain rfl : i = (ii : Int) := hF.ix
          have hjn : j < n' := by have := hF.lt; have := rl_len hL.out.rl; omega
          have hcl : (putM m ⟨kv0, (j : Int) + 1, rv0, iv0⟩ (ii : Int) ⟨kx0, nx0, rx0, ix0⟩).cells = m.cells := by rw [hF.eq]
          have hln : (putM m ⟨kv0, (j : Int) + 1, rv0, iv0⟩ (ii : Int) ⟨kx0, nx0, rx0, ix0⟩).L = m.L.set j (putO (ob m.L j) ii ⟨kx0, nx0, rx0, ix0⟩) := by rw [hF.eq]
          have hlt2 := hF.lt2
          replace hF := Lib.hid hF
          clear hT
          go_wp2_with (first | ((with_reducible refine HC.out.mono ?_); rintro e w3 ⟨rfl, rfl⟩) | ((with_reducible refine HP.out.mono ?_); rintro e w3 ⟨rfl, own3, hp3, f3, s3⟩; have hC3 := (Lib.hid (hC.out.step s3 f3 (by omega))); have hzz := (hz0.out); have V3 := (V0.out.of_block (hC3.out.bel.block _ (by omega))); have X3 := (X0.out.of_block (hC3.out.bel.block _ (by omega))); have B3 := (hL.out.box.of_block (s3.block _ hL.out.box.lt (by rw [hL.out.lab]; simp))); have v0' : w3.cell? ⟨W.heap.size, 0, none⟩ = some (.int .u8 kv0) := (V3.cell (i := 0) (by omega)); have v1' : w3.cell? ⟨W.heap.size, 1, none⟩ = some (.int .i64 ((j : Int) + 1)) := (V3.cell (i := 1) (by omega)); have v2' : w3.cell? ⟨W.heap.size, 2, none⟩ = some (.int .i64 rv0) := (V3.cell (i := 2) (by omega)); have v3' : w3.cell? ⟨W.heap.size, 3, none⟩ = some (.int .i64 iv0) := (V3.cell (i := 3) (by omega)); have y0' : w3.cell? ⟨W.heap.size + 1, 0, none⟩ = some (.int .u8 kx0) := (X3.cell (i := 0) (by omega)); have y1' : w3.cell? ⟨W.heap.size + 1, 1, none⟩ = some (.int .i64 nx0) := (X3.cell (i := 1) (by omega)); have y2' : w3.cell? ⟨W.heap.size + 1, 2, none⟩ = some (.int .i64 rx0) := (X3.cell (i := 2) (by omega)); have y3' : w3.cell? ⟨W.heap.size + 1, 3, none⟩ = some (.int .i64 ix0) := (X3.cell (i := 3) (by omega)); have x2' : w3.cell? ⟨w1.heap.size, 2, none⟩ = some (.slice a' n' c') := (B3.cell (i := 2) (by omega)); clear hzz))
          have R3 := hL.out.rl.kp (s3.kp rfl (by omega))
          have hrn := rl_len hL.out.rl
          have hvl := Lib.hid fun q hq => (vals_le hL.out.hp.ok hL.out.hp.rm q hq).1
          have hlen := len_le hL.out.hp
          rw [hrn] at hlen hvl
          have HG := Lib.hid (get_vl hp3 ⟨kv0, (j : Int) + 1, rv0, iv0⟩ (ii : Int) hF.out.means hF.out.tx hF.out.vs)
          rw [hF.out.get] at HG
          have HC3 := Lib.hid fun w' hb => cells_any (hp3.below (w' := w') hb)
          have AA := Lib.hid fun w' hb => all_any (hp3.below (w' := w') hb)
          unfold AllP at AA
          rw [hcl] at HC3
          rw [hln, List.length_set, hrn] at AA
          replace hbel := Lib.hid (below_step hBW.out hC3.out.bel)
          replace hle : W.heap.size ≤ w3.heap.size := by have := hC3.out.le; have := hz0.out; omega
          have q1 : ∀ w : World, (binOp .neq 35 (.agg #[.int .u8 kx0, .int .i64 nx0, .int .i64 rx0, .int .i64 ix0]) (.agg #[.int .u8 kx0, .int .i64 nx0, .int .i64 rx0, .int .i64 ix0])).run Try.prog w = .ok (.bool false) w := neq_vl ⟨kx0, nx0, rx0, ix0⟩
          have q2 : ∀ x y (w : World), (eqGuard .neq 35 x y (.agg #[.int .u8 kx0, .int .i64 nx0, .int .i64 rx0, .int .i64 ix0]) (.agg #[.int .u8 kx0, .int .i64 nx0, .int .i64 rx0, .int .i64 ix0])).run Try.prog w = .ok () w := fun x y w => guard_vl .neq x y ⟨kx0, nx0, rx0, ix0⟩ ⟨kx0, nx0, rx0, ix0⟩ w
          replace R3 := Lib.hid R3
          replace hrn := Lib.hid hrn
          clear hL hC HC HP v0 v1 v2 v3 y0 y1 y2 y3 hp3 f3 s3 hC3 V3 X3 B3 hcl hln
          go_wp2_with (first | ((with_reducible refine HG.out.mono ?_); rintro e w4 ⟨rfl, hb4⟩; replace v1' := cell_carry hb4 v1'; replace y0' := cell_carry hb4 y0'; replace y1' := cell_carry hb4 y1'; replace y2' := cell_carry hb4 y2'; replace y3' := cell_carry hb4 y3'; replace x2' := cell_carry hb4 x2'; have lx := block_lt_of_cell y0'; have lv := block_lt_of_cell v1'; have lb := block_lt_of_cell x2'; simp only at lx lv lb; clear v0' v2' v3') | ((with_reducible refine (HC3.out _ (hb4.alloc hb4.size _)).mono ?_); rintro e w6 ⟨rfl, rfl⟩))
          obtain ⟨W5, hW5⟩ : ∃ W5, W5 = w4.alloc (.cells #[.int .u8 kx0, .int .i64 nx0, .int .i64 rx0, .int .i64 ix0] 35) := ⟨_, rfl⟩
          rw [← hW5]
          have hB5 : Below w3.heap.size w3 W5 := by rw [hW5]; exact hb4.alloc hb4.size _
          have hB45 : Below w4.heap.size w4 W5 := by rw [hW5]; go_grown
          replace v1' := cell_carry hB45 v1'
          replace x2' := cell_carry hB45 x2'
          have lb5 := Nat.lt_of_lt_of_le lb hB45.size
          clear hW5 y0' y1' y2' y3' lx lv lb HG HC3 q1 q2 hB45 hb4
          refine (AA.out W5 hB5).mono ?_
          rintro e w6 ⟨xs, vb, rfl, hO, hb6⟩
          replace v1' := cell_carry hb6 v1'
          replace x2' := cell_carry hb6 x2'
          have R6 := R3.out.kp (kp_below (below_step hB5 hb6))
          have R6h := Lib.hid R6
          obtain ⟨cs, hcs1, hcs2, hcs3, hro, hlk⟩ := R6
          have hjm := hlk j hjn
          obtain ⟨b2, o2, rfl, hfr2, hao⟩ := hro j (by omega)
          obtain ⟨b4, o4, ha3, hfr4, hav⟩ := hjm.row ii hlt2
          have hjl := hjm.len
          have hvj := hO.vals j hjn
          rw [ob_set _ _ _ _ (by have := hrn.out; omega), if_pos rfl] at hvj
          have hvn : (ob m.L j).vals.length = (xs j).n := by have := hvj.1; simpa [putO] using this
          have haq : (xs j).a = some ⟨vb j, 0, none⟩ ∧ w6.rowIs (vb j) 35 ((xs j).n * 4) (flF (vl (putO (ob m.L j) ii ⟨kx0, nx0, rx0, ix0⟩).vals)) := by
            rcases hvj.2.2 with z | z
            · omega
            · exact z
          obtain ⟨⟨ku, nu, ru, iu⟩, hu⟩ : ∃ u, vl (ob m.L j).vals ii = u := ⟨_, rfl⟩
          rw [hu] at hav
          obtain ⟨u0, u1, u2, u3⟩ := hav
          have k3 := hao.c3
          rw [ha3, ← hjl] at k3
          generalize (oc cs j).c = cc at k3
          have g3 := (flO_at hO.row hjn).c3
          obtain ⟨t0, t1, t2, t3⟩ := flF_at haq.2 (i := ii) (by omega)
          have tf : ∀ o, w6.frozen? ⟨vb j, o, none⟩ = false := fun o => haq.2.frozen o
          rw [haq.1, ← hvn] at g3
          generalize (xs j).c = cx at g3
          try simp only at u0 u1 u2 u3 k3 t0 t1 t2 t3
          have hlo := hO.lo j hjn (by omega)
          have lz1 := block_lt_of_cell x2'
          have lz2 := block_lt_of_cell v1'
          have hRs := Lib.hid (objs_reset hO (Nat.le_refl _) hrn.out hjn hlt2 ⟨ku, nu, ru, iu⟩ hu)
          obtain ⟨vn, hvnn⟩ : ∃ vn, (ob m.L j).vals.length = vn := ⟨_, rfl⟩
          rw [hvnn] at g3 k3 hlt2
          have f1 : ¬ ((j : Int) + 1 < 1) := by omega
          have f2 : ¬ ((n' : Int) < (j : Int) + 1) := by omega
          have f3 : ¬ ((ii : Int) < 0) := by omega
          have f4 : ¬ ((vn : Int) ≤ (ii : Int)) := by omega
          replace hO := Lib.hid hO
          replace hb6 := Lib.hid hb6
          replace hB5 := Lib.hid hB5
          replace hlo := Lib.hid hlo
          have hvl5 := hvl.out j hjn
          rw [hvnn] at hvl5
          clear AA hjm hlk hro hvj hvn haq hjl hao ha3 hvnn hcs1 hcs2 hcs3 hF
          go_wp2_with fail
          go_region
          obtain ⟨W7, hW7⟩ : ∃ W7, W7 = ((((w6.setCell ⟨vb j, ii * 4, none⟩ (.int .u8 ku)).setCell ⟨vb j, ii * 4 + 1, none⟩ (.int .i64 nu)).setCell ⟨vb j, ii * 4 + 2, none⟩ (.int .i64 ru)).setCell ⟨vb j, ii * 4 + 3, none⟩ (.int .i64 iu)) := ⟨_, rfl⟩
          rw [← hW7] at hRs ⊢
          have hlo1 := hlo.out.1
          have hb7 : Below W5.heap.size W5 W7 := by rw [hW7]; exact (((hb6.out.setCell hlo1 _).setCell hlo1 _).setCell hlo1 _).setCell hlo1 _
          have x7 : W7.cell? ⟨w1.heap.size, 2, none⟩ = some (.slice (some ⟨b2, o2, none⟩) n' c') := by
            have hne : w1.heap.size ≠ vb j := by omega
            rw [hW7]
            exact cell_block ((set_other (q := ⟨vb j, ii * 4 + 3, none⟩) hne).trans ((set_other (q := ⟨vb j, ii * 4 + 2, none⟩) hne).trans ((set_other (q := ⟨vb j, ii * 4 + 1, none⟩) hne).trans (set_other (q := ⟨vb j, ii * 4, none⟩) hne)))) x2'
          have R7 := R3.out.kp (kp_below (below_step hB5.out hb7))
          have HSm := Lib.hid fun w' (hb : Below W7.heap.size W7 w') => same_lists _ _ n' n' c' m.L w' (by omega) (fun q hq => by have := hvl.out q hq; omega) _ _ (hRs.out.kp (kp_below hb)) (R7.kp (kp_below hb))
          have hend := Lib.hid (hbel.out.trans ((below_step hB5.out hb7).mono hle))
          have hle7 : W.heap.size ≤ W7.heap.size := by have := hb7.size; have := hB5.out.size; omega
          clear hW7 hRs hlo hlo1 hb7 x2' v1' R7 R3 R6h u0 u1 u2 u3 k3 g3 t0 t1 t2 t3 tf f1 f2 f3 f4 lz1 lz2 lb5 hO hb6 hB5 hbel hle
          go_wp2_with (first | ((with_reducible refine (HSm.out _ (by go_grown)).mono ?_); rintro e w8 ⟨rfl, hb8⟩; have hb8' := (below_step (by go_grown) hb8 : Below W7.heap.size W7 w8); clear hb8) | ((with_reducible refine (HA.out _).mono ?_); rintro e w9 ⟨rfl, hb9⟩))
          go_ret
          exact ⟨rfl, hend.out.trans ((below_step hb8' hb9).mono hle7)⟩
        · have hid := putM_id (x := ⟨kx0, nx0, rx0, ix0⟩) hT
          rw [hid] at HP
          clear hid
          generalize putT m.L ⟨kv0, nv0, rv0, iv0⟩ i = T at HP hT
          have e9 : ((T : Int) != 0) = true := by rw [bne_iff_ne]; omega
          clear hT
          go_wp2_with (first | ((with_reducible refine HC.out.mono ?_); rintro e w3 ⟨rfl, rfl⟩) | ((with_reducible refine HP.out.mono ?_); rintro e w3 ⟨rfl, own3, hp3, f3, s3⟩))
          have hT3 := Lib.hid (hL.out.made s3 hp3)
          have hC3 := Lib.hid (hC.out.step s3 f3 (by omega))
          have x2 : w3.cell? ⟨w1.heap.size, 2, none⟩ = some (.slice a' n' c') := hT3.out.box.cell (i := 2) (by omega)
          have KL := Lib.hid fun (w' : World) (hb : Below w3.heap.size w3 w') (hs : w'.heap.size = w3.heap.size) => all_lp hT3.out hb hs
          replace hbel := Lib.hid (below_step hBW.out hC3.out.bel)
          replace hle : W.heap.size ≤ w3.heap.size := by have := hC3.out.le; have := hz0.out; omega
          clear hL hC HC HP v0 v1 v2 v3 y0 y1 y2 y3 hp3 f3 s3 hT3 hC3
          go_region_with (first | ((with_reducible refine (KL.out (World.drew w3) (by go_grown) (by simp)).mono ?_); rintro e w2 ⟨rfl, hB2, HS⟩; have y2 := cell_carry hB2 x2; replace hB2 := Lib.hid hB2; replace HS := Lib.hid HS) | ((with_reducible refine (HS.out _ (by go_grown)).mono ?_); rintro e w4 ⟨rfl, hB3⟩; replace hB3 := Lib.hid hB3) | ((with_reducible refine (HA.out _).mono ?_); rintro e w5 ⟨rfl, hB4⟩; replace hB4 := Lib.hid hB4))
          all_goals
            go_wp2_with fail
            go_ret
            exact ⟨rfl, hbel.out.trans (Below.mono (below_step (below_step hB2.out hB3.out) hB4.out) hle)⟩
end
end Go.Proofs.Ytfeeikajekemlaa
