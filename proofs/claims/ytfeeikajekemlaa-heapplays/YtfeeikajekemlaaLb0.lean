/-
  HeapPlays where the room may not be. Conditions: as said. HeapPlays where the room may be. Conditions: as said. The walk of HeapPlays. Conditions: none.
-/
import Derived.Test.YtfeeikajekemlaaLp0
namespace Go.Proofs.Ytfeeikajekemlaa
section
open Go.RowKit
set_option linter.unusedVariables false
set_option linter.unusedSimpArgs false
set_option maxRecDepth 100000

set_option maxHeartbeats 4000000 in
theorem plays_bad (cells : Int) (a : Option Addr) (len cap : Nat) (W : World) (h : cells < 0 ∨ 65536 < cells) :
    Calls Try.prog 3 #[.int .i64 cells, .slice a len cap] W fun e w' => e = .returned (.bool true) ∧ Below W.heap.size W w' := by
  have HN := Lib.hid (new_bad cells W h)
  have HA := Lib.hid fun w' => awake_any w'
  by_cases h1 : cells < 0
  · clear h
    go_enter Try.func3, Try.ntmps3
    go_wp2_with (first | ((with_reducible refine HN.out.mono ?_); rintro e w1 ⟨rfl, rfl⟩) | ((with_reducible refine (HA.out _).mono ?_); rintro e w2 ⟨rfl, hb⟩))
    go_ret
    exact ⟨rfl, below_step (by go_grown) hb⟩
  · have h2 : 65536 < cells := by omega
    clear h
    go_enter Try.func3, Try.ntmps3
    go_wp2_with (first | ((with_reducible refine HN.out.mono ?_); rintro e w1 ⟨rfl, rfl⟩) | ((with_reducible refine (HA.out _).mono ?_); rintro e w2 ⟨rfl, hb⟩))
    go_ret
    exact ⟨rfl, below_step (by go_grown) hb⟩
end
end Go.Proofs.Ytfeeikajekemlaa

namespace Go.Proofs.Ytfeeikajekemlaa
section
open Go.RowKit
set_option linter.unusedVariables false
set_option linter.unusedSimpArgs false
set_option maxRecDepth 100000

theorem box_al (w : World) : (World.drew (w.alloc (.cells #[.int .i64 0, .int .i64 0, .slice none 0 0] 31))).rowIs w.heap.size 31 3 (hF 0 0 (.slice none 0 0)) := by
  have h : (w.alloc (.cells #[.int .i64 0, .int .i64 0, .slice none 0 0] 31)).rowIs w.heap.size 31 3 (hF 0 0 (.slice none 0 0)) := (h_box w 0 0 (.slice none 0 0)).congr fun j hj => by
    have : j = 0 ∨ j = 1 ∨ j = 2 := by omega
    rcases this with rfl | rfl | rfl <;> simp [hF]
  exact h.of_block rfl

set_option maxHeartbeats 16000000 in
theorem plays_ok (room : Nat) (a : Option Addr) (len cap : Nat) (l : List Op) (hl : l.length = len) (W : World) (h : RP W a l op0) (hroom : room ≤ 65536) :
    Calls Try.prog 3 #[.int .i64 (room : Int), .slice a len cap] W fun e w' => e = .returned (.bool true) ∧ Below W.heap.size W w' := by
  have HN := Lib.hid (new_ok room W hroom own00 1 (by omega) (fz00 W))
  have HA := Lib.hid fun w' => awake_any w'
  replace h := Lib.hid h
  go_enter Try.func3, Try.ntmps3
  go_wp2_with ((with_reducible refine HN.out.mono ?_); rintro e w1 ⟨rfl, own1, h1, f1, s1, hb1⟩; have HG := Lib.hid (great_any a len cap l hl w1 (rp_carry h.out hb1)); replace h1 := Lib.hid h1; replace f1 := Lib.hid f1; replace s1 := Lib.hid s1; replace hb1 := Lib.hid hb1)
  refine HG.out.mono ?_
  rintro e w2 ⟨g, rfl, hg, rfl⟩
  cases g
  case true =>
    go_wp2_with ((with_reducible refine (HA.out _).mono ?_); rintro e w3 ⟨rfl, hb⟩)
    go_ret
    exact ⟨rfl, below_step hb1.out hb⟩
  case false =>
    have hcalm := Lib.hid (hg rfl)
    clear hg HG
    go_wp2_with fail
    obtain ⟨hL0, hC0⟩ := lp_start (p := W.heap.size) h1.out f1.out s1.out
    have hlen60 : len ≤ 60 := by rw [← hl]; exact hcalm.out.1
    obtain ⟨W2, hW2⟩ : ∃ W2, W2 = w1.alloc (.cells #[.int .i64 room, .int .i64 0, .slice none 0 0] 31) := ⟨_, rfl⟩
    rw [← hW2] at hL0 hC0 ⊢
    clear hW2
    replace hL0 := Lib.hid hL0
    replace hC0 := Lib.hid hC0
    replace hl := Lib.hid hl
    clear h1 f1 s1 hb1 HN
    go_loopw [8] (fun j wr => ∃ q own m a' n' c', q ≤ len ∧ j = .int .i64 q ∧ Hid (Lp wr own 1 W.heap.size room w1.heap.size m a' n' c') ∧ Hid (Cx W.heap.size W wr own)) (fun j _ => len - (intOf j).toNat)
    case atStart => exact ⟨0, _, _, _, _, _, Nat.zero_le _, rfl, hL0, hC0⟩
    case round =>
      obtain ⟨q, own, m, a', n', c', hq, rfl, hL, hC⟩ := hrel
      clear hL0 hC0
      have x0 := hL.out.c0
      have x1 := hL.out.c1
      have x2 := hL.out.c2
      by_cases hlt : q < len
      · obtain ⟨b, o, ad, n, c, rfl, hat, hn, hz, hr⟩ := h.out q (by rw [hl.out]; exact hlt)
        have hc2 := calm_at hcalm.out (i := q) (by rw [hl.out]; exact hlt)
        replace hat := hat.carry hC.out.bel
        replace hr := hC.out.rv rfl hr
        obtain ⟨op, hop⟩ : ∃ y, l.getD q op0 = y := ⟨_, rfl⟩
        rw [hop] at hat hn hr hc2
        clear hop
        obtain ⟨m', hm'⟩ : ∃ m', stepM room m op = m' := ⟨_, rfl⟩
        have K1 : Hid (∀ w' : World, Below wr.heap.size wr w' → wr.heap.size < w'.heap.size → w'.rowIs wr.heap.size 31 3 (hF 0 0 (.slice none 0 0)) → _) := Lib.hid fun w' hb hq' hq0 => does_a hL.out hC.out op ad n c hn hz hr hc2.1 (by omega) (w' := w') hb hq' hq0
        have K2 : Hid (∀ w' : World, Below wr.heap.size wr w' → _) := Lib.hid fun w' hb => does_b hL.out hC.out op ad n c hn hz hr hc2.1 (by omega) (w' := w') hb
        rw [hm'] at K1 K2
        clear hm'
        obtain ⟨kd, f, i, s, ⟨kv, nv, rv, iv⟩, ⟨kx, nx, rx, ix⟩, vs⟩ := op
        have c0 : wr.cell? ⟨b, o + q * 13, none⟩ = some (.int .i64 kd) := hat.all 0 (by omega)
        have c1 : wr.cell? ⟨b, o + q * 13 + 1, none⟩ = some (.int .i64 f) := hat.all 1 (by omega)
        have c2 : wr.cell? ⟨b, o + q * 13 + 2, none⟩ = some (.int .i64 i) := hat.all 2 (by omega)
        have c3 : wr.cell? ⟨b, o + q * 13 + 3, none⟩ = some (.string s) := hat.all 3 (by omega)
        have c4 : wr.cell? ⟨b, o + q * 13 + 4, none⟩ = some (.int .u8 kv) := hat.all 4 (by omega)
        have c5 : wr.cell? ⟨b, o + q * 13 + 5, none⟩ = some (.int .i64 nv) := hat.all 5 (by omega)
        have c6 : wr.cell? ⟨b, o + q * 13 + 6, none⟩ = some (.int .i64 rv) := hat.all 6 (by omega)
        have c7 : wr.cell? ⟨b, o + q * 13 + 7, none⟩ = some (.int .i64 iv) := hat.all 7 (by omega)
        have c8 : wr.cell? ⟨b, o + q * 13 + 8, none⟩ = some (.int .u8 kx) := hat.all 8 (by omega)
        have c9 : wr.cell? ⟨b, o + q * 13 + 9, none⟩ = some (.int .i64 nx) := hat.all 9 (by omega)
        have c10 : wr.cell? ⟨b, o + q * 13 + 10, none⟩ = some (.int .i64 rx) := hat.all 10 (by omega)
        have c11 : wr.cell? ⟨b, o + q * 13 + 11, none⟩ = some (.int .i64 ix) := hat.all 11 (by omega)
        have c12 : wr.cell? ⟨b, o + q * 13 + 12, none⟩ = some (.slice ad n c) := hat.all 12 (by omega)
        unfold DoesA at K1
        unfold DoesB at K2
        simp only [opV] at K1 K2
        have lt1 := hL.out.box.lt
        have lt2 := block_lt_of_cell c0
        clear hat hn hz hr hc2
        go_wp2_with fail
        go_region_with (first | ((with_reducible refine (K1.out (World.drew (World.alloc wr (.cells #[.int .i64 0, .int .i64 0, .slice none 0 0] 31))) (by go_grown) (lt_al _ _) (box_al _)).mono ?_); rintro e w2 ⟨own2, a2, n2, d2, rfl, hC2, hs, hT, hq2, hQ⟩; have y0 : w2.cell? ⟨wr.heap.size, 0, none⟩ = some (.int .i64 0) := hQ.cell (i := 0) (by omega); have y1 : w2.cell? ⟨wr.heap.size, 1, none⟩ = some (.int .i64 0) := hQ.cell (i := 1) (by omega); have y2 : w2.cell? ⟨wr.heap.size, 2, none⟩ = some (.slice none 0 0) := hQ.cell (i := 2) (by omega); have yf : ∀ o, w2.frozen? ⟨wr.heap.size, o, none⟩ = false := (fun o => hQ.frozen o); have yl : wr.heap.size < w2.heap.size := hQ.lt; replace hC2 := Lib.hid hC2; replace hs := Lib.hid hs; replace hT := Lib.hid hT; replace hq2 := Lib.hid hq2; replace hQ := Lib.hid hQ) | ((with_reducible refine (K2.out (World.drew wr) (by go_grown)).mono ?_); rintro e w2 ⟨own2, a2, n2, d2, rfl, hC2, hs, hT⟩; replace hC2 := Lib.hid hC2; replace hs := Lib.hid hs; replace hT := Lib.hid hT))
        all_goals first
          | (obtain ⟨hM, hC3, hR3⟩ := md_a hT.out hC2.out hq2.out hQ.out (Nat.ne_of_gt lt1)
             revert hM hC3 hR3
             generalize hW3 : ((w2.setCell ⟨wr.heap.size, 0, none⟩ (.int .i64 room)).setCell ⟨wr.heap.size, 1, none⟩ (.int .i64 (m'.cells : Nat))).setCell ⟨wr.heap.size, 2, none⟩ (.slice a2 n2 d2) = W3
             intro hM hC3 hR3
             clear hW3
             clear hC2 hT hq2 hQ y0 y1 y2 yf yl)
          | (obtain ⟨hM, hC3, hR3⟩ := md_b hT.out hC2.out
             revert hM hC3 hR3
             generalize hW3 : w2.alloc (.cells #[.int .i64 room, .int .i64 (m'.cells : Nat), .slice a2 n2 d2] 31) = W3
             intro hM hC3 hR3
             clear hW3
             clear hC2 hT)
        all_goals
          have z0 := hR3.cell (i := 0) (by omega)
          have z1 := hR3.cell (i := 1) (by omega)
          have z2 := hR3.cell (i := 2) (by omega)
          have zt0 := hM.box.cell (i := 0) (by omega)
          have zt1 := hM.box.cell (i := 1) (by omega)
          have zt2 := hM.box.cell (i := 2) (by omega)
          have zf : ∀ o, W3.frozen? ⟨w1.heap.size, o, none⟩ = false := fun o => hM.box.frozen o
          simp [hF] at z0 z1 z2 zt0 zt1 zt2
          have hS3 := Lib.hid hM.store
          have hC4 := Lib.hid (hC3.store hM.lab (.int .i64 room) (.int .i64 (m'.cells : Nat)) (.slice a2 n2 d2))
          clear hM hC3 hR3 hs hL hC K1 K2 x0 x1 x2 c0 c1 c2 c3 c4 c5 c6 c7 c8 c9 c10 c11 c12 lt1 lt2
          go_wp2_with fail
          obtain ⟨W4, hW4⟩ : ∃ W4, W4 = ((W3.setCell ⟨w1.heap.size, 0, none⟩ (.int .i64 room)).setCell ⟨w1.heap.size, 1, none⟩ (.int .i64 (m'.cells : Nat))).setCell ⟨w1.heap.size, 2, none⟩ (.slice a2 n2 d2) := ⟨_, rfl⟩
          rw [← hW4]
          rw [← hW4] at hS3 hC4
          clear hW4 z0 z1 z2 zt0 zt1 zt2 zf
          have HC := Lib.hid fun w' hb => cells_any (hS3.out.hp.below (w' := w') hb)
          have k1 := hS3.out.c1
          go_region_with ((with_reducible refine (HC.out _ (by go_grown)).mono ?_); rintro e w5 ⟨rfl, rfl⟩)
        all_goals
          go_wp2_with fail
          go_roundw
          case rel => exact ⟨q + 1, own2, m', a2, n2, d2, hlt, by go_num, Lib.hid (hS3.out.below (by go_grown)), Lib.hid (hC4.out.grown (by go_grown))⟩
          case measure => simp [intOf]; omega
      · obtain rfl : q = len := by omega
        have KL := Lib.hid fun (w' : World) (hb : Below wr.heap.size wr w') (hs : w'.heap.size = wr.heap.size) => all_lp hL.out hb hs
        have hbel := Lib.hid hC.out.bel
        have hle := hC.out.le
        clear h x0 x1 hL hC
        go_wp2_with fail
        go_region_with (first | ((with_reducible refine (KL.out (World.drew wr) (by go_grown) (by simp)).mono ?_); rintro e w2 ⟨rfl, hB2, HS⟩; have y2 := cell_carry hB2 x2; replace hB2 := Lib.hid hB2; replace HS := Lib.hid HS) | ((with_reducible refine (HS.out _ (by go_grown)).mono ?_); rintro e w3 ⟨rfl, hB3⟩; replace hB3 := Lib.hid hB3) | ((with_reducible refine (HA.out _).mono ?_); rintro e w4 ⟨rfl, hB4⟩; replace hB4 := Lib.hid hB4))
        all_goals
          go_wp2_with fail
          go_ret
          exact ⟨rfl, hbel.out.trans (Below.mono (below_step (below_step hB2.out hB3.out) hB4.out) hle)⟩
end
end Go.Proofs.Ytfeeikajekemlaa

namespace Go.Proofs.Ytfeeikajekemlaa
section
open Go.RowKit

theorem heapPlays_walk (W : World) (cells : Int) (a : Option Addr) (len cap : Nat) (l : List Op) (z : l.length = len ∧ RP W a l op0) :
    Calls Try.prog 3 #[.int .i64 cells, .slice a len cap] W fun e w' => e = .returned (.bool true) ∧ Below W.heap.size W w' := by
  by_cases h : cells < 0 ∨ 65536 < cells
  · exact plays_bad cells a len cap W h
  · obtain ⟨room, rfl⟩ : ∃ room : Nat, cells = room := ⟨cells.toNat, by omega⟩
    exact plays_ok room a len cap l z.1 W z.2 (by omega)
end
end Go.Proofs.Ytfeeikajekemlaa
