/-
  HeapRoom. Conditions: none. The walk of HeapRoom. Conditions: none.
-/
import Derived.Test.YtfeeikajekemlaaLp0
namespace Go.Proofs.Ytfeeikajekemlaa
section
open Go.RowKit
set_option linter.unusedVariables false
set_option linter.unusedSimpArgs false
set_option maxRecDepth 100000

set_option maxHeartbeats 4000000 in
theorem room_bad (cells : Int) (a : Option Addr) (len cap : Nat) (W : World) (h : cells < 0 ∨ 65536 < cells) :
    Calls Try.prog 6 #[.int .i64 cells, .slice a len cap] W fun e w' => e = .returned (.bool true) ∧ Below W.heap.size W w' := by
  have HN := Lib.hid (new_bad cells W h)
  have HA := Lib.hid fun w' => awake_any w'
  clear h
  go_enter Try.func6, Try.ntmps6
  go_wp2_with (first | ((with_reducible refine HN.out.mono ?_); rintro e w1 ⟨rfl, rfl⟩) | ((with_reducible refine (HA.out _).mono ?_); rintro e w2 ⟨rfl, hb⟩))
  go_ret
  exact ⟨rfl, below_step (by go_grown) hb⟩

set_option maxHeartbeats 16000000 in
theorem room_ok (room : Nat) (a : Option Addr) (len cap : Nat) (l : List Op) (hl : l.length = len) (W : World) (h : RP W a l op0) (hroom : room ≤ 65536) :
    Calls Try.prog 6 #[.int .i64 (room : Int), .slice a len cap] W fun e w' => e = .returned (.bool true) ∧ Below W.heap.size W w' := by
  have HN := Lib.hid (new_ok room W hroom own00 1 (by omega) (fz00 W))
  have HA := Lib.hid fun w' => awake_any w'
  replace h := Lib.hid h
  go_enter Try.func6, Try.ntmps6
  go_wp2_with ((with_reducible refine HN.out.mono ?_); rintro e w1 ⟨rfl, own1, h1, f1, s1, hb1⟩; have HG := Lib.hid (great_any a len cap l hl w1 (rp_carry h.out hb1)); replace h1 := Lib.hid h1; replace f1 := Lib.hid f1; replace s1 := Lib.hid s1; replace hb1 := Lib.hid hb1)
  refine HG.out.mono ?_
  rintro e w2 ⟨g, rfl, hg, rfl⟩
  cases g
  case true =>
    go_wp2_with ((with_reducible refine (HA.out _).mono ?_); rintro e w3 ⟨rfl, hb⟩)
    go_ret
    exact ⟨rfl, below_step hb1.out hb⟩
  case false =>
    have hcalm := Lib.hid (hg rfl)
    clear hg HG
    go_wp2_with fail
    obtain ⟨hL0, hC0⟩ := lp_start (p := W.heap.size) h1.out f1.out s1.out
    have hlen60 : len ≤ 60 := by rw [← hl]; exact hcalm.out.1
    obtain ⟨W2, hW2⟩ : ∃ W2, W2 = w1.alloc (.cells #[.int .i64 room, .int .i64 0, .slice none 0 0] 31) := ⟨_, rfl⟩
    rw [← hW2] at hL0 hC0 ⊢
    clear hW2
    replace hL0 := Lib.hid hL0
    replace hC0 := Lib.hid hC0
    replace hl := Lib.hid hl
    clear h1 f1 s1 hb1 HN
    go_loopw [8] (fun j wr => ∃ q own m a' n' c', q ≤ len ∧ j = .int .i64 q ∧ Hid (Lp wr own 1 W.heap.size room w1.heap.size m a' n' c') ∧ Hid (Cx W.heap.size W wr own)) (fun j _ => len - (intOf j).toNat)
    case atStart => exact ⟨0, _, _, _, _, _, Nat.zero_le _, rfl, hL0, hC0⟩
    case round =>
      obtain ⟨q, own, m, a', n', c', hq, rfl, hL, hC⟩ := hrel
      clear hL0 hC0
      by_cases hlt : q < len
      · have AL := Lib.hid (all_lp hL.out (Below.refl _ _) rfl)
        have CE := Lib.hid fun w' hb => cells_any (hL.out.hp.below (w' := w') hb)
        go_wp2_with (first | ((with_reducible refine AL.out.mono ?_); rintro e w2 ⟨rfl, hB2, _⟩) | ((with_reducible refine (CE.out _ hB2).mono ?_); rintro e w3 ⟨rfl, rfl⟩))
        replace hL := Lib.hid (hL.out.below hB2)
        replace hC := Lib.hid (hC.out.grown hB2)
        clear AL CE hB2
        have x0 := Lp.c0 hL.out
        have x1 := Lp.c1 hL.out
        have x2 := Lp.c2 hL.out
        obtain ⟨b, o, ad, n, c, rfl, hat, hn, hz, hr⟩ := h.out q (by rw [hl.out]; exact hlt)
        have hc2 := calm_at hcalm.out (i := q) (by rw [hl.out]; exact hlt)
        replace hat := hat.carry hC.out.bel
        replace hr := hC.out.rv rfl hr
        obtain ⟨op, hop⟩ : ∃ y, l.getD q op0 = y := ⟨_, rfl⟩
        rw [hop] at hat hn hr hc2
        clear hop
        obtain ⟨m', hm'⟩ : ∃ m', stepM room m op = m' := ⟨_, rfl⟩
        have K2 := Lib.hid fun (w' : World) (hb : Below w2.heap.size w2 w') => does_b hL.out hC.out op ad n c hn hz hr hc2.1 (by omega) hb
        have hcl : m'.L.length = m.L.length → m'.cells = m.cells := fun z => by rw [← hm'] at z ⊢; exact step_cells z
        rw [hm'] at K2
        clear hm'
        obtain ⟨kd, f, i, s, ⟨kv, nv, rv, iv⟩, ⟨kx, nx, rx, ix⟩, vs⟩ := op
        have c0 : w2.cell? ⟨b, o + q * 13, none⟩ = some (.int .i64 kd) := hat.all 0 (by omega)
        have c1 : w2.cell? ⟨b, o + q * 13 + 1, none⟩ = some (.int .i64 f) := hat.all 1 (by omega)
        have c2 : w2.cell? ⟨b, o + q * 13 + 2, none⟩ = some (.int .i64 i) := hat.all 2 (by omega)
        have c3 : w2.cell? ⟨b, o + q * 13 + 3, none⟩ = some (.string s) := hat.all 3 (by omega)
        have c4 : w2.cell? ⟨b, o + q * 13 + 4, none⟩ = some (.int .u8 kv) := hat.all 4 (by omega)
        have c5 : w2.cell? ⟨b, o + q * 13 + 5, none⟩ = some (.int .i64 nv) := hat.all 5 (by omega)
        have c6 : w2.cell? ⟨b, o + q * 13 + 6, none⟩ = some (.int .i64 rv) := hat.all 6 (by omega)
        have c7 : w2.cell? ⟨b, o + q * 13 + 7, none⟩ = some (.int .i64 iv) := hat.all 7 (by omega)
        have c8 : w2.cell? ⟨b, o + q * 13 + 8, none⟩ = some (.int .u8 kx) := hat.all 8 (by omega)
        have c9 : w2.cell? ⟨b, o + q * 13 + 9, none⟩ = some (.int .i64 nx) := hat.all 9 (by omega)
        have c10 : w2.cell? ⟨b, o + q * 13 + 10, none⟩ = some (.int .i64 rx) := hat.all 10 (by omega)
        have c11 : w2.cell? ⟨b, o + q * 13 + 11, none⟩ = some (.int .i64 ix) := hat.all 11 (by omega)
        have c12 : w2.cell? ⟨b, o + q * 13 + 12, none⟩ = some (.slice ad n c) := hat.all 12 (by omega)
        unfold DoesB at K2
        simp only [opV] at K2
        have lt1 := hL.out.box.lt
        have lt2 := block_lt_of_cell c0
        have hn' := rl_len hL.out.rl
        clear hat hn hz hr hc2
        go_wp2_with fail
        go_region_with ((with_reducible refine (K2.out (World.drew w2) (by go_grown)).mono ?_); rintro e w3 ⟨own2, a2, n2, d2, rfl, hC2, hs, hT⟩; have z0 := hT.box.cell (i := 0) (by omega); have z1 := hT.box.cell (i := 1) (by omega); have z2 := hT.box.cell (i := 2) (by omega); have zf : ∀ o, w3.frozen? ⟨w1.heap.size, o, none⟩ = false := (fun o => hT.box.frozen o); replace hC2 := Lib.hid hC2; replace hs := Lib.hid hs; replace hT := Lib.hid hT)
        all_goals
          have n2' := rl_len hT.out.rl
          have hfit := hT.out.hp.ok.fits
          have hS3 := Lib.hid hT.out.store
          have hC4 := Lib.hid (hC2.out.store hT.out.lab (.int .i64 room) (.int .i64 (m'.cells : Nat)) (.slice a2 n2 d2))
          clear hT hC2 hs hL hC K2 x0 x1 x2 c0 c1 c2 c3 c4 c5 c6 c7 c8 c9 c10 c11 c12 lt1 lt2 z0 z1 z2 zf
          obtain ⟨W4, hW4⟩ : ∃ W4, W4 = ((w3.setCell ⟨w1.heap.size, 0, none⟩ (.int .i64 room)).setCell ⟨w1.heap.size, 1, none⟩ (.int .i64 (m'.cells : Nat))).setCell ⟨w1.heap.size, 2, none⟩ (.slice a2 n2 d2) := ⟨_, rfl⟩
          rw [← hW4]
          rw [← hW4] at hS3 hC4
          clear hW4
          have HC := Lib.hid fun w' hb => cells_any (hS3.out.hp.below (w' := w') hb)
          have AL := Lib.hid (all_lp hS3.out (Below.refl _ _) rfl)
          have gtc : ¬ ((room : Int) < ((m'.cells : Nat) : Int)) := by omega
          by_cases hnn : n2 = n'
          · have e1 : ((n2 : Int) == (n' : Int)) = true := by rw [hnn]; simp
            have hce : m'.cells = m.cells := hcl (by omega)
            have e2 : (((m'.cells : Nat) : Int) != ((m.cells : Nat) : Int)) = false := by rw [hce]; simp
            clear hcl hce hnn
            go_wp2_with (first | ((with_reducible refine AL.out.mono ?_); rintro e w5 ⟨rfl, hB5, _⟩) | ((with_reducible refine (HC.out _ hB5).mono ?_); rintro e w6 ⟨rfl, rfl⟩) | ((with_reducible refine (HC.out _ (Below.refl _ _)).mono ?_); rintro e w6 ⟨rfl, rfl⟩))
            go_roundw
            case rel => exact ⟨q + 1, own2, m', a2, n2, d2, hlt, by go_num, Lib.hid (hS3.out.below hB5), Lib.hid (hC4.out.grown hB5)⟩
            case measure => simp [intOf]; omega
          · have e1 : ((n2 : Int) == (n' : Int)) = false := by rw [beq_eq_false_iff_ne]; omega
            clear hcl hnn
            go_wp2_with (first | ((with_reducible refine AL.out.mono ?_); rintro e w5 ⟨rfl, hB5, _⟩) | ((with_reducible refine (HC.out _ hB5).mono ?_); rintro e w6 ⟨rfl, rfl⟩) | ((with_reducible refine (HC.out _ (Below.refl _ _)).mono ?_); rintro e w6 ⟨rfl, rfl⟩))
            go_roundw
            case rel => exact ⟨q + 1, own2, m', a2, n2, d2, hlt, by go_num, Lib.hid (hS3.out.below hB5), Lib.hid (hC4.out.grown hB5)⟩
            case measure => simp [intOf]; omega
      · obtain rfl : q = len := by omega
        have AA := Lib.hid (all_any hL.out.hp)
        have hbel := Lib.hid hC.out.bel
        have hle := hC.out.le
        have hn' := rl_len hL.out.rl
        have hok := hL.out.hp.ok
        have hrm := hL.out.hp.rm
        have hlen := len_le hL.out.hp
        have hvl := Lib.hid fun i hi => vals_le hok hrm i hi
        have hfits := hok.fits
        have hsum := hok.sum
        have HC := Lib.hid fun w' hb => cells_any (hL.out.hp.below (w' := w') hb)
        unfold AllP at AA
        rw [hn'] at AA hlen hvl
        clear hok hL hC h
        go_wp2_with ((with_reducible refine AA.out.mono ?_); rintro e w2 ⟨xs, vb, rfl, hO, hb2⟩)
        replace hO := Lib.hid hO
        replace hb2 := Lib.hid hb2
        replace hn' := Lib.hid hn'
        clear AA
        go_loopw [11, 13] (fun s j wz => ∃ z : Nat, z ≤ n' ∧ j = .int .i64 z ∧ s = .int .i64 (costs (m.L.take z) : Nat) ∧ Hid (Below w2.heap.size w2 wz)) (fun s j _ => n' - (intOf j).toNat)
        case atStart => exact ⟨0, Nat.zero_le _, rfl, rfl, Lib.hid (Below.refl _ _)⟩
        case round =>
          obtain ⟨z, hz, rfl, rfl, hbz⟩ := hrel
          have hS := costs_take_le m.L z
          by_cases hlt2 : z < n'
          · obtain ⟨g0, g1, g2, g3⟩ := (flO_at hO.out.row hlt2).of_block (hbz.out.block _ hO.out.row.lt)
            have hV := hvl.out z hlt2
            have hcc := costC_ob (hO.out.kind z hlt2) (hO.out.text z hlt2) (hO.out.vals z hlt2)
            have hst := costs_take m.L z (by rw [hn'.out]; exact hlt2)
            have hS2 := costs_take_le m.L (z + 1)
            have ht := hO.out.text z hlt2
            have hvn := (hO.out.vals z hlt2).1
            rw [← hcc] at hst
            rw [← ht, hvn] at hV
            generalize xs z = x at g0 g1 g2 g3 hV hst
            clear hcc ht hvn
            have HK := Lib.hid fun w' => cost_any2 x w' (by omega) (by omega)
            obtain ⟨kx, fx, tx, ax, nx, cx⟩ := x
            simp only at g0 g1 g2 g3
            generalize costC ⟨kx, fx, tx, ax, nx, cx⟩ = C at HK hst
            generalize costs (m.L.take z) = S at hst hS ⊢
            have hC1 : C ≤ 65536 := by omega
            have hS1 : S ≤ 65536 := by omega
            go_wp2_with ((with_reducible refine (HK.out _).mono ?_); rintro e w3 ⟨rfl, hb3⟩)
            go_roundw
            case rel => exact ⟨z + 1, hlt2, by go_num, by rw [hst]; go_num, Lib.hid (below_step hbz.out hb3)⟩
            case measure => simp [intOf]; omega
          · obtain rfl : z = n' := by omega
            have e0 : costs (m.L.take z) = m.cells := by
              rw [List.take_of_length_le (by rw [hn'.out]; omega), hsum]
            rw [e0]
            clear e0 hS hsum
            go_wp2_with (first | ((with_reducible refine (HC.out _ (below_step hb2.out hbz.out)).mono ?_); rintro e w3 ⟨rfl, rfl⟩) | ((with_reducible refine (HA.out _).mono ?_); rintro e w4 ⟨rfl, hb4⟩))
            go_ret
            exact ⟨rfl, hbel.out.trans (Below.mono (below_step (below_step hb2.out hbz.out) hb4) hle)⟩
end
end Go.Proofs.Ytfeeikajekemlaa

namespace Go.Proofs.Ytfeeikajekemlaa
section
open Go.RowKit

theorem heapRoom_walk (W : World) (cells : Int) (a : Option Addr) (len cap : Nat) (l : List Op) (z : l.length = len ∧ RP W a l op0) :
    Calls Try.prog 6 #[.int .i64 cells, .slice a len cap] W fun e w' => e = .returned (.bool true) ∧ Below W.heap.size W w' := by
  by_cases h : cells < 0 ∨ 65536 < cells
  · exact room_bad cells a len cap W h
  · obtain ⟨room, rfl⟩ : ∃ room : Nat, cells = room := ⟨cells.toNat, by omega⟩
    exact room_ok room a len cap l z.1 W z.2 (by omega)
end
end Go.Proofs.Ytfeeikajekemlaa
