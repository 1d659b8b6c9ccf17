/-
  Contracts of the document's number with the other sign (hindcastref01.Minus) and of a number's size (hindcastref01.Size). Conditions: each digit is from 0 to 255.
-/
import Derived.Test.YtknnobijdojjhaaPlus
import Derived.Below
namespace Go.Proofs.Ytknnobijdojjhaa
open Go.RowKit

theorem bcell {W w1 : World} (hb : Below W.heap.size W w1) : (∀ b o, b < W.heap.size → w1.cell? ⟨b, o, none⟩ = W.cell? ⟨b, o, none⟩) ∧ (∀ b o, b < W.heap.size → w1.frozen? ⟨b, o, none⟩ = W.frozen? ⟨b, o, none⟩) :=
  ⟨fun b o h => hb.cell (p := ⟨b, o, none⟩) h, fun b o h => hb.frozen (p := ⟨b, o, none⟩) h⟩

theorem below_step {w W w' : World} (h : Below w.heap.size w W) (k : Below W.heap.size W w') : Below w.heap.size w w' := h.trans (k.mono h.size)

theorem digs_flip (x a0 a1 a2 a3 a4 a5 a6 a7 : Int) (h : Digs x a0 a1 a2 a3 a4 a5 a6 a7) : Digs (18446744073709551615 - x) (255 - a0) (255 - a1) (255 - a2) (255 - a3) (255 - a4) (255 - a5) (255 - a6) (255 - a7) := by
  unfold Digs at *; omega
theorem digs_one : Digs 1 1 0 0 0 0 0 0 0 := by unfold Digs; omega

set_option maxHeartbeats 400000 in
theorem minus_any (x a0 a1 a2 a3 a4 a5 a6 a7 : Int) (w : World) (ha : Digs x a0 a1 a2 a3 a4 a5 a6 a7) :
    Calls Try.prog 45 #[dv a0 a1 a2 a3 a4 a5 a6 a7] w (RetD ((18446744073709551616 - x) % 18446744073709551616) w) := by
  have hp := fun w => plus_any _ _ _ _ _ _ _ _ _ _ _ _ _ _ _ _ _ _ w (digs_flip _ _ _ _ _ _ _ _ _ ha) digs_one
  rw [show (18446744073709551615 - x + 1) = 18446744073709551616 - x by omega] at hp
  have HP := Lib.hid hp
  clear hp
  unfold Digs at ha
  obtain ⟨⟨al0, au0⟩, ⟨al1, au1⟩, ⟨al2, au2⟩, ⟨al3, au3⟩, ⟨al4, au4⟩, ⟨al5, au5⟩, ⟨al6, au6⟩, ⟨al7, au7⟩, hax⟩ := ha
  clear hax
  generalize (18446744073709551616 - x) % 18446744073709551616 = z at *
  go_enter Try.func45, Try.ntmps45
  go_wp2
  refine wp_loop_rounds 9 ?_
  iterate 9
    rw [rounds_succ]
    go_wp2_with fail
  refine (HP.out _).mono ?_
  rintro e w1 ⟨d0, d1, d2, d3, d4, d5, d6, d7, hD, rfl, hb⟩
  have HD := Lib.hid hD
  clear hD
  obtain ⟨hc, hf⟩ := bcell hb
  have hz := hb.size
  simp only [World.size_alloc] at hc hf hz
  go_wp2
  refine bodyPost_ret (v := dv d0 d1 d2 d3 d4 d5 d6 d7) (by simp [results, Try.results45, go_sem, hc]) rfl ?_
  refine ⟨_, _, _, _, _, _, _, _, HD.out, rfl, ?_⟩
  have hb' := (by go_grown : Below w.heap.size w _).trans (hb.mono (by simp; omega))
  go_grown

theorem minus_at (x z a0 a1 a2 a3 a4 a5 a6 a7 : Int) (w : World) (ha : Digs x a0 a1 a2 a3 a4 a5 a6 a7) (hz : (18446744073709551616 - x) % 18446744073709551616 = z) :
    Calls Try.prog 45 #[dv a0 a1 a2 a3 a4 a5 a6 a7] w (RetD z w) := hz ▸ minus_any x a0 a1 a2 a3 a4 a5 a6 a7 w ha
theorem plus_at (x y z a0 a1 a2 a3 a4 a5 a6 a7 b0 b1 b2 b3 b4 b5 b6 b7 : Int) (w : World) (ha : Digs x a0 a1 a2 a3 a4 a5 a6 a7) (hb : Digs y b0 b1 b2 b3 b4 b5 b6 b7) (hz : (x + y) % 18446744073709551616 = z) :
    Calls Try.prog 50 #[dv a0 a1 a2 a3 a4 a5 a6 a7, dv b0 b1 b2 b3 b4 b5 b6 b7] w (RetD z w) := hz ▸ plus_any x y a0 a1 a2 a3 a4 a5 a6 a7 b0 b1 b2 b3 b4 b5 b6 b7 w ha hb
theorem number_at (x n a0 a1 a2 a3 a4 a5 a6 a7 : Int) (w : World) (ha : Digs x a0 a1 a2 a3 a4 a5 a6 a7) (hn : wrap64 x = n) :
    Calls Try.prog 47 #[dv a0 a1 a2 a3 a4 a5 a6 a7] w fun e w' => e = .returned (.int .i64 n) ∧ Below w.heap.size w w' := hn ▸ number_any x a0 a1 a2 a3 a4 a5 a6 a7 w ha
theorem of_at (a u : Int) (w : World) (hu : IntKind.u64.wrap a = u) : Calls Try.prog 46 #[.int .i64 a] w (RetD u w) := hu ▸ of_any a w
theorem below_at (x : Int) (b : Bool) (a0 a1 a2 a3 a4 a5 a6 a7 : Int) (w : World) (ha : Digs x a0 a1 a2 a3 a4 a5 a6 a7) (hb : BitB x = b) :
    Calls Try.prog 49 #[dv a0 a1 a2 a3 a4 a5 a6 a7] w fun e w' => e = .returned (.bool b) ∧ Below w.heap.size w w' := hb ▸ below_any x a0 a1 a2 a3 a4 a5 a6 a7 w ha

set_option maxHeartbeats 400000 in
theorem size_neg (a u z n s : Int) (w : World) (hu : Hid (IntKind.u64.wrap a = u)) (hB : Hid (BitB u = true))
    (hz : Hid ((18446744073709551616 - u) % 18446744073709551616 = z)) (hn : Hid (wrap64 z = n)) (hs : IntKind.u64.wrap n = s) :
    Calls Try.prog 44 #[.int .i64 a] w fun e w' => e = .returned (.int .u64 s) ∧ Below w.heap.size w w' := by
  go_enter Try.func44, Try.ntmps44
  go_wp2_with fail
  refine (of_at a u _ hu.out).mono ?_
  rintro e w1 ⟨d0, d1, d2, d3, d4, d5, d6, d7, hD, rfl, hb1⟩
  have HD := Lib.hid hD
  clear hD
  go_wp2_with fail
  refine (below_at u true _ _ _ _ _ _ _ _ _ HD.out hB.out).mono ?_
  rintro e w2 ⟨rfl, hb2⟩
  obtain ⟨hc2, hf2⟩ := bcell hb2
  simp only [World.size_alloc] at hc2 hf2
  go_wp2_with fail
  refine (minus_at u z _ _ _ _ _ _ _ _ _ HD.out hz.out).mono ?_
  rintro e w3 ⟨m0, m1, m2, m3, m4, m5, m6, m7, hM, rfl, hb3⟩
  have HM := Lib.hid hM
  clear hM
  have hz2 := hb2.size
  simp only [World.size_alloc] at hz2
  have hc3 : ∀ o, w3.cell? ⟨w1.heap.size, o, none⟩ = w2.cell? ⟨w1.heap.size, o, none⟩ := fun o => hb3.cell (p := ⟨w1.heap.size, o, none⟩) (show w1.heap.size < w2.heap.size by omega)
  have hf3 : ∀ o, w3.frozen? ⟨w1.heap.size, o, none⟩ = w2.frozen? ⟨w1.heap.size, o, none⟩ := fun o => hb3.frozen (p := ⟨w1.heap.size, o, none⟩) (show w1.heap.size < w2.heap.size by omega)
  go_wp2_with fail
  refine (number_at z n _ _ _ _ _ _ _ _ _ HM.out hn.out).mono ?_
  rintro e w4 ⟨rfl, hb4⟩
  go_wp2
  go_ret
  refine ⟨rfl, below_step ?_ hb4⟩
  have B3 := below_step (below_step (hb1.alloc hb1.size _) hb2) hb3
  have hq := hb1.size
  clear hc2 hf2 hc3 hf3 hb2 hb3 hb4
  go_grown

set_option maxHeartbeats 400000 in
theorem size_pos (a u n s : Int) (w : World) (hu : Hid (IntKind.u64.wrap a = u)) (hB : Hid (BitB u = false))
    (hn : Hid (wrap64 u = n)) (hs : IntKind.u64.wrap n = s) :
    Calls Try.prog 44 #[.int .i64 a] w fun e w' => e = .returned (.int .u64 s) ∧ Below w.heap.size w w' := by
  go_enter Try.func44, Try.ntmps44
  go_wp2_with fail
  refine (of_at a u _ hu.out).mono ?_
  rintro e w1 ⟨d0, d1, d2, d3, d4, d5, d6, d7, hD, rfl, hb1⟩
  have HD := Lib.hid hD
  clear hD
  go_wp2_with fail
  refine (below_at u false _ _ _ _ _ _ _ _ _ HD.out hB.out).mono ?_
  rintro e w2 ⟨rfl, hb2⟩
  obtain ⟨hc2, hf2⟩ := bcell hb2
  simp only [World.size_alloc] at hc2 hf2
  go_wp2_with fail
  refine (number_at u n _ _ _ _ _ _ _ _ _ HD.out hn.out).mono ?_
  rintro e w4 ⟨rfl, hb4⟩
  go_wp2
  go_ret
  exact ⟨rfl, below_step (below_step (hb1.alloc hb1.size _) hb2) hb4⟩

/-- The size of a number, as a number without signs. -/
theorem size_any (a : Int) (w : World) (h0 : -9223372036854775808 ≤ a) (h1 : a ≤ 9223372036854775807) :
    Calls Try.prog 44 #[.int .i64 a] w fun e w' => e = .returned (.int .u64 a.natAbs) ∧ Below w.heap.size w w' := by
  by_cases h : a < 0
  · refine size_neg a (a + 18446744073709551616) (-a) (wrap64 (-a)) a.natAbs w ?_ ?_ ?_ rfl ?_
    · show IntKind.u64.wrap a = _
      rw [IntKind.wrap_u64]; omega
    · show BitB _ = true
      unfold BitB; rw [decide_eq_true_eq]; omega
    · show _ = _
      omega
    · rw [IntKind.wrap_u64]; unfold wrap64; omega
  · refine size_pos a a (wrap64 a) a.natAbs w ?_ ?_ rfl ?_
    · show IntKind.u64.wrap a = _
      rw [IntKind.wrap_u64]; omega
    · show BitB _ = false
      unfold BitB; rw [decide_eq_false_iff_not]; omega
    · rw [IntKind.wrap_u64]; unfold wrap64; omega

theorem size_at (a s : Int) (w : World) (h0 : -9223372036854775808 ≤ a) (h1 : a ≤ 9223372036854775807) (hs : (a.natAbs : Int) = s) :
    Calls Try.prog 44 #[.int .i64 a] w fun e w' => e = .returned (.int .u64 s) ∧ Below w.heap.size w w' := hs ▸ size_any a w h0 h1

end Go.Proofs.Ytknnobijdojjhaa
