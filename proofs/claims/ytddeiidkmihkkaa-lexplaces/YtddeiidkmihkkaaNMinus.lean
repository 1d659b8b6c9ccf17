/-
  Contracts of the document's number with the other sign (hindcastref01.Minus) and of a number's size (hindcastref01.Size). Conditions: each digit is from 0 to 255.
-/
import Derived.Test.YtddeiidkmihkkaaNPlus
import Derived.Below
namespace Go.Proofs.Ytddeiidkmihkkaa.Nm
open Go.RowKit

theorem bcell {W w1 : World} (hb : Below W.heap.size W w1) : (∀ b o, b < W.heap.size → w1.cell? ⟨b, o, none⟩ = W.cell? ⟨b, o, none⟩) ∧ (∀ b o, b < W.heap.size → w1.frozen? ⟨b, o, none⟩ = W.frozen? ⟨b, o, none⟩) :=
  ⟨fun b o h => hb.cell (p := ⟨b, o, none⟩) h, fun b o h => hb.frozen (p := ⟨b, o, none⟩) h⟩

theorem below_step {w W w' : World} (h : Below w.heap.size w W) (k : Below W.heap.size W w') : Below w.heap.size w w' := h.trans (k.mono h.size)

theorem digs_flip (x a0 a1 a2 a3 a4 a5 a6 a7 : Int) (h : Digs x a0 a1 a2 a3 a4 a5 a6 a7) : Digs (18446744073709551615 - x) (255 - a0) (255 - a1) (255 - a2) (255 - a3) (255 - a4) (255 - a5) (255 - a6) (255 - a7) := by
  unfold Digs at *; omega
theorem digs_one : Digs 1 1 0 0 0 0 0 0 0 := by unfold Digs; omega

set_option maxHeartbeats 400000 in
theorem minus_any (x a0 a1 a2 a3 a4 a5 a6 a7 : Int) (w : World) (ha : Digs x a0 a1 a2 a3 a4 a5 a6 a7) :
    Calls Try.prog 41 #[dv a0 a1 a2 a3 a4 a5 a6 a7] w (RetD ((18446744073709551616 - x) % 18446744073709551616) w) := by
  have hp := fun w => plus_any _ _ _ _ _ _ _ _ _ _ _ _ _ _ _ _ _ _ w (digs_flip _ _ _ _ _ _ _ _ _ ha) digs_one
  rw [show (18446744073709551615 - x + 1) = 18446744073709551616 - x by omega] at hp
  have HP := Lib.hid hp
  clear hp
  unfold Digs at ha
  obtain ⟨⟨al0, au0⟩, ⟨al1, au1⟩, ⟨al2, au2⟩, ⟨al3, au3⟩, ⟨al4, au4⟩, ⟨al5, au5⟩, ⟨al6, au6⟩, ⟨al7, au7⟩, hax⟩ := ha
  clear hax
  generalize (18446744073709551616 - x) % 18446744073709551616 = z at *
  go_enter Try.func41, Try.ntmps41
  go_wp2
  refine wp_loop_rounds 9 ?_
  iterate 9
    rw [rounds_succ]
    go_wp2_with fail
  refine (HP.out _).mono ?_
  rintro e w1 ⟨d0, d1, d2, d3, d4, d5, d6, d7, hD, rfl, hb⟩
  have HD := Lib.hid hD
  clear hD
  obtain ⟨hc, hf⟩ := bcell hb
  have hz := hb.size
  simp only [World.size_alloc] at hc hf hz
  go_wp2
  refine bodyPost_ret (v := dv d0 d1 d2 d3 d4 d5 d6 d7) (by simp [results, Try.results41, go_sem, hc]) rfl ?_
  refine ⟨_, _, _, _, _, _, _, _, HD.out, rfl, ?_⟩
  have hb' := (by go_grown : Below w.heap.size w _).trans (hb.mono (by simp; omega))
  go_grown

theorem minus_at (x z a0 a1 a2 a3 a4 a5 a6 a7 : Int) (w : World) (ha : Digs x a0 a1 a2 a3 a4 a5 a6 a7) (hz : (18446744073709551616 - x) % 18446744073709551616 = z) :
    Calls Try.prog 41 #[dv a0 a1 a2 a3 a4 a5 a6 a7] w (RetD z w) := hz ▸ minus_any x a0 a1 a2 a3 a4 a5 a6 a7 w ha
theorem plus_at (x y z a0 a1 a2 a3 a4 a5 a6 a7 b0 b1 b2 b3 b4 b5 b6 b7 : Int) (w : World) (ha : Digs x a0 a1 a2 a3 a4 a5 a6 a7) (hb : Digs y b0 b1 b2 b3 b4 b5 b6 b7) (hz : (x + y) % 18446744073709551616 = z) :
    Calls Try.prog 49 #[dv a0 a1 a2 a3 a4 a5 a6 a7, dv b0 b1 b2 b3 b4 b5 b6 b7] w (RetD z w) := hz ▸ plus_any x y a0 a1 a2 a3 a4 a5 a6 a7 b0 b1 b2 b3 b4 b5 b6 b7 w ha hb
theorem number_at (x n a0 a1 a2 a3 a4 a5 a6 a7 : Int) (w : World) (ha : Digs x a0 a1 a2 a3 a4 a5 a6 a7) (hn : wrap64 x = n) :
    Calls Try.prog 43 #[dv a0 a1 a2 a3 a4 a5 a6 a7] w fun e w' => e = .returned (.int .i64 n) ∧ Below w.heap.size w w' := hn ▸ number_any x a0 a1 a2 a3 a4 a5 a6 a7 w ha
theorem of_at (a u : Int) (w : World) (hu : IntKind.u64.wrap a = u) : Calls Try.prog 42 #[.int .i64 a] w (RetD u w) := hu ▸ of_any a w


end Go.Proofs.Ytddeiidkmihkkaa.Nm
