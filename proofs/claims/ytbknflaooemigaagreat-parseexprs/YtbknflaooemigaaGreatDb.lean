/-
 The document's reader by value: fail, must, opens, shuts and word answer as said. Conditions: its tokens lie in memory, the next one is there.
-/
import Derived.Test.YtbknflaooemigaaGreatDa
namespace Go.Proofs.YtbknflaooemigaaGreat
open Go.RowKit Go.Sort
set_option linter.unusedVariables false

theorem tokF1 (kd ln cl : Nat) (nm : Int) (X : ByteArray) (w : World) : (Instr.field 38 (.agg #[.int .u8 kd, .int .i64 ln, .int .i64 cl, .int .i64 nm, .string X]) 1).run Tryz.prog w = .ok (.int .i64 ln) w := by kernel_rfl
theorem tokF2 (kd ln cl : Nat) (nm : Int) (X : ByteArray) (w : World) : (Instr.field 38 (.agg #[.int .u8 kd, .int .i64 ln, .int .i64 cl, .int .i64 nm, .string X]) 2).run Tryz.prog w = .ok (.int .i64 cl) w := by kernel_rfl
/-- Two boxes, a reader's and an empty one's, just made. -/
theorem two_made (w : World) (sl : Value) (I d c l k : Int) : Bx ((w.alloc (.cells #[sl, .int .i64 I, .int .i64 d, .int .i64 c, .int .i64 l, .int .i64 k] 43)).alloc (.cells #[.slice none 0 0, .int .i64 0, .int .i64 0, .int .i64 0, .int .i64 0, .int .i64 0] 43)) w.heap.size sl I d c l k ∧
  Bx ((w.alloc (.cells #[sl, .int .i64 I, .int .i64 d, .int .i64 c, .int .i64 l, .int .i64 k] 43)).alloc (.cells #[.slice none 0 0, .int .i64 0, .int .i64 0, .int .i64 0, .int .i64 0, .int .i64 0] 43)) (w.heap.size + 1) (.slice none 0 0) 0 0 0 0 0 ∧
  Below w.heap.size w ((w.alloc (.cells #[sl, .int .i64 I, .int .i64 d, .int .i64 c, .int .i64 l, .int .i64 k] 43)).alloc (.cells #[.slice none 0 0, .int .i64 0, .int .i64 0, .int .i64 0, .int .i64 0, .int .i64 0] 43)) := by
 refine ⟨(Bx.made w sl I d c l k).carry (below_alloc _ _), ?_, by go_grown⟩
 have := Bx.made (w.alloc (.cells #[sl, .int .i64 I, .int .i64 d, .int .i64 c, .int .i64 l, .int .i64 k] 43)) (.slice none 0 0) 0 0 0 0 0
 simpa using this

set_option maxHeartbeats 1000000 in
theorem pfail_bad (w : World) (tb to tc n I : Nat) (d c l k e : Int) (hc : c ≠ 0) :
  Calls Tryz.prog 33 #[pQ tb to n tc I d c l k, .int .i64 e] w fun e w' => e = .returned (pQ tb to n tc I d c l k) ∧ Below w.heap.size w w' := by
 have HB := Lib.hid (fun w => pbad_q w tb to tc n I d c l k true (by simpa using hc))
 clear hc
 go_enter Tryz.func33, Tryz.ntmps33
 go_wp2_with fail
 refine (HB.out _).mono ?_
 rintro e w1 ⟨rfl, hb⟩
 have hb1 : Below w.heap.size w w1 := below_step (two_made w (.slice (some ⟨tb, to, none⟩) n tc) I d c l k).2.2 hb
 have hP := (two_made w (.slice (some ⟨tb, to, none⟩) n tc) I d c l k).1.carry hb
 have hR := (two_made w (.slice (some ⟨tb, to, none⟩) n tc) I d c l k).2.1.carry hb
 have hz : w.heap.size + 1 < w1.heap.size := hR.lt
 clear hb
 obtain ⟨p0, p1, p2, p3, p4, p5, pf⟩ := hP
 obtain ⟨r0, r1, r2, r3, r4, r5, rf⟩ := hR
 go_wp2_with fail
 refine bodyPost_ret (v := pQ tb to n tc I d c l k) (by simp [results, Tryz.results33, go_sem, r0, r1, r2, r3, r4, r5]) rfl ⟨rfl, ?_⟩
 go_grown

set_option maxHeartbeats 1000000 in
theorem pfail_ok {w : World} {tb to tc n I : Nat} {d c l k : Int} {kd ln cl : Nat} {nm : Int} {X : ByteArray} (e : Int) (hc : c = 0)
  (HN : Hid (∀ w', Below w.heap.size w w' → Calls Tryz.prog 29 #[pQ tb to n tc I d c l k] w' fun e w'' => e = .returned (tQ kd ln cl nm X) ∧ Below w'.heap.size w' w'')) :
  Calls Tryz.prog 33 #[pQ tb to n tc I d c l k, .int .i64 e] w fun e' w' => e' = .returned (pQ tb to n tc I d e ln cl) ∧ Below w.heap.size w w' := by
 have HB := Lib.hid (fun w => pbad_q w tb to tc n I d c l k false (by rw [hc]; rfl))
 clear hc
 go_enter Tryz.func33, Tryz.ntmps33
 go_wp2_with fail
 refine (HB.out _).mono ?_
 rintro e W ⟨rfl, hb⟩
 have hb1 : Below w.heap.size w W := below_step (two_made w (.slice (some ⟨tb, to, none⟩) n tc) I d c l k).2.2 hb
 have hP := (two_made w (.slice (some ⟨tb, to, none⟩) n tc) I d c l k).1.carry hb
 have hR := (two_made w (.slice (some ⟨tb, to, none⟩) n tc) I d c l k).2.1.carry hb
 have hz : w.heap.size + 1 < W.heap.size := hR.lt
 clear hb
 obtain ⟨p0, p1, p2, p3, p4, p5, pf⟩ := id hP
 go_wp2_with fail
 have k0 := fun D os => cell_regrown p0 D os
 have k1 := fun D os => cell_regrown p1 D os
 have k2 := fun D os => cell_regrown p2 D os
 have k3 := fun D os => cell_regrown p3 D os
 have k4 := fun D os => cell_regrown p4 D os
 have k5 := fun D os => cell_regrown p5 D os
 have c0 : ∀ D os, Calls Tryz.prog 29 #[pQ tb to n tc I d c l k] (grow (redrawn W D) os) fun e w'' => e = .returned (tQ kd ln cl nm X) ∧ ∃ p : Regrown, w'' = grow (redrawn W p.d) p.os := fun D os => Calls.regrown_of (HN.out _ (below_step hb1 (below_regrown _ _ _)))
 have hF1 := tokF1 kd ln cl nm X
 have hF2 := tokF2 kd ln cl nm X
 clear p0 p1 p2 p3 p4 p5 pf
 refine region_tail_below 9 (by kernel_rfl) (by kernel_rfl) ?_
 simp only [List.take_succ_cons, List.take_zero, List.drop_succ_cons, List.drop_zero]
 repeat (quiet_step (first | with_reducible exact c0 _ _))
 refine wpQuiet_nil ?_
 rintro _ ⟨⟨dq, osq⟩, rfl⟩
 have hb := below_regrown W dq osq
 generalize grow (redrawn W dq) osq = w' at *
 obtain ⟨p0, p1, p2, p3, p4, p5, pf⟩ := hP.carry hb
 obtain ⟨r0, r1, r2, r3, r4, r5, rf⟩ := hR.carry hb
 have hbb := below_step hb1 hb
 have hz2 := hb.size
 clear k0 k1 k2 k3 k4 k5 c0 hP hR hb
 go_wp2
 refine bodyPost_ret (v := pQ tb to n tc I d e ln cl) (by simp [results, Tryz.results33, go_sem, r0, r1, r2, r3, r4, r5]) rfl ⟨rfl, ?_⟩
 go_grown

end Go.Proofs.YtbknflaooemigaaGreat
