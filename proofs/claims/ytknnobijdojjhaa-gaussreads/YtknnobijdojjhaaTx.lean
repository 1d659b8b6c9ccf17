/-
  Contracts of gauss.Text and of the document's Text (layer 2). Conditions: none.
-/
import Derived.Test.YtknnobijdojjhaaG3
import Derived.Test.YtknnobijdojjhaaCarry
import Derived.Test.YtknnobijdojjhaaTextB
namespace Go.Proofs.Ytknnobijdojjhaa
open Go.RowKit Go.Sort

/-- A complex number's text. -/
def gtext (x y : Int) : List UInt8 := textL x ++ (if y < 0 then [] else [43]) ++ textL y ++ [105]

theorem textL_len (x : Int) (h : -8388608 ≤ x ∧ x ≤ 8388607) : (textL x).length ≤ 21 := by
  unfold textL
  have := dec_len_le x.natAbs (by omega)
  split <;> simp <;> omega

set_option maxHeartbeats 1000000 in
theorem gtx_neg (a b x y : Int) (TX TY S1 S2 S : ByteArray) (w : World) (hy : y < 0)
    (a1 : ∀ w, (Op.stringOp .add TX { data := #[] }).run Try.prog w = .ok (.string S1) w) (a2 : ∀ w, (Op.stringOp .add S1 TY).run Try.prog w = .ok (.string S2) w) (a3 : ∀ w, (Op.stringOp .add S2 { data := #[105] }).run Try.prog w = .ok (.string S) w)
    (H0 : Hid (∀ w, Calls Try.prog 23 #[.int .i64 a, .int .i64 b] w fun e w' => e = .returned (cv x y) ∧ Below w.heap.size w w'))
    (HX : Hid (∀ w, Calls Try.prog 34 #[.int .i64 x] w fun e w' => e = .returned (.string TX) ∧ Below w.heap.size w w'))
    (HY : Hid (∀ w, Calls Try.prog 34 #[.int .i64 y] w fun e w' => e = .returned (.string TY) ∧ Below w.heap.size w w')) :
    Calls Try.prog 25 #[cv a b] w fun e w' => e = .returned (.string S) ∧ Below w.heap.size w w' := by
  go_enter Try.func25, Try.ntmps25
  go_wp2_with fail
  refine (H0.out _).mono ?_
  rintro e w1 ⟨rfl, hb⟩
  have hB := (by go_grown : Below w.heap.size w _).trans (hb.mono (by simp))
  have q0 := cell_carry hb (b := w.heap.size) (o := 0) (v := .int .i64 a) (by simp [go_sem])
  have q1 := cell_carry hb (b := w.heap.size) (o := 1) (v := .int .i64 b) (by simp [go_sem])
  have q2 := fun o => froz_carry hb (b := w.heap.size) (o := 0) (v := .int .i64 a) (by simp [go_sem]) (o' := o) (by simp [go_sem])
  clear hb
  go_wp2_with fail
  obtain ⟨W, hW⟩ : ∃ W, W = ((w1.setCell ⟨w.heap.size, 0, none⟩ (.int .i64 x)).setCell ⟨w.heap.size, 1, none⟩ (.int .i64 y)) := ⟨_, rfl⟩
  have hB2 : Below w.heap.size w W := by rw [hW]; have hz := hB.size; go_grown
  rw [← hW]
  have k0 := fun D os => cell_regrown (w := W) (a := ⟨w.heap.size, 0, none⟩) (v := .int .i64 x) (by rw [hW]; simp [go_sem, q0]) D os
  have k1 := fun D os => cell_regrown (w := W) (a := ⟨w.heap.size, 1, none⟩) (v := .int .i64 y) (by rw [hW]; simp [go_sem, q1]) D os
  have c0 : ∀ D os, Calls Try.prog 34 #[.int .i64 x] (grow (redrawn W D) os) fun e w'' => e = .returned (.string TX) ∧ ∃ p : Regrown, w'' = grow (redrawn W p.d) p.os := fun D os => Calls.regrown_of (HX.out _)
  have c1 : ∀ D os, Calls Try.prog 34 #[.int .i64 y] (grow (redrawn W D) os) fun e w'' => e = .returned (.string TY) ∧ ∃ p : Regrown, w'' = grow (redrawn W p.d) p.os := fun D os => Calls.regrown_of (HY.out _)
  clear hW q0 q1 q2 hB
  refine wp_region_quiet_below (by kernel_rfl) (by kernel_rfl) ?_
  repeat (quiet_step (first | with_reducible exact c0 _ _ | with_reducible exact c1 _ _))
  refine wpQuiet_nil ?_
  rintro _ ⟨⟨dq, osq⟩, rfl⟩
  have hb := below_regrown W dq osq
  generalize grow (redrawn W dq) osq = w' at *
  clear k0 k1 c0 c1
  go_wp2
  go_ret
  exact ⟨rfl, below_step hB2 hb⟩

set_option maxHeartbeats 1000000 in
theorem gtx_pos (a b x y : Int) (TX TY S1 S2 S : ByteArray) (w : World) (hy : ¬ y < 0)
    (a1 : ∀ w, (Op.stringOp .add TX { data := #[43] }).run Try.prog w = .ok (.string S1) w) (a2 : ∀ w, (Op.stringOp .add S1 TY).run Try.prog w = .ok (.string S2) w) (a3 : ∀ w, (Op.stringOp .add S2 { data := #[105] }).run Try.prog w = .ok (.string S) w)
    (H0 : Hid (∀ w, Calls Try.prog 23 #[.int .i64 a, .int .i64 b] w fun e w' => e = .returned (cv x y) ∧ Below w.heap.size w w'))
    (HX : Hid (∀ w, Calls Try.prog 34 #[.int .i64 x] w fun e w' => e = .returned (.string TX) ∧ Below w.heap.size w w'))
    (HY : Hid (∀ w, Calls Try.prog 34 #[.int .i64 y] w fun e w' => e = .returned (.string TY) ∧ Below w.heap.size w w')) :
    Calls Try.prog 25 #[cv a b] w fun e w' => e = .returned (.string S) ∧ Below w.heap.size w w' := by
  go_enter Try.func25, Try.ntmps25
  go_wp2_with fail
  refine (H0.out _).mono ?_
  rintro e w1 ⟨rfl, hb⟩
  have hB := (by go_grown : Below w.heap.size w _).trans (hb.mono (by simp))
  have q0 := cell_carry hb (b := w.heap.size) (o := 0) (v := .int .i64 a) (by simp [go_sem])
  have q1 := cell_carry hb (b := w.heap.size) (o := 1) (v := .int .i64 b) (by simp [go_sem])
  have q2 := fun o => froz_carry hb (b := w.heap.size) (o := 0) (v := .int .i64 a) (by simp [go_sem]) (o' := o) (by simp [go_sem])
  clear hb
  go_wp2_with fail
  obtain ⟨W, hW⟩ : ∃ W, W = ((w1.setCell ⟨w.heap.size, 0, none⟩ (.int .i64 x)).setCell ⟨w.heap.size, 1, none⟩ (.int .i64 y)) := ⟨_, rfl⟩
  have hB2 : Below w.heap.size w W := by rw [hW]; have hz := hB.size; go_grown
  rw [← hW]
  have k0 := fun D os => cell_regrown (w := W) (a := ⟨w.heap.size, 0, none⟩) (v := .int .i64 x) (by rw [hW]; simp [go_sem, q0]) D os
  have k1 := fun D os => cell_regrown (w := W) (a := ⟨w.heap.size, 1, none⟩) (v := .int .i64 y) (by rw [hW]; simp [go_sem, q1]) D os
  have c0 : ∀ D os, Calls Try.prog 34 #[.int .i64 x] (grow (redrawn W D) os) fun e w'' => e = .returned (.string TX) ∧ ∃ p : Regrown, w'' = grow (redrawn W p.d) p.os := fun D os => Calls.regrown_of (HX.out _)
  have c1 : ∀ D os, Calls Try.prog 34 #[.int .i64 y] (grow (redrawn W D) os) fun e w'' => e = .returned (.string TY) ∧ ∃ p : Regrown, w'' = grow (redrawn W p.d) p.os := fun D os => Calls.regrown_of (HY.out _)
  clear hW q0 q1 q2 hB
  refine wp_region_quiet_below (by kernel_rfl) (by kernel_rfl) ?_
  repeat (quiet_step (first | with_reducible exact c0 _ _ | with_reducible exact c1 _ _))
  refine wpQuiet_nil ?_
  rintro _ ⟨⟨dq, osq⟩, rfl⟩
  have hb := below_regrown W dq osq
  generalize grow (redrawn W dq) osq = w' at *
  clear k0 k1 c0 c1
  go_wp2
  go_ret
  exact ⟨rfl, below_step hB2 hb⟩

set_option maxHeartbeats 1000000 in
theorem rtx_neg (a b x y : Int) (TX TY S : ByteArray) (w : World) (hy : y < 0) (h1 : TX.size ≤ 30) (h2 : TY.size ≤ 30) (hS : Hid ((TX ++ TY ++ { data := #[105] } : ByteArray) = S))
    (H0 : Hid (∀ w, Calls Try.prog 10 #[.int .i64 a, .int .i64 b] w fun e w' => e = .returned (cv x y) ∧ Below w.heap.size w w'))
    (HX : Hid (∀ w, Calls Try.prog 37 #[.int .i64 x] w fun e w' => e = .returned (.string TX) ∧ Below w.heap.size w w'))
    (HY : Hid (∀ w, Calls Try.prog 37 #[.int .i64 y] w fun e w' => e = .returned (.string TY) ∧ Below w.heap.size w w')) :
    Calls Try.prog 27 #[cv a b] w fun e w' => e = .returned (.string S) ∧ Below w.heap.size w w' := by
  have hy' : y < 0 := by omega
  go_enter Try.func27, Try.ntmps27
  go_wp2_with fail
  refine (H0.out _).mono ?_
  rintro e w1 ⟨rfl, hb⟩
  have hB := (by go_grown : Below w.heap.size w _).trans (hb.mono (by simp))
  clear hb
  go_wp2_with fail
  refine (HX.out _).mono ?_
  rintro e w2 ⟨rfl, hb⟩
  replace hB := (hB.trans (below_alloc w1 _ |>.mono hB.size)).trans (hb.mono (Nat.le_trans hB.size (by simp)))
  have q1 := cell_carry hb (b := w1.heap.size) (o := 1) (v := .int .i64 y) (by simp [go_sem])
  clear hb
  go_wp2_with fail
  refine (HY.out _).mono ?_
  rintro e w3 ⟨rfl, hb⟩
  go_wp2
  go_ret
  exact ⟨congrArg (fun s => Ending.returned (.string s)) hS.out, below_step hB hb⟩

set_option maxHeartbeats 1000000 in
theorem rtx_pos (a b x y : Int) (TX TY S : ByteArray) (w : World) (hy : ¬ y < 0) (h1 : TX.size ≤ 30) (h2 : TY.size ≤ 30) (hS : Hid ((TX ++ { data := #[43] } ++ TY ++ { data := #[105] } : ByteArray) = S))
    (H0 : Hid (∀ w, Calls Try.prog 10 #[.int .i64 a, .int .i64 b] w fun e w' => e = .returned (cv x y) ∧ Below w.heap.size w w'))
    (HX : Hid (∀ w, Calls Try.prog 37 #[.int .i64 x] w fun e w' => e = .returned (.string TX) ∧ Below w.heap.size w w'))
    (HY : Hid (∀ w, Calls Try.prog 37 #[.int .i64 y] w fun e w' => e = .returned (.string TY) ∧ Below w.heap.size w w')) :
    Calls Try.prog 27 #[cv a b] w fun e w' => e = .returned (.string S) ∧ Below w.heap.size w w' := by
  have hy' : 0 ≤ y := by omega
  go_enter Try.func27, Try.ntmps27
  go_wp2_with fail
  refine (H0.out _).mono ?_
  rintro e w1 ⟨rfl, hb⟩
  have hB := (by go_grown : Below w.heap.size w _).trans (hb.mono (by simp))
  clear hb
  go_wp2_with fail
  refine (HX.out _).mono ?_
  rintro e w2 ⟨rfl, hb⟩
  replace hB := (hB.trans (below_alloc w1 _ |>.mono hB.size)).trans (hb.mono (Nat.le_trans hB.size (by simp)))
  have q1 := cell_carry hb (b := w1.heap.size) (o := 1) (v := .int .i64 y) (by simp [go_sem])
  clear hb
  go_wp2_with fail
  refine (HY.out _).mono ?_
  rintro e w3 ⟨rfl, hb⟩
  go_wp2
  go_ret
  exact ⟨congrArg (fun s => Ending.returned (.string s)) hS.out, below_step hB hb⟩

theorem cat_neg (l m : List UInt8) : bs l ++ { data := #[] } ++ bs m ++ { data := #[105] } = bs (l ++ [] ++ m ++ [105]) := by
  have e0 : ({ data := #[] } : ByteArray) = bs [] := rfl
  have e1 : ({ data := #[105] } : ByteArray) = bs [105] := rfl
  rw [e0, e1, bs_app, bs_app, bs_app]
theorem cat_neg' (l m : List UInt8) : bs l ++ bs m ++ { data := #[105] } = bs (l ++ [] ++ m ++ [105]) := by
  have e1 : ({ data := #[105] } : ByteArray) = bs [105] := rfl
  rw [e1, bs_app, bs_app, List.append_nil]
theorem cat_pos (l m : List UInt8) : bs l ++ { data := #[43] } ++ bs m ++ { data := #[105] } = bs (l ++ [43] ++ m ++ [105]) := by
  have e0 : ({ data := #[43] } : ByteArray) = bs [43] := rfl
  have e1 : ({ data := #[105] } : ByteArray) = bs [105] := rfl
  rw [e0, e1, bs_app, bs_app, bs_app]

theorem gtext_any (a b : Int) (w : World) : Calls Try.prog 25 #[cv a b] w fun e w' => e = .returned (.string (bs (gtext (r24 a) (r24 b)))) ∧ Below w.heap.size w w' := by
  have h1 := r24_lo a
  have h2 := r24_lo b
  have l1 : (bs (textL (r24 a))).size ≤ 30 := by rw [bs_size]; have := textL_len _ h1; omega
  have l2 : (bs (textL (r24 b))).size ≤ 30 := by rw [bs_size]; have := textL_len _ h2; omega
  have z0 : ({ data := #[] } : ByteArray).size = 0 := rfl
  have z1 : ({ data := #[43] } : ByteArray).size = 1 := rfl
  have z2 : ({ data := #[105] } : ByteArray).size = 1 := rfl
  unfold gtext
  by_cases hy : r24 b < 0
  · rw [if_pos hy]
    rw [← cat_neg]
    exact gtx_neg a b _ _ _ _ _ _ _ w hy (fun w => run_string_add_sum w _ _ (by omega)) (fun w => run_string_add_sum w _ _ (by simp only [ByteArray.size_append]; omega)) (fun w => run_string_add_sum w _ _ (by simp only [ByteArray.size_append]; omega)) (Lib.hid (gof_any a b)) (Lib.hid (fun w => text_any _ w (by omega) (by omega))) (Lib.hid (fun w => text_any _ w (by omega) (by omega)))
  · rw [if_neg hy]
    rw [← cat_pos]
    exact gtx_pos a b _ _ _ _ _ _ _ w hy (fun w => run_string_add_sum w _ _ (by omega)) (fun w => run_string_add_sum w _ _ (by simp only [ByteArray.size_append]; omega)) (fun w => run_string_add_sum w _ _ (by simp only [ByteArray.size_append]; omega)) (Lib.hid (gof_any a b)) (Lib.hid (fun w => text_any _ w (by omega) (by omega))) (Lib.hid (fun w => text_any _ w (by omega) (by omega)))
theorem rgtext_any (a b : Int) (w : World) : Calls Try.prog 27 #[cv a b] w fun e w' => e = .returned (.string (bs (gtext (r24 a) (r24 b)))) ∧ Below w.heap.size w w' := by
  have h1 := r24_lo a
  have h2 := r24_lo b
  have l1 : (bs (textL (r24 a))).size ≤ 30 := by rw [bs_size]; have := textL_len _ h1; omega
  have l2 : (bs (textL (r24 b))).size ≤ 30 := by rw [bs_size]; have := textL_len _ h2; omega
  unfold gtext
  by_cases hy : r24 b < 0
  · rw [if_pos hy]
    exact rtx_neg a b _ _ _ _ _ w hy l1 l2 (Lib.hid (cat_neg' _ _)) (Lib.hid (rof_any a b)) (Lib.hid (fun w => rtext_any _ w (by omega) (by omega))) (Lib.hid (fun w => rtext_any _ w (by omega) (by omega)))
  · rw [if_neg hy]
    exact rtx_pos a b _ _ _ _ _ w hy l1 l2 (Lib.hid (cat_pos _ _)) (Lib.hid (rof_any a b)) (Lib.hid (fun w => rtext_any _ w (by omega) (by omega))) (Lib.hid (fun w => rtext_any _ w (by omega) (by omega)))

end Go.Proofs.Ytknnobijdojjhaa
