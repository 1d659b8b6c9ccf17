/-
  Contract of awake: the document's examples of layer 2. Conditions: none.
-/
import Derived.Test.YtknnobijdojjhaaGs
import Derived.Test.YtknnobijdojjhaaG4
namespace Go.Proofs.Ytknnobijdojjhaa
open Go.RowKit

theorem ans_of {f : FuncId} {s : ByteArray} {v : Int × Int × Int} {a b e : Int} (h : ∃ v, GAns f s v ∧ Spec s.data.toList v) (hs : Spec s.data.toList v) (hv : v = (a, b, e)) (w : World) :
    Calls Try.prog f #[.string s] w fun x w' => x = .returned (pr a b e) ∧ Below w.heap.size w w' := by
  obtain ⟨u, h1, h2⟩ := h
  have := spec_uniq h2 hs
  subst this
  subst hv
  exact h1 w

theorem spec_34 : Spec [51, 45, 52, 105] (3, -4, 0) := .inl ⟨[51], [45, 52], .inl ⟨[52], rfl, rfl⟩, by decide, by decide, by decide⟩

theorem parse_34 (w : World) : Calls Try.prog 26 #[.string { data := #[51, 45, 52, 105] }] w fun x w' => x = .returned (pr 3 (-4) 0) ∧ Below w.heap.size w w' :=
  ans_of (gparse_any { data := #[51, 45, 52, 105] } (by decide)) spec_34 rfl w
theorem mul_ii (w : World) : Calls Try.prog 19 #[cv 0 1, cv 0 1] w fun x w' => x = .returned (cv (-1) 0) ∧ Below w.heap.size w w' := by
  have h := mul_any 0 1 0 1 w
  have e1 : r24 (r24 0 * r24 0 - r24 1 * r24 1) = -1 := by decide
  have e2 : r24 (r24 0 * r24 1 + r24 1 * r24 0) = 0 := by decide
  rwa [e1, e2] at h
theorem of_max (w : World) : Calls Try.prog 23 #[.int .i64 8388608, .int .i64 0] w fun x w' => x = .returned (cv (-8388608) 0) ∧ Below w.heap.size w w' := by
  have h := gof_any 8388608 0 w
  have e1 : r24 8388608 = -8388608 := by decide
  have e2 : r24 0 = 0 := by decide
  rwa [e1, e2] at h
theorem norm_34 (w : World) : Calls Try.prog 21 #[cv 3 4] w fun x w' => x = .returned (.int .i64 25) ∧ Below w.heap.size w w' := by
  have h := norm_any 3 4 w
  have e1 : r24 3 * r24 3 + r24 4 * r24 4 = 25 := by decide
  rwa [e1] at h

set_option maxHeartbeats 1000000 in
theorem awake_core (w : World)
    (E1 : ∀ w, (binOp .eql 23 (cv (-1) 0) (cv (-1) 0)).run Try.prog w = .ok (.bool true) w)
    (E2 : ∀ w, (binOp .eql 23 (cv (-8388608) 0) (cv (-8388608) 0)).run Try.prog w = .ok (.bool true) w)
    (E3 : ∀ w, (binOp .eql 23 (cv 3 (-4)) (cv 3 (-4))).run Try.prog w = .ok (.bool true) w)
    (hG : ∀ op o1 o2 a b c d w, (eqGuard op 23 o1 o2 (cv a b) (cv c d)).run Try.prog w = .ok () w)
    (H1 : Hid (∀ w, Calls Try.prog 26 #[.string { data := #[51, 45, 52, 105] }] w fun x w' => x = .returned (pr 3 (-4) 0) ∧ Below w.heap.size w w'))
    (H2 : Hid (∀ w, Calls Try.prog 19 #[cv 0 1, cv 0 1] w fun x w' => x = .returned (cv (-1) 0) ∧ Below w.heap.size w w'))
    (H3 : Hid (∀ w, Calls Try.prog 23 #[.int .i64 8388608, .int .i64 0] w fun x w' => x = .returned (cv (-8388608) 0) ∧ Below w.heap.size w w'))
    (H4 : Hid (∀ w, Calls Try.prog 21 #[cv 3 4] w fun x w' => x = .returned (.int .i64 25) ∧ Below w.heap.size w w')) :
    Calls Try.prog 18 #[] w fun e w' => e = .returned (.bool true) ∧ Below w.heap.size w w' := by
  go_enter Try.func18, Try.ntmps18
  go_wp2_with fail
  refine (H1.out _).mono ?_
  rintro e w1 ⟨rfl, hb⟩
  have hB := (by go_grown : Below w.heap.size w _).trans (hb.mono (by simp))
  have q0 := fun O => cell_alloc (cell_carry hb (b := w.heap.size) (o := 0) (v := .int .i64 0) (by simp [go_sem])) O
  have q1 := fun O => cell_alloc (cell_carry hb (b := w.heap.size) (o := 1) (v := .int .i64 1) (by simp [go_sem])) O
  clear hb
  go_wp2_with fail
  refine (H2.out _).mono ?_
  rintro e w2 ⟨rfl, hb⟩
  replace hB := (hB.trans (below_alloc w1 _ |>.mono hB.size)).trans (hb.mono (Nat.le_trans hB.size (by simp)))
  have s3 := cell_carry hb (b := w1.heap.size) (o := 0) (v := .int .i64 3) (by simp [go_sem])
  have s4 := cell_carry hb (b := w1.heap.size) (o := 1) (v := .int .i64 (-4)) (by simp [go_sem])
  clear q0 q1 hb
  go_wp2_with fail
  refine (H3.out _).mono ?_
  rintro e w3 ⟨rfl, hb⟩
  replace hB := below_step hB hb
  replace s3 := cell_carry hb s3
  replace s4 := cell_carry hb s4
  clear hb
  go_wp2_with fail
  refine (H4.out _).mono ?_
  rintro e w4 ⟨rfl, hb⟩
  replace hB := below_step hB hb
  replace s3 := cell_carry hb s3
  replace s4 := cell_carry hb s4
  clear hb
  go_wp2
  go_ret
  exact ⟨rfl, hB⟩
theorem awake_any (w : World) : Calls Try.prog 18 #[] w fun e w' => e = .returned (.bool true) ∧ Below w.heap.size w w' :=
  awake_core w (eql_cv _ _ _ _ _ rfl) (eql_cv _ _ _ _ _ rfl) (eql_cv _ _ _ _ _ rfl) (fun op o1 o2 a b c d w => guard_cv op o1 o2 a b c d w)
    (Lib.hid parse_34) (Lib.hid mul_ii) (Lib.hid of_max) (Lib.hid norm_34)

end Go.Proofs.Ytknnobijdojjhaa
