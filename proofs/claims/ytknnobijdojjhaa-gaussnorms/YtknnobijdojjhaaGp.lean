/-
  Contract of gauss.Parse out of its callees'. Conditions: those contracts.
-/
import Derived.Test.YtknnobijdojjhaaCut
import Derived.Test.YtknnobijdojjhaaG3
namespace Go.Proofs.Ytknnobijdojjhaa
open Go.RowKit Go.Sort

abbrev pr (a b e : Int) : Value := .tuple #[cv a b, .int .i64 e]


set_option maxHeartbeats 1000000 in
theorem gp_none (s A B : ByteArray) (w : World)
    (HC : Hid (∀ w, Calls Try.prog 35 #[.string s] w fun e w' => e = .returned (.tuple #[.string A, .string B, .bool false]) ∧ Below w.heap.size w w'))
    : Calls Try.prog 26 #[.string s] w fun e w' => e = .returned (pr 0 0 2) ∧ Below w.heap.size w w' := by
  go_enter Try.func26, Try.ntmps26
  go_wp2_with fail
  refine (HC.out _).mono ?_
  rintro e w1 ⟨rfl, hb⟩
  have hB := (by go_grown : Below w.heap.size w _).trans (hb.mono (by simp))
  have q0 := cell_carry hb (b := w.heap.size) (o := 0) (v := .int .i64 0) (by simp [go_sem])
  have q1 := cell_carry hb (b := w.heap.size) (o := 1) (v := .int .i64 0) (by simp [go_sem])
  have q2 := fun o => froz_carry hb (b := w.heap.size) (o := 0) (v := .int .i64 0) (by simp [go_sem]) (o' := o) (by simp [go_sem])
  clear hb
  go_wp2
  refine bodyPost_ret (v := pr 0 0 2) (by simp [results, Try.results26, go_sem, q0, q1]) rfl ⟨rfl, ?_⟩
  have hz := hB.size
  go_grown

set_option maxHeartbeats 1000000 in
theorem gp_form1 (s A B : ByteArray) (e2 n1 n2 : Int) (w : World)
    (HC : Hid (∀ w, Calls Try.prog 35 #[.string s] w fun e w' => e = .returned (.tuple #[.string A, .string B, .bool true]) ∧ Below w.heap.size w w'))
    (HA : Hid (∀ w, Calls Try.prog 36 #[.string A] w fun e w' => e = .returned (.tuple #[.int .i64 n1, .int .i64 2]) ∧ w = w'))
    (HB : Hid (∀ w, Calls Try.prog 36 #[.string B] w fun e w' => e = .returned (.tuple #[.int .i64 n2, .int .i64 e2]) ∧ w = w'))
    : Calls Try.prog 26 #[.string s] w fun e w' => e = .returned (pr 0 0 2) ∧ Below w.heap.size w w' := by
  go_enter Try.func26, Try.ntmps26
  go_wp2_with fail
  refine (HC.out _).mono ?_
  rintro e w1 ⟨rfl, hb⟩
  have hB := (by go_grown : Below w.heap.size w _).trans (hb.mono (by simp))
  have q0 := cell_carry hb (b := w.heap.size) (o := 0) (v := .int .i64 0) (by simp [go_sem])
  have q1 := cell_carry hb (b := w.heap.size) (o := 1) (v := .int .i64 0) (by simp [go_sem])
  have q2 := fun o => froz_carry hb (b := w.heap.size) (o := 0) (v := .int .i64 0) (by simp [go_sem]) (o' := o) (by simp [go_sem])
  clear hb
  go_wp2_with fail
  refine (HA.out _).mono ?_
  rintro e _ ⟨rfl, rfl⟩
  go_wp2_with fail
  refine (HB.out _).mono ?_
  rintro e _ ⟨rfl, rfl⟩
  go_wp2
  refine bodyPost_ret (v := pr 0 0 2) (by simp [results, Try.results26, go_sem, q0, q1]) rfl ⟨rfl, ?_⟩
  have hz := hB.size
  go_grown

set_option maxHeartbeats 1000000 in
theorem gp_form2 (s A B : ByteArray) (e1 n1 n2 : Int) (w : World)
    (h1 : (e1 == 2) = false)
    (HC : Hid (∀ w, Calls Try.prog 35 #[.string s] w fun e w' => e = .returned (.tuple #[.string A, .string B, .bool true]) ∧ Below w.heap.size w w'))
    (HA : Hid (∀ w, Calls Try.prog 36 #[.string A] w fun e w' => e = .returned (.tuple #[.int .i64 n1, .int .i64 e1]) ∧ w = w'))
    (HB : Hid (∀ w, Calls Try.prog 36 #[.string B] w fun e w' => e = .returned (.tuple #[.int .i64 n2, .int .i64 2]) ∧ w = w'))
    : Calls Try.prog 26 #[.string s] w fun e w' => e = .returned (pr 0 0 2) ∧ Below w.heap.size w w' := by
  go_enter Try.func26, Try.ntmps26
  go_wp2_with fail
  refine (HC.out _).mono ?_
  rintro e w1 ⟨rfl, hb⟩
  have hB := (by go_grown : Below w.heap.size w _).trans (hb.mono (by simp))
  have q0 := cell_carry hb (b := w.heap.size) (o := 0) (v := .int .i64 0) (by simp [go_sem])
  have q1 := cell_carry hb (b := w.heap.size) (o := 1) (v := .int .i64 0) (by simp [go_sem])
  have q2 := fun o => froz_carry hb (b := w.heap.size) (o := 0) (v := .int .i64 0) (by simp [go_sem]) (o' := o) (by simp [go_sem])
  clear hb
  go_wp2_with fail
  refine (HA.out _).mono ?_
  rintro e _ ⟨rfl, rfl⟩
  go_wp2_with fail
  refine (HB.out _).mono ?_
  rintro e _ ⟨rfl, rfl⟩
  go_wp2
  refine bodyPost_ret (v := pr 0 0 2) (by simp [results, Try.results26, go_sem, q0, q1]) rfl ⟨rfl, ?_⟩
  have hz := hB.size
  go_grown

set_option maxHeartbeats 1000000 in
theorem gp_over1 (s A B : ByteArray) (e2 n1 n2 : Int) (w : World)
    (h2 : (e2 == 2) = false)
    (HC : Hid (∀ w, Calls Try.prog 35 #[.string s] w fun e w' => e = .returned (.tuple #[.string A, .string B, .bool true]) ∧ Below w.heap.size w w'))
    (HA : Hid (∀ w, Calls Try.prog 36 #[.string A] w fun e w' => e = .returned (.tuple #[.int .i64 n1, .int .i64 14]) ∧ w = w'))
    (HB : Hid (∀ w, Calls Try.prog 36 #[.string B] w fun e w' => e = .returned (.tuple #[.int .i64 n2, .int .i64 e2]) ∧ w = w'))
    : Calls Try.prog 26 #[.string s] w fun e w' => e = .returned (pr 0 0 14) ∧ Below w.heap.size w w' := by
  go_enter Try.func26, Try.ntmps26
  go_wp2_with fail
  refine (HC.out _).mono ?_
  rintro e w1 ⟨rfl, hb⟩
  have hB := (by go_grown : Below w.heap.size w _).trans (hb.mono (by simp))
  have q0 := cell_carry hb (b := w.heap.size) (o := 0) (v := .int .i64 0) (by simp [go_sem])
  have q1 := cell_carry hb (b := w.heap.size) (o := 1) (v := .int .i64 0) (by simp [go_sem])
  have q2 := fun o => froz_carry hb (b := w.heap.size) (o := 0) (v := .int .i64 0) (by simp [go_sem]) (o' := o) (by simp [go_sem])
  clear hb
  have t0 := fun O => cell_alloc q0 O
  have t1 := fun O => cell_alloc q1 O
  have t2 := fun O o => froz_alloc q0 (q2 o) O
  go_wp2_with fail
  refine (HA.out _).mono ?_
  rintro e _ ⟨rfl, rfl⟩
  go_wp2_with fail
  refine (HB.out _).mono ?_
  rintro e _ ⟨rfl, rfl⟩
  go_wp2
  refine bodyPost_ret (v := pr 0 0 14) (by simp [results, Try.results26, go_sem, t0, t1]) rfl ⟨rfl, ?_⟩
  have hz := hB.size
  go_grown

set_option maxHeartbeats 1000000 in
theorem gp_over2 (s A B : ByteArray) (n1 n2 : Int) (w : World)
    (HC : Hid (∀ w, Calls Try.prog 35 #[.string s] w fun e w' => e = .returned (.tuple #[.string A, .string B, .bool true]) ∧ Below w.heap.size w w'))
    (HA : Hid (∀ w, Calls Try.prog 36 #[.string A] w fun e w' => e = .returned (.tuple #[.int .i64 n1, .int .i64 0]) ∧ w = w'))
    (HB : Hid (∀ w, Calls Try.prog 36 #[.string B] w fun e w' => e = .returned (.tuple #[.int .i64 n2, .int .i64 14]) ∧ w = w'))
    : Calls Try.prog 26 #[.string s] w fun e w' => e = .returned (pr 0 0 14) ∧ Below w.heap.size w w' := by
  go_enter Try.func26, Try.ntmps26
  go_wp2_with fail
  refine (HC.out _).mono ?_
  rintro e w1 ⟨rfl, hb⟩
  have hB := (by go_grown : Below w.heap.size w _).trans (hb.mono (by simp))
  have q0 := cell_carry hb (b := w.heap.size) (o := 0) (v := .int .i64 0) (by simp [go_sem])
  have q1 := cell_carry hb (b := w.heap.size) (o := 1) (v := .int .i64 0) (by simp [go_sem])
  have q2 := fun o => froz_carry hb (b := w.heap.size) (o := 0) (v := .int .i64 0) (by simp [go_sem]) (o' := o) (by simp [go_sem])
  clear hb
  have t0 := fun O => cell_alloc q0 O
  have t1 := fun O => cell_alloc q1 O
  have t2 := fun O o => froz_alloc q0 (q2 o) O
  go_wp2_with fail
  refine (HA.out _).mono ?_
  rintro e _ ⟨rfl, rfl⟩
  go_wp2_with fail
  refine (HB.out _).mono ?_
  rintro e _ ⟨rfl, rfl⟩
  go_wp2
  refine bodyPost_ret (v := pr 0 0 14) (by simp [results, Try.results26, go_sem, t0, t1]) rfl ⟨rfl, ?_⟩
  have hz := hB.size
  go_grown

set_option maxHeartbeats 1000000 in
theorem gp_mayf (s A B : ByteArray) (n1 n2 : Int) (w : World)
    (HC : Hid (∀ w, Calls Try.prog 35 #[.string s] w fun e w' => e = .returned (.tuple #[.string A, .string B, .bool true]) ∧ Below w.heap.size w w'))
    (HA : Hid (∀ w, Calls Try.prog 36 #[.string A] w fun e w' => e = .returned (.tuple #[.int .i64 n1, .int .i64 0]) ∧ w = w'))
    (HB : Hid (∀ w, Calls Try.prog 36 #[.string B] w fun e w' => e = .returned (.tuple #[.int .i64 n2, .int .i64 0]) ∧ w = w'))
    (HM : Hid (∀ w, Calls Try.prog 24 #[cv n1 n2] w fun e w' => e = .returned (.bool false) ∧ Below w.heap.size w w'))
    : Calls Try.prog 26 #[.string s] w fun e w' => e = .returned (pr 0 0 14) ∧ Below w.heap.size w w' := by
  go_enter Try.func26, Try.ntmps26
  go_wp2_with fail
  refine (HC.out _).mono ?_
  rintro e w1 ⟨rfl, hb⟩
  have hB := (by go_grown : Below w.heap.size w _).trans (hb.mono (by simp))
  have q0 := cell_carry hb (b := w.heap.size) (o := 0) (v := .int .i64 0) (by simp [go_sem])
  have q1 := cell_carry hb (b := w.heap.size) (o := 1) (v := .int .i64 0) (by simp [go_sem])
  have q2 := fun o => froz_carry hb (b := w.heap.size) (o := 0) (v := .int .i64 0) (by simp [go_sem]) (o' := o) (by simp [go_sem])
  clear hb
  have t0 := fun O => cell_alloc q0 O
  have t1 := fun O => cell_alloc q1 O
  have t2 := fun O o => froz_alloc q0 (q2 o) O
  go_wp2_with fail
  refine (HA.out _).mono ?_
  rintro e _ ⟨rfl, rfl⟩
  go_wp2_with fail
  refine (HB.out _).mono ?_
  rintro e _ ⟨rfl, rfl⟩
  go_wp2_with fail
  refine (HM.out _).mono ?_
  rintro e w2 ⟨rfl, hb⟩
  replace hB := (hB.trans (below_alloc w1 _ |>.mono hB.size)).trans (hb.mono (Nat.le_trans hB.size (by simp)))
  have s0 := cell_carry hb (t0 _)
  have s1 := cell_carry hb (t1 _)
  have s2 := fun o => froz_carry hb (t0 _) (t2 _ o)
  have s3 := cell_carry hb (b := w1.heap.size) (o := 0) (v := .int .i64 n1) (by simp [go_sem])
  have s4 := cell_carry hb (b := w1.heap.size) (o := 1) (v := .int .i64 n2) (by simp [go_sem])
  clear t0 t1 t2 q0 q1 q2 hb
  go_wp2
  refine bodyPost_ret (v := pr 0 0 14) (by simp [results, Try.results26, go_sem, s0, s1]) rfl ⟨rfl, ?_⟩
  have hz := hB.size
  go_grown

set_option maxHeartbeats 1000000 in
theorem gp_mayt (s A B : ByteArray) (n1 n2 : Int) (w : World)
    (HC : Hid (∀ w, Calls Try.prog 35 #[.string s] w fun e w' => e = .returned (.tuple #[.string A, .string B, .bool true]) ∧ Below w.heap.size w w'))
    (HA : Hid (∀ w, Calls Try.prog 36 #[.string A] w fun e w' => e = .returned (.tuple #[.int .i64 n1, .int .i64 0]) ∧ w = w'))
    (HB : Hid (∀ w, Calls Try.prog 36 #[.string B] w fun e w' => e = .returned (.tuple #[.int .i64 n2, .int .i64 0]) ∧ w = w'))
    (HM : Hid (∀ w, Calls Try.prog 24 #[cv n1 n2] w fun e w' => e = .returned (.bool true) ∧ Below w.heap.size w w'))
    : Calls Try.prog 26 #[.string s] w fun e w' => e = .returned (pr n1 n2 0) ∧ Below w.heap.size w w' := by
  go_enter Try.func26, Try.ntmps26
  go_wp2_with fail
  refine (HC.out _).mono ?_
  rintro e w1 ⟨rfl, hb⟩
  have hB := (by go_grown : Below w.heap.size w _).trans (hb.mono (by simp))
  have q0 := cell_carry hb (b := w.heap.size) (o := 0) (v := .int .i64 0) (by simp [go_sem])
  have q1 := cell_carry hb (b := w.heap.size) (o := 1) (v := .int .i64 0) (by simp [go_sem])
  have q2 := fun o => froz_carry hb (b := w.heap.size) (o := 0) (v := .int .i64 0) (by simp [go_sem]) (o' := o) (by simp [go_sem])
  clear hb
  have t0 := fun O => cell_alloc q0 O
  have t1 := fun O => cell_alloc q1 O
  have t2 := fun O o => froz_alloc q0 (q2 o) O
  go_wp2_with fail
  refine (HA.out _).mono ?_
  rintro e _ ⟨rfl, rfl⟩
  go_wp2_with fail
  refine (HB.out _).mono ?_
  rintro e _ ⟨rfl, rfl⟩
  go_wp2_with fail
  refine (HM.out _).mono ?_
  rintro e w2 ⟨rfl, hb⟩
  replace hB := (hB.trans (below_alloc w1 _ |>.mono hB.size)).trans (hb.mono (Nat.le_trans hB.size (by simp)))
  have s0 := cell_carry hb (t0 _)
  have s1 := cell_carry hb (t1 _)
  have s2 := fun o => froz_carry hb (t0 _) (t2 _ o)
  have s3 := cell_carry hb (b := w1.heap.size) (o := 0) (v := .int .i64 n1) (by simp [go_sem])
  have s4 := cell_carry hb (b := w1.heap.size) (o := 1) (v := .int .i64 n2) (by simp [go_sem])
  clear t0 t1 t2 q0 q1 q2 hb
  go_wp2
  refine bodyPost_ret (v := pr n1 n2 0) (by simp [results, Try.results26, go_sem, s0, s1]) rfl ⟨rfl, ?_⟩
  have hz := hB.size
  go_grown

end Go.Proofs.Ytknnobijdojjhaa
