/-
  Contract of the document's Parse (layer 2) out of its callees', arm by arm. Conditions: those contracts; texts of at most 100 bytes.
-/
import Derived.Test.YtknnobijdojjhaaDig
import Derived.Test.YtknnobijdojjhaaGp
import Derived.Test.YtknnobijdojjhaaG3
import Derived.Test.YtknnobijdojjhaaCarry
namespace Go.Proofs.Ytknnobijdojjhaa
open Go.RowKit Go.Sort
set_option linter.unusedVariables false

set_option maxRecDepth 100000 in
set_option maxHeartbeats 1000000 in
theorem rp0m_o5 (s A B : ByteArray) (k j m ee : Nat) (e1 e2 n1 n2 x1 x2 : Int) (w : World) (hs : s.size ≤ 100) (h0 : 0 < s.size) (hm : ((s[0].toNat : Int) == 45) = false)
    (HK : Hid (∀ w, Calls Try.prog 38 #[.string s, .int .i64 0] w fun e w' => e = .returned (.int .i64 k) ∧ w = w'))
    (hk : k < s.size)
    (c1 : ((s[k].toNat : Int) != 43) = true) (c2 : ((s[k].toNat : Int) != 45) = false) (c3 : ((s[k].toNat : Int) == 43) = false)
    (hj : (k : Int) + 1 = j) (hm2 : (s.size : Int) - 1 = m)
    (HE : Hid (∀ w, Calls Try.prog 38 #[.string s, .int .i64 j] w fun e w' => e = .returned (.int .i64 m) ∧ w = w'))
    (hms : m < s.size) (hi : ((s[m].toNat : Int) != 105) = false) (hjm : j ≤ m) (hkm : k < m)
    (hA : s.extract 0 k = A) (hB0 : s.extract k m = B)
    (HA : Hid (∀ w, Calls Try.prog 39 #[.string A] w fun e w' => e = .returned (.tuple #[.int .i64 n1, .int .i64 2]) ∧ Below w.heap.size w w'))
    (HB : Hid (∀ w, Calls Try.prog 39 #[.string B] w fun e w' => e = .returned (.tuple #[.int .i64 n2, .int .i64 e2]) ∧ Below w.heap.size w w'))
    : Calls Try.prog 28 #[.string s] w fun e w' => e = .returned (pr 0 0 2) ∧ Below w.heap.size w w' := by
  have h0' : (0 : Int) < s.size := by omega
  have hk' : ¬ (s.size : Int) ≤ k := by omega
  have hm' : (m : Int) < s.size := by omega
  have hjm' : (j : Int) ≤ m := by omega
  have hkm' : (k : Int) ≤ m := by omega
  go_enter Try.func28, Try.ntmps28
  go_wp2_with fail
  refine (HK.out _).mono ?_
  rintro e _ ⟨rfl, rfl⟩
  go_wp2_with fail
  refine (HE.out _).mono ?_
  rintro e _ ⟨rfl, rfl⟩
  go_wp2_with fail
  refine (HA.out _).mono ?_
  rintro e w1 ⟨rfl, hb⟩
  have hB := (by go_grown : Below w.heap.size w _).trans (hb.mono (by simp))
  have q0 := cell_carry hb (b := w.heap.size) (o := 0) (v := .int .i64 0) (by simp [go_sem])
  have q1 := cell_carry hb (b := w.heap.size) (o := 1) (v := .int .i64 0) (by simp [go_sem])
  have q2 := fun o => froz_carry hb (b := w.heap.size) (o := 0) (v := .int .i64 0) (by simp [go_sem]) (o' := o) (by simp [go_sem])
  clear hb
  go_wp2_with fail
  refine (HB.out _).mono ?_
  rintro e w2 ⟨rfl, hb⟩
  replace hB := below_step hB hb
  have s0 := cell_carry hb q0
  have s1 := cell_carry hb q1
  have s2 := fun o => froz_carry hb q0 (q2 o)
  clear q0 q1 q2 hb
  go_wp2
  refine bodyPost_ret (v := pr 0 0 2) (by simp [results, Try.results28, go_sem, s0, s1]) rfl ⟨rfl, ?_⟩
  have hz := hB.size
  go_grown

set_option maxRecDepth 100000 in
set_option maxHeartbeats 1000000 in
theorem rp0m_o6 (s A B : ByteArray) (k j m ee : Nat) (e1 e2 n1 n2 x1 x2 : Int) (w : World) (hs : s.size ≤ 100) (h0 : 0 < s.size) (hm : ((s[0].toNat : Int) == 45) = false)
    (HK : Hid (∀ w, Calls Try.prog 38 #[.string s, .int .i64 0] w fun e w' => e = .returned (.int .i64 k) ∧ w = w'))
    (hk : k < s.size)
    (c1 : ((s[k].toNat : Int) != 43) = true) (c2 : ((s[k].toNat : Int) != 45) = false) (c3 : ((s[k].toNat : Int) == 43) = false)
    (hj : (k : Int) + 1 = j) (hm2 : (s.size : Int) - 1 = m)
    (HE : Hid (∀ w, Calls Try.prog 38 #[.string s, .int .i64 j] w fun e w' => e = .returned (.int .i64 m) ∧ w = w'))
    (hms : m < s.size) (hi : ((s[m].toNat : Int) != 105) = false) (hjm : j ≤ m) (hkm : k < m)
    (hA : s.extract 0 k = A) (hB0 : s.extract k m = B)
    (d1 : (e1 == 2) = false)
    (HA : Hid (∀ w, Calls Try.prog 39 #[.string A] w fun e w' => e = .returned (.tuple #[.int .i64 n1, .int .i64 e1]) ∧ Below w.heap.size w w'))
    (HB : Hid (∀ w, Calls Try.prog 39 #[.string B] w fun e w' => e = .returned (.tuple #[.int .i64 n2, .int .i64 2]) ∧ Below w.heap.size w w'))
    : Calls Try.prog 28 #[.string s] w fun e w' => e = .returned (pr 0 0 2) ∧ Below w.heap.size w w' := by
  have h0' : (0 : Int) < s.size := by omega
  have hk' : ¬ (s.size : Int) ≤ k := by omega
  have hm' : (m : Int) < s.size := by omega
  have hjm' : (j : Int) ≤ m := by omega
  have hkm' : (k : Int) ≤ m := by omega
  go_enter Try.func28, Try.ntmps28
  go_wp2_with fail
  refine (HK.out _).mono ?_
  rintro e _ ⟨rfl, rfl⟩
  go_wp2_with fail
  refine (HE.out _).mono ?_
  rintro e _ ⟨rfl, rfl⟩
  go_wp2_with fail
  refine (HA.out _).mono ?_
  rintro e w1 ⟨rfl, hb⟩
  have hB := (by go_grown : Below w.heap.size w _).trans (hb.mono (by simp))
  have q0 := cell_carry hb (b := w.heap.size) (o := 0) (v := .int .i64 0) (by simp [go_sem])
  have q1 := cell_carry hb (b := w.heap.size) (o := 1) (v := .int .i64 0) (by simp [go_sem])
  have q2 := fun o => froz_carry hb (b := w.heap.size) (o := 0) (v := .int .i64 0) (by simp [go_sem]) (o' := o) (by simp [go_sem])
  clear hb
  go_wp2_with fail
  refine (HB.out _).mono ?_
  rintro e w2 ⟨rfl, hb⟩
  replace hB := below_step hB hb
  have s0 := cell_carry hb q0
  have s1 := cell_carry hb q1
  have s2 := fun o => froz_carry hb q0 (q2 o)
  clear q0 q1 q2 hb
  go_wp2
  refine bodyPost_ret (v := pr 0 0 2) (by simp [results, Try.results28, go_sem, s0, s1]) rfl ⟨rfl, ?_⟩
  have hz := hB.size
  go_grown

set_option maxRecDepth 100000 in
set_option maxHeartbeats 1000000 in
theorem rp0m_o7 (s A B : ByteArray) (k j m ee : Nat) (e1 e2 n1 n2 x1 x2 : Int) (w : World) (hs : s.size ≤ 100) (h0 : 0 < s.size) (hm : ((s[0].toNat : Int) == 45) = false)
    (HK : Hid (∀ w, Calls Try.prog 38 #[.string s, .int .i64 0] w fun e w' => e = .returned (.int .i64 k) ∧ w = w'))
    (hk : k < s.size)
    (c1 : ((s[k].toNat : Int) != 43) = true) (c2 : ((s[k].toNat : Int) != 45) = false) (c3 : ((s[k].toNat : Int) == 43) = false)
    (hj : (k : Int) + 1 = j) (hm2 : (s.size : Int) - 1 = m)
    (HE : Hid (∀ w, Calls Try.prog 38 #[.string s, .int .i64 j] w fun e w' => e = .returned (.int .i64 m) ∧ w = w'))
    (hms : m < s.size) (hi : ((s[m].toNat : Int) != 105) = false) (hjm : j ≤ m) (hkm : k < m)
    (hA : s.extract 0 k = A) (hB0 : s.extract k m = B)
    (d2 : (e2 == 2) = false)
    (HA : Hid (∀ w, Calls Try.prog 39 #[.string A] w fun e w' => e = .returned (.tuple #[.int .i64 n1, .int .i64 14]) ∧ Below w.heap.size w w'))
    (HB : Hid (∀ w, Calls Try.prog 39 #[.string B] w fun e w' => e = .returned (.tuple #[.int .i64 n2, .int .i64 e2]) ∧ Below w.heap.size w w'))
    : Calls Try.prog 28 #[.string s] w fun e w' => e = .returned (pr 0 0 14) ∧ Below w.heap.size w w' := by
  have h0' : (0 : Int) < s.size := by omega
  have hk' : ¬ (s.size : Int) ≤ k := by omega
  have hm' : (m : Int) < s.size := by omega
  have hjm' : (j : Int) ≤ m := by omega
  have hkm' : (k : Int) ≤ m := by omega
  go_enter Try.func28, Try.ntmps28
  go_wp2_with fail
  refine (HK.out _).mono ?_
  rintro e _ ⟨rfl, rfl⟩
  go_wp2_with fail
  refine (HE.out _).mono ?_
  rintro e _ ⟨rfl, rfl⟩
  go_wp2_with fail
  refine (HA.out _).mono ?_
  rintro e w1 ⟨rfl, hb⟩
  have hB := (by go_grown : Below w.heap.size w _).trans (hb.mono (by simp))
  have q0 := cell_carry hb (b := w.heap.size) (o := 0) (v := .int .i64 0) (by simp [go_sem])
  have q1 := cell_carry hb (b := w.heap.size) (o := 1) (v := .int .i64 0) (by simp [go_sem])
  have q2 := fun o => froz_carry hb (b := w.heap.size) (o := 0) (v := .int .i64 0) (by simp [go_sem]) (o' := o) (by simp [go_sem])
  clear hb
  go_wp2_with fail
  refine (HB.out _).mono ?_
  rintro e w2 ⟨rfl, hb⟩
  replace hB := below_step hB hb
  have s0 := cell_carry hb q0
  have s1 := cell_carry hb q1
  have s2 := fun o => froz_carry hb q0 (q2 o)
  clear q0 q1 q2 hb
  go_wp2
  refine bodyPost_ret (v := pr 0 0 14) (by simp [results, Try.results28, go_sem, s0, s1]) rfl ⟨rfl, ?_⟩
  have hz := hB.size
  go_grown

set_option maxRecDepth 100000 in
set_option maxHeartbeats 1000000 in
theorem rp0m_o8 (s A B : ByteArray) (k j m ee : Nat) (e1 e2 n1 n2 x1 x2 : Int) (w : World) (hs : s.size ≤ 100) (h0 : 0 < s.size) (hm : ((s[0].toNat : Int) == 45) = false)
    (HK : Hid (∀ w, Calls Try.prog 38 #[.string s, .int .i64 0] w fun e w' => e = .returned (.int .i64 k) ∧ w = w'))
    (hk : k < s.size)
    (c1 : ((s[k].toNat : Int) != 43) = true) (c2 : ((s[k].toNat : Int) != 45) = false) (c3 : ((s[k].toNat : Int) == 43) = false)
    (hj : (k : Int) + 1 = j) (hm2 : (s.size : Int) - 1 = m)
    (HE : Hid (∀ w, Calls Try.prog 38 #[.string s, .int .i64 j] w fun e w' => e = .returned (.int .i64 m) ∧ w = w'))
    (hms : m < s.size) (hi : ((s[m].toNat : Int) != 105) = false) (hjm : j ≤ m) (hkm : k < m)
    (hA : s.extract 0 k = A) (hB0 : s.extract k m = B)
    (HA : Hid (∀ w, Calls Try.prog 39 #[.string A] w fun e w' => e = .returned (.tuple #[.int .i64 n1, .int .i64 0]) ∧ Below w.heap.size w w'))
    (HB : Hid (∀ w, Calls Try.prog 39 #[.string B] w fun e w' => e = .returned (.tuple #[.int .i64 n2, .int .i64 14]) ∧ Below w.heap.size w w'))
    : Calls Try.prog 28 #[.string s] w fun e w' => e = .returned (pr 0 0 14) ∧ Below w.heap.size w w' := by
  have h0' : (0 : Int) < s.size := by omega
  have hk' : ¬ (s.size : Int) ≤ k := by omega
  have hm' : (m : Int) < s.size := by omega
  have hjm' : (j : Int) ≤ m := by omega
  have hkm' : (k : Int) ≤ m := by omega
  go_enter Try.func28, Try.ntmps28
  go_wp2_with fail
  refine (HK.out _).mono ?_
  rintro e _ ⟨rfl, rfl⟩
  go_wp2_with fail
  refine (HE.out _).mono ?_
  rintro e _ ⟨rfl, rfl⟩
  go_wp2_with fail
  refine (HA.out _).mono ?_
  rintro e w1 ⟨rfl, hb⟩
  have hB := (by go_grown : Below w.heap.size w _).trans (hb.mono (by simp))
  have q0 := cell_carry hb (b := w.heap.size) (o := 0) (v := .int .i64 0) (by simp [go_sem])
  have q1 := cell_carry hb (b := w.heap.size) (o := 1) (v := .int .i64 0) (by simp [go_sem])
  have q2 := fun o => froz_carry hb (b := w.heap.size) (o := 0) (v := .int .i64 0) (by simp [go_sem]) (o' := o) (by simp [go_sem])
  clear hb
  go_wp2_with fail
  refine (HB.out _).mono ?_
  rintro e w2 ⟨rfl, hb⟩
  replace hB := below_step hB hb
  have s0 := cell_carry hb q0
  have s1 := cell_carry hb q1
  have s2 := fun o => froz_carry hb q0 (q2 o)
  clear q0 q1 q2 hb
  go_wp2
  refine bodyPost_ret (v := pr 0 0 14) (by simp [results, Try.results28, go_sem, s0, s1]) rfl ⟨rfl, ?_⟩
  have hz := hB.size
  go_grown

set_option maxRecDepth 100000 in
set_option maxHeartbeats 1000000 in
theorem rp0m_o9 (s A B : ByteArray) (k j m ee : Nat) (e1 e2 n1 n2 x1 x2 : Int) (w : World) (hs : s.size ≤ 100) (h0 : 0 < s.size) (hm : ((s[0].toNat : Int) == 45) = false)
    (HK : Hid (∀ w, Calls Try.prog 38 #[.string s, .int .i64 0] w fun e w' => e = .returned (.int .i64 k) ∧ w = w'))
    (hk : k < s.size)
    (c1 : ((s[k].toNat : Int) != 43) = true) (c2 : ((s[k].toNat : Int) != 45) = false) (c3 : ((s[k].toNat : Int) == 43) = false)
    (hj : (k : Int) + 1 = j) (hm2 : (s.size : Int) - 1 = m)
    (HE : Hid (∀ w, Calls Try.prog 38 #[.string s, .int .i64 j] w fun e w' => e = .returned (.int .i64 m) ∧ w = w'))
    (hms : m < s.size) (hi : ((s[m].toNat : Int) != 105) = false) (hjm : j ≤ m) (hkm : k < m)
    (hA : s.extract 0 k = A) (hB0 : s.extract k m = B)
    (HA : Hid (∀ w, Calls Try.prog 39 #[.string A] w fun e w' => e = .returned (.tuple #[.int .i64 n1, .int .i64 0]) ∧ Below w.heap.size w w'))
    (HB : Hid (∀ w, Calls Try.prog 39 #[.string B] w fun e w' => e = .returned (.tuple #[.int .i64 n2, .int .i64 0]) ∧ Below w.heap.size w w'))
    (HP1 : Hid (∀ w, Calls Try.prog 11 #[.int .i64 n1] w fun e w' => e = .returned (.int .i64 x1) ∧ w = w'))
    (g1 : (n1 != x1) = true)
    : Calls Try.prog 28 #[.string s] w fun e w' => e = .returned (pr 0 0 14) ∧ Below w.heap.size w w' := by
  have h0' : (0 : Int) < s.size := by omega
  have hk' : ¬ (s.size : Int) ≤ k := by omega
  have hm' : (m : Int) < s.size := by omega
  have hjm' : (j : Int) ≤ m := by omega
  have hkm' : (k : Int) ≤ m := by omega
  go_enter Try.func28, Try.ntmps28
  go_wp2_with fail
  refine (HK.out _).mono ?_
  rintro e _ ⟨rfl, rfl⟩
  go_wp2_with fail
  refine (HE.out _).mono ?_
  rintro e _ ⟨rfl, rfl⟩
  go_wp2_with fail
  refine (HA.out _).mono ?_
  rintro e w1 ⟨rfl, hb⟩
  have hB := (by go_grown : Below w.heap.size w _).trans (hb.mono (by simp))
  have q0 := cell_carry hb (b := w.heap.size) (o := 0) (v := .int .i64 0) (by simp [go_sem])
  have q1 := cell_carry hb (b := w.heap.size) (o := 1) (v := .int .i64 0) (by simp [go_sem])
  have q2 := fun o => froz_carry hb (b := w.heap.size) (o := 0) (v := .int .i64 0) (by simp [go_sem]) (o' := o) (by simp [go_sem])
  clear hb
  go_wp2_with fail
  refine (HB.out _).mono ?_
  rintro e w2 ⟨rfl, hb⟩
  replace hB := below_step hB hb
  have s0 := cell_carry hb q0
  have s1 := cell_carry hb q1
  have s2 := fun o => froz_carry hb q0 (q2 o)
  clear q0 q1 q2 hb
  go_wp2_with fail
  refine (HP1.out _).mono ?_
  rintro e _ ⟨rfl, rfl⟩
  go_wp2
  refine bodyPost_ret (v := pr 0 0 14) (by simp [results, Try.results28, go_sem, s0, s1]) rfl ⟨rfl, ?_⟩
  have hz := hB.size
  go_grown

set_option maxRecDepth 100000 in
set_option maxHeartbeats 1000000 in
theorem rp0m_o10 (s A B : ByteArray) (k j m ee : Nat) (e1 e2 n1 n2 x1 x2 : Int) (w : World) (hs : s.size ≤ 100) (h0 : 0 < s.size) (hm : ((s[0].toNat : Int) == 45) = false)
    (HK : Hid (∀ w, Calls Try.prog 38 #[.string s, .int .i64 0] w fun e w' => e = .returned (.int .i64 k) ∧ w = w'))
    (hk : k < s.size)
    (c1 : ((s[k].toNat : Int) != 43) = true) (c2 : ((s[k].toNat : Int) != 45) = false) (c3 : ((s[k].toNat : Int) == 43) = false)
    (hj : (k : Int) + 1 = j) (hm2 : (s.size : Int) - 1 = m)
    (HE : Hid (∀ w, Calls Try.prog 38 #[.string s, .int .i64 j] w fun e w' => e = .returned (.int .i64 m) ∧ w = w'))
    (hms : m < s.size) (hi : ((s[m].toNat : Int) != 105) = false) (hjm : j ≤ m) (hkm : k < m)
    (hA : s.extract 0 k = A) (hB0 : s.extract k m = B)
    (HA : Hid (∀ w, Calls Try.prog 39 #[.string A] w fun e w' => e = .returned (.tuple #[.int .i64 n1, .int .i64 0]) ∧ Below w.heap.size w w'))
    (HB : Hid (∀ w, Calls Try.prog 39 #[.string B] w fun e w' => e = .returned (.tuple #[.int .i64 n2, .int .i64 0]) ∧ Below w.heap.size w w'))
    (HP1 : Hid (∀ w, Calls Try.prog 11 #[.int .i64 n1] w fun e w' => e = .returned (.int .i64 n1) ∧ w = w'))
    (HP2 : Hid (∀ w, Calls Try.prog 11 #[.int .i64 n2] w fun e w' => e = .returned (.int .i64 x2) ∧ w = w'))
    (g2 : (n2 != x2) = true)
    : Calls Try.prog 28 #[.string s] w fun e w' => e = .returned (pr 0 0 14) ∧ Below w.heap.size w w' := by
  have h0' : (0 : Int) < s.size := by omega
  have hk' : ¬ (s.size : Int) ≤ k := by omega
  have hm' : (m : Int) < s.size := by omega
  have hjm' : (j : Int) ≤ m := by omega
  have hkm' : (k : Int) ≤ m := by omega
  go_enter Try.func28, Try.ntmps28
  go_wp2_with fail
  refine (HK.out _).mono ?_
  rintro e _ ⟨rfl, rfl⟩
  go_wp2_with fail
  refine (HE.out _).mono ?_
  rintro e _ ⟨rfl, rfl⟩
  go_wp2_with fail
  refine (HA.out _).mono ?_
  rintro e w1 ⟨rfl, hb⟩
  have hB := (by go_grown : Below w.heap.size w _).trans (hb.mono (by simp))
  have q0 := cell_carry hb (b := w.heap.size) (o := 0) (v := .int .i64 0) (by simp [go_sem])
  have q1 := cell_carry hb (b := w.heap.size) (o := 1) (v := .int .i64 0) (by simp [go_sem])
  have q2 := fun o => froz_carry hb (b := w.heap.size) (o := 0) (v := .int .i64 0) (by simp [go_sem]) (o' := o) (by simp [go_sem])
  clear hb
  go_wp2_with fail
  refine (HB.out _).mono ?_
  rintro e w2 ⟨rfl, hb⟩
  replace hB := below_step hB hb
  have s0 := cell_carry hb q0
  have s1 := cell_carry hb q1
  have s2 := fun o => froz_carry hb q0 (q2 o)
  clear q0 q1 q2 hb
  go_wp2_with fail
  refine (HP1.out _).mono ?_
  rintro e _ ⟨rfl, rfl⟩
  go_wp2_with fail
  refine (HP2.out _).mono ?_
  rintro e _ ⟨rfl, rfl⟩
  go_wp2
  refine bodyPost_ret (v := pr 0 0 14) (by simp [results, Try.results28, go_sem, s0, s1]) rfl ⟨rfl, ?_⟩
  have hz := hB.size
  go_grown

set_option maxRecDepth 100000 in
set_option maxHeartbeats 1000000 in
theorem rp0m_o11 (s A B : ByteArray) (k j m ee : Nat) (e1 e2 n1 n2 x1 x2 : Int) (w : World) (hs : s.size ≤ 100) (h0 : 0 < s.size) (hm : ((s[0].toNat : Int) == 45) = false)
    (HK : Hid (∀ w, Calls Try.prog 38 #[.string s, .int .i64 0] w fun e w' => e = .returned (.int .i64 k) ∧ w = w'))
    (hk : k < s.size)
    (c1 : ((s[k].toNat : Int) != 43) = true) (c2 : ((s[k].toNat : Int) != 45) = false) (c3 : ((s[k].toNat : Int) == 43) = false)
    (hj : (k : Int) + 1 = j) (hm2 : (s.size : Int) - 1 = m)
    (HE : Hid (∀ w, Calls Try.prog 38 #[.string s, .int .i64 j] w fun e w' => e = .returned (.int .i64 m) ∧ w = w'))
    (hms : m < s.size) (hi : ((s[m].toNat : Int) != 105) = false) (hjm : j ≤ m) (hkm : k < m)
    (hA : s.extract 0 k = A) (hB0 : s.extract k m = B)
    (HA : Hid (∀ w, Calls Try.prog 39 #[.string A] w fun e w' => e = .returned (.tuple #[.int .i64 n1, .int .i64 0]) ∧ Below w.heap.size w w'))
    (HB : Hid (∀ w, Calls Try.prog 39 #[.string B] w fun e w' => e = .returned (.tuple #[.int .i64 n2, .int .i64 0]) ∧ Below w.heap.size w w'))
    (HP1 : Hid (∀ w, Calls Try.prog 11 #[.int .i64 n1] w fun e w' => e = .returned (.int .i64 n1) ∧ w = w'))
    (HP2 : Hid (∀ w, Calls Try.prog 11 #[.int .i64 n2] w fun e w' => e = .returned (.int .i64 n2) ∧ w = w'))
    : Calls Try.prog 28 #[.string s] w fun e w' => e = .returned (pr n1 n2 0) ∧ Below w.heap.size w w' := by
  have h0' : (0 : Int) < s.size := by omega
  have hk' : ¬ (s.size : Int) ≤ k := by omega
  have hm' : (m : Int) < s.size := by omega
  have hjm' : (j : Int) ≤ m := by omega
  have hkm' : (k : Int) ≤ m := by omega
  go_enter Try.func28, Try.ntmps28
  go_wp2_with fail
  refine (HK.out _).mono ?_
  rintro e _ ⟨rfl, rfl⟩
  go_wp2_with fail
  refine (HE.out _).mono ?_
  rintro e _ ⟨rfl, rfl⟩
  go_wp2_with fail
  refine (HA.out _).mono ?_
  rintro e w1 ⟨rfl, hb⟩
  have hB := (by go_grown : Below w.heap.size w _).trans (hb.mono (by simp))
  have q0 := cell_carry hb (b := w.heap.size) (o := 0) (v := .int .i64 0) (by simp [go_sem])
  have q1 := cell_carry hb (b := w.heap.size) (o := 1) (v := .int .i64 0) (by simp [go_sem])
  have q2 := fun o => froz_carry hb (b := w.heap.size) (o := 0) (v := .int .i64 0) (by simp [go_sem]) (o' := o) (by simp [go_sem])
  clear hb
  go_wp2_with fail
  refine (HB.out _).mono ?_
  rintro e w2 ⟨rfl, hb⟩
  replace hB := below_step hB hb
  have s0 := cell_carry hb q0
  have s1 := cell_carry hb q1
  have s2 := fun o => froz_carry hb q0 (q2 o)
  clear q0 q1 q2 hb
  go_wp2_with fail
  refine (HP1.out _).mono ?_
  rintro e _ ⟨rfl, rfl⟩
  go_wp2_with fail
  refine (HP2.out _).mono ?_
  rintro e _ ⟨rfl, rfl⟩
  go_wp2
  refine bodyPost_ret (v := pr n1 n2 0) (by simp [results, Try.results28, go_sem, s0, s1]) rfl ⟨rfl, ?_⟩
  have hz := hB.size
  go_grown

end Go.Proofs.Ytknnobijdojjhaa
