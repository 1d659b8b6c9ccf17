/-
  Contract of the document's Parse (layer 2) out of its callees', arm by arm. Conditions: those contracts; texts of at most 100 bytes.
-/
import Derived.Test.YtknnobijdojjhaaDig
import Derived.Test.YtknnobijdojjhaaGp
import Derived.Test.YtknnobijdojjhaaG3
import Derived.Test.YtknnobijdojjhaaCarry
namespace Go.Proofs.Ytknnobijdojjhaa
open Go.RowKit Go.Sort
set_option linter.unusedVariables false

set_option maxRecDepth 100000 in
set_option maxHeartbeats 1000000 in
theorem rp0_o1 (s A B : ByteArray) (k j m ee : Nat) (e1 e2 n1 n2 x1 x2 : Int) (w : World) (hs : s.size ≤ 100) (h0 : 0 < s.size) (hm : ((s[0].toNat : Int) == 45) = false)
    (HK : Hid (∀ w, Calls Try.prog 38 #[.string s, .int .i64 0] w fun e w' => e = .returned (.int .i64 k) ∧ w = w'))
    (hk : ¬ k < s.size)
    : Calls Try.prog 28 #[.string s] w fun e w' => e = .returned (pr 0 0 2) ∧ Below w.heap.size w w' := by
  have h0' : (0 : Int) < s.size := by omega
  have hk' : (s.size : Int) ≤ k := by omega
  go_enter Try.func28, Try.ntmps28
  go_wp2_with fail
  refine (HK.out _).mono ?_
  rintro e _ ⟨rfl, rfl⟩
  go_wp2
  refine bodyPost_ret (v := pr 0 0 2) (by simp [results, Try.results28, go_sem]) rfl ⟨rfl, ?_⟩
  go_grown

set_option maxRecDepth 100000 in
set_option maxHeartbeats 1000000 in
theorem rp1_o1 (s A B : ByteArray) (k j m ee : Nat) (e1 e2 n1 n2 x1 x2 : Int) (w : World) (hs : s.size ≤ 100) (h0 : 0 < s.size) (hm : ((s[0].toNat : Int) == 45) = true)
    (HK : Hid (∀ w, Calls Try.prog 38 #[.string s, .int .i64 1] w fun e w' => e = .returned (.int .i64 k) ∧ w = w'))
    (hk : ¬ k < s.size)
    : Calls Try.prog 28 #[.string s] w fun e w' => e = .returned (pr 0 0 2) ∧ Below w.heap.size w w' := by
  have h0' : (0 : Int) < s.size := by omega
  have hk' : (s.size : Int) ≤ k := by omega
  go_enter Try.func28, Try.ntmps28
  go_wp2_with fail
  refine (HK.out _).mono ?_
  rintro e _ ⟨rfl, rfl⟩
  go_wp2
  refine bodyPost_ret (v := pr 0 0 2) (by simp [results, Try.results28, go_sem]) rfl ⟨rfl, ?_⟩
  go_grown

set_option maxRecDepth 100000 in
set_option maxHeartbeats 1000000 in
theorem rp0_o2 (s A B : ByteArray) (k j m ee : Nat) (e1 e2 n1 n2 x1 x2 : Int) (w : World) (hs : s.size ≤ 100) (h0 : 0 < s.size) (hm : ((s[0].toNat : Int) == 45) = false)
    (HK : Hid (∀ w, Calls Try.prog 38 #[.string s, .int .i64 0] w fun e w' => e = .returned (.int .i64 k) ∧ w = w'))
    (hk : k < s.size)
    (c1 : ((s[k].toNat : Int) != 43) = true) (c2 : ((s[k].toNat : Int) != 45) = true)
    : Calls Try.prog 28 #[.string s] w fun e w' => e = .returned (pr 0 0 2) ∧ Below w.heap.size w w' := by
  have h0' : (0 : Int) < s.size := by omega
  have hk' : ¬ (s.size : Int) ≤ k := by omega
  go_enter Try.func28, Try.ntmps28
  go_wp2_with fail
  refine (HK.out _).mono ?_
  rintro e _ ⟨rfl, rfl⟩
  go_wp2
  refine bodyPost_ret (v := pr 0 0 2) (by simp [results, Try.results28, go_sem]) rfl ⟨rfl, ?_⟩
  go_grown

set_option maxRecDepth 100000 in
set_option maxHeartbeats 1000000 in
theorem rp1_o2 (s A B : ByteArray) (k j m ee : Nat) (e1 e2 n1 n2 x1 x2 : Int) (w : World) (hs : s.size ≤ 100) (h0 : 0 < s.size) (hm : ((s[0].toNat : Int) == 45) = true)
    (HK : Hid (∀ w, Calls Try.prog 38 #[.string s, .int .i64 1] w fun e w' => e = .returned (.int .i64 k) ∧ w = w'))
    (hk : k < s.size)
    (c1 : ((s[k].toNat : Int) != 43) = true) (c2 : ((s[k].toNat : Int) != 45) = true)
    : Calls Try.prog 28 #[.string s] w fun e w' => e = .returned (pr 0 0 2) ∧ Below w.heap.size w w' := by
  have h0' : (0 : Int) < s.size := by omega
  have hk' : ¬ (s.size : Int) ≤ k := by omega
  go_enter Try.func28, Try.ntmps28
  go_wp2_with fail
  refine (HK.out _).mono ?_
  rintro e _ ⟨rfl, rfl⟩
  go_wp2
  refine bodyPost_ret (v := pr 0 0 2) (by simp [results, Try.results28, go_sem]) rfl ⟨rfl, ?_⟩
  go_grown

set_option maxRecDepth 100000 in
set_option maxHeartbeats 1000000 in
theorem rp0p_o3 (s A B : ByteArray) (k j m ee : Nat) (e1 e2 n1 n2 x1 x2 : Int) (w : World) (hs : s.size ≤ 100) (h0 : 0 < s.size) (hm : ((s[0].toNat : Int) == 45) = false)
    (HK : Hid (∀ w, Calls Try.prog 38 #[.string s, .int .i64 0] w fun e w' => e = .returned (.int .i64 k) ∧ w = w'))
    (hk : k < s.size)
    (c1 : ((s[k].toNat : Int) != 43) = false) (c3 : ((s[k].toNat : Int) == 43) = true)
    (hj : (k : Int) + 1 = j) (hm2 : (s.size : Int) - 1 = m)
    (HE : Hid (∀ w, Calls Try.prog 38 #[.string s, .int .i64 j] w fun e w' => e = .returned (.int .i64 ee) ∧ w = w'))
    (he : ((ee : Int) != m) = true)
    : Calls Try.prog 28 #[.string s] w fun e w' => e = .returned (pr 0 0 2) ∧ Below w.heap.size w w' := by
  have h0' : (0 : Int) < s.size := by omega
  have hk' : ¬ (s.size : Int) ≤ k := by omega
  go_enter Try.func28, Try.ntmps28
  go_wp2_with fail
  refine (HK.out _).mono ?_
  rintro e _ ⟨rfl, rfl⟩
  go_wp2_with fail
  refine (HE.out _).mono ?_
  rintro e _ ⟨rfl, rfl⟩
  go_wp2
  refine bodyPost_ret (v := pr 0 0 2) (by simp [results, Try.results28, go_sem]) rfl ⟨rfl, ?_⟩
  go_grown

set_option maxRecDepth 100000 in
set_option maxHeartbeats 1000000 in
theorem rp0p_o4 (s A B : ByteArray) (k j m ee : Nat) (e1 e2 n1 n2 x1 x2 : Int) (w : World) (hs : s.size ≤ 100) (h0 : 0 < s.size) (hm : ((s[0].toNat : Int) == 45) = false)
    (HK : Hid (∀ w, Calls Try.prog 38 #[.string s, .int .i64 0] w fun e w' => e = .returned (.int .i64 k) ∧ w = w'))
    (hk : k < s.size)
    (c1 : ((s[k].toNat : Int) != 43) = false) (c3 : ((s[k].toNat : Int) == 43) = true)
    (hj : (k : Int) + 1 = j) (hm2 : (s.size : Int) - 1 = m)
    (HE : Hid (∀ w, Calls Try.prog 38 #[.string s, .int .i64 j] w fun e w' => e = .returned (.int .i64 m) ∧ w = w'))
    (hms : m < s.size) (hi : ((s[m].toNat : Int) != 105) = true)
    : Calls Try.prog 28 #[.string s] w fun e w' => e = .returned (pr 0 0 2) ∧ Below w.heap.size w w' := by
  have h0' : (0 : Int) < s.size := by omega
  have hk' : ¬ (s.size : Int) ≤ k := by omega
  have hm' : (m : Int) < s.size := by omega
  go_enter Try.func28, Try.ntmps28
  go_wp2_with fail
  refine (HK.out _).mono ?_
  rintro e _ ⟨rfl, rfl⟩
  go_wp2_with fail
  refine (HE.out _).mono ?_
  rintro e _ ⟨rfl, rfl⟩
  go_wp2
  refine bodyPost_ret (v := pr 0 0 2) (by simp [results, Try.results28, go_sem]) rfl ⟨rfl, ?_⟩
  go_grown

set_option maxRecDepth 100000 in
set_option maxHeartbeats 1000000 in
theorem rp0m_o3 (s A B : ByteArray) (k j m ee : Nat) (e1 e2 n1 n2 x1 x2 : Int) (w : World) (hs : s.size ≤ 100) (h0 : 0 < s.size) (hm : ((s[0].toNat : Int) == 45) = false)
    (HK : Hid (∀ w, Calls Try.prog 38 #[.string s, .int .i64 0] w fun e w' => e = .returned (.int .i64 k) ∧ w = w'))
    (hk : k < s.size)
    (c1 : ((s[k].toNat : Int) != 43) = true) (c2 : ((s[k].toNat : Int) != 45) = false) (c3 : ((s[k].toNat : Int) == 43) = false)
    (hj : (k : Int) + 1 = j) (hm2 : (s.size : Int) - 1 = m)
    (HE : Hid (∀ w, Calls Try.prog 38 #[.string s, .int .i64 j] w fun e w' => e = .returned (.int .i64 ee) ∧ w = w'))
    (he : ((ee : Int) != m) = true)
    : Calls Try.prog 28 #[.string s] w fun e w' => e = .returned (pr 0 0 2) ∧ Below w.heap.size w w' := by
  have h0' : (0 : Int) < s.size := by omega
  have hk' : ¬ (s.size : Int) ≤ k := by omega
  go_enter Try.func28, Try.ntmps28
  go_wp2_with fail
  refine (HK.out _).mono ?_
  rintro e _ ⟨rfl, rfl⟩
  go_wp2_with fail
  refine (HE.out _).mono ?_
  rintro e _ ⟨rfl, rfl⟩
  go_wp2
  refine bodyPost_ret (v := pr 0 0 2) (by simp [results, Try.results28, go_sem]) rfl ⟨rfl, ?_⟩
  go_grown

set_option maxRecDepth 100000 in
set_option maxHeartbeats 1000000 in
theorem rp0m_o4 (s A B : ByteArray) (k j m ee : Nat) (e1 e2 n1 n2 x1 x2 : Int) (w : World) (hs : s.size ≤ 100) (h0 : 0 < s.size) (hm : ((s[0].toNat : Int) == 45) = false)
    (HK : Hid (∀ w, Calls Try.prog 38 #[.string s, .int .i64 0] w fun e w' => e = .returned (.int .i64 k) ∧ w = w'))
    (hk : k < s.size)
    (c1 : ((s[k].toNat : Int) != 43) = true) (c2 : ((s[k].toNat : Int) != 45) = false) (c3 : ((s[k].toNat : Int) == 43) = false)
    (hj : (k : Int) + 1 = j) (hm2 : (s.size : Int) - 1 = m)
    (HE : Hid (∀ w, Calls Try.prog 38 #[.string s, .int .i64 j] w fun e w' => e = .returned (.int .i64 m) ∧ w = w'))
    (hms : m < s.size) (hi : ((s[m].toNat : Int) != 105) = true)
    : Calls Try.prog 28 #[.string s] w fun e w' => e = .returned (pr 0 0 2) ∧ Below w.heap.size w w' := by
  have h0' : (0 : Int) < s.size := by omega
  have hk' : ¬ (s.size : Int) ≤ k := by omega
  have hm' : (m : Int) < s.size := by omega
  go_enter Try.func28, Try.ntmps28
  go_wp2_with fail
  refine (HK.out _).mono ?_
  rintro e _ ⟨rfl, rfl⟩
  go_wp2_with fail
  refine (HE.out _).mono ?_
  rintro e _ ⟨rfl, rfl⟩
  go_wp2
  refine bodyPost_ret (v := pr 0 0 2) (by simp [results, Try.results28, go_sem]) rfl ⟨rfl, ?_⟩
  go_grown

set_option maxRecDepth 100000 in
set_option maxHeartbeats 1000000 in
theorem rp1p_o3 (s A B : ByteArray) (k j m ee : Nat) (e1 e2 n1 n2 x1 x2 : Int) (w : World) (hs : s.size ≤ 100) (h0 : 0 < s.size) (hm : ((s[0].toNat : Int) == 45) = true)
    (HK : Hid (∀ w, Calls Try.prog 38 #[.string s, .int .i64 1] w fun e w' => e = .returned (.int .i64 k) ∧ w = w'))
    (hk : k < s.size)
    (c1 : ((s[k].toNat : Int) != 43) = false) (c3 : ((s[k].toNat : Int) == 43) = true)
    (hj : (k : Int) + 1 = j) (hm2 : (s.size : Int) - 1 = m)
    (HE : Hid (∀ w, Calls Try.prog 38 #[.string s, .int .i64 j] w fun e w' => e = .returned (.int .i64 ee) ∧ w = w'))
    (he : ((ee : Int) != m) = true)
    : Calls Try.prog 28 #[.string s] w fun e w' => e = .returned (pr 0 0 2) ∧ Below w.heap.size w w' := by
  have h0' : (0 : Int) < s.size := by omega
  have hk' : ¬ (s.size : Int) ≤ k := by omega
  go_enter Try.func28, Try.ntmps28
  go_wp2_with fail
  refine (HK.out _).mono ?_
  rintro e _ ⟨rfl, rfl⟩
  go_wp2_with fail
  refine (HE.out _).mono ?_
  rintro e _ ⟨rfl, rfl⟩
  go_wp2
  refine bodyPost_ret (v := pr 0 0 2) (by simp [results, Try.results28, go_sem]) rfl ⟨rfl, ?_⟩
  go_grown

set_option maxRecDepth 100000 in
set_option maxHeartbeats 1000000 in
theorem rp1p_o4 (s A B : ByteArray) (k j m ee : Nat) (e1 e2 n1 n2 x1 x2 : Int) (w : World) (hs : s.size ≤ 100) (h0 : 0 < s.size) (hm : ((s[0].toNat : Int) == 45) = true)
    (HK : Hid (∀ w, Calls Try.prog 38 #[.string s, .int .i64 1] w fun e w' => e = .returned (.int .i64 k) ∧ w = w'))
    (hk : k < s.size)
    (c1 : ((s[k].toNat : Int) != 43) = false) (c3 : ((s[k].toNat : Int) == 43) = true)
    (hj : (k : Int) + 1 = j) (hm2 : (s.size : Int) - 1 = m)
    (HE : Hid (∀ w, Calls Try.prog 38 #[.string s, .int .i64 j] w fun e w' => e = .returned (.int .i64 m) ∧ w = w'))
    (hms : m < s.size) (hi : ((s[m].toNat : Int) != 105) = true)
    : Calls Try.prog 28 #[.string s] w fun e w' => e = .returned (pr 0 0 2) ∧ Below w.heap.size w w' := by
  have h0' : (0 : Int) < s.size := by omega
  have hk' : ¬ (s.size : Int) ≤ k := by omega
  have hm' : (m : Int) < s.size := by omega
  go_enter Try.func28, Try.ntmps28
  go_wp2_with fail
  refine (HK.out _).mono ?_
  rintro e _ ⟨rfl, rfl⟩
  go_wp2_with fail
  refine (HE.out _).mono ?_
  rintro e _ ⟨rfl, rfl⟩
  go_wp2
  refine bodyPost_ret (v := pr 0 0 2) (by simp [results, Try.results28, go_sem]) rfl ⟨rfl, ?_⟩
  go_grown

set_option maxRecDepth 100000 in
set_option maxHeartbeats 1000000 in
theorem rp1m_o3 (s A B : ByteArray) (k j m ee : Nat) (e1 e2 n1 n2 x1 x2 : Int) (w : World) (hs : s.size ≤ 100) (h0 : 0 < s.size) (hm : ((s[0].toNat : Int) == 45) = true)
    (HK : Hid (∀ w, Calls Try.prog 38 #[.string s, .int .i64 1] w fun e w' => e = .returned (.int .i64 k) ∧ w = w'))
    (hk : k < s.size)
    (c1 : ((s[k].toNat : Int) != 43) = true) (c2 : ((s[k].toNat : Int) != 45) = false) (c3 : ((s[k].toNat : Int) == 43) = false)
    (hj : (k : Int) + 1 = j) (hm2 : (s.size : Int) - 1 = m)
    (HE : Hid (∀ w, Calls Try.prog 38 #[.string s, .int .i64 j] w fun e w' => e = .returned (.int .i64 ee) ∧ w = w'))
    (he : ((ee : Int) != m) = true)
    : Calls Try.prog 28 #[.string s] w fun e w' => e = .returned (pr 0 0 2) ∧ Below w.heap.size w w' := by
  have h0' : (0 : Int) < s.size := by omega
  have hk' : ¬ (s.size : Int) ≤ k := by omega
  go_enter Try.func28, Try.ntmps28
  go_wp2_with fail
  refine (HK.out _).mono ?_
  rintro e _ ⟨rfl, rfl⟩
  go_wp2_with fail
  refine (HE.out _).mono ?_
  rintro e _ ⟨rfl, rfl⟩
  go_wp2
  refine bodyPost_ret (v := pr 0 0 2) (by simp [results, Try.results28, go_sem]) rfl ⟨rfl, ?_⟩
  go_grown

set_option maxRecDepth 100000 in
set_option maxHeartbeats 1000000 in
theorem rp1m_o4 (s A B : ByteArray) (k j m ee : Nat) (e1 e2 n1 n2 x1 x2 : Int) (w : World) (hs : s.size ≤ 100) (h0 : 0 < s.size) (hm : ((s[0].toNat : Int) == 45) = true)
    (HK : Hid (∀ w, Calls Try.prog 38 #[.string s, .int .i64 1] w fun e w' => e = .returned (.int .i64 k) ∧ w = w'))
    (hk : k < s.size)
    (c1 : ((s[k].toNat : Int) != 43) = true) (c2 : ((s[k].toNat : Int) != 45) = false) (c3 : ((s[k].toNat : Int) == 43) = false)
    (hj : (k : Int) + 1 = j) (hm2 : (s.size : Int) - 1 = m)
    (HE : Hid (∀ w, Calls Try.prog 38 #[.string s, .int .i64 j] w fun e w' => e = .returned (.int .i64 m) ∧ w = w'))
    (hms : m < s.size) (hi : ((s[m].toNat : Int) != 105) = true)
    : Calls Try.prog 28 #[.string s] w fun e w' => e = .returned (pr 0 0 2) ∧ Below w.heap.size w w' := by
  have h0' : (0 : Int) < s.size := by omega
  have hk' : ¬ (s.size : Int) ≤ k := by omega
  have hm' : (m : Int) < s.size := by omega
  go_enter Try.func28, Try.ntmps28
  go_wp2_with fail
  refine (HK.out _).mono ?_
  rintro e _ ⟨rfl, rfl⟩
  go_wp2_with fail
  refine (HE.out _).mono ?_
  rintro e _ ⟨rfl, rfl⟩
  go_wp2
  refine bodyPost_ret (v := pr 0 0 2) (by simp [results, Try.results28, go_sem]) rfl ⟨rfl, ?_⟩
  go_grown

end Go.Proofs.Ytknnobijdojjhaa
