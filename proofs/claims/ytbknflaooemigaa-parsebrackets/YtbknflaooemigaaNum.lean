/-
  Contract of lex.readNumber. Conditions: texts of at most 100000 bytes that begin with a digit.
-/
import Derived.Test.YtbknflaooemigaaSgn
namespace Go.Proofs.Ytbknflaooemigaa
open Go.RowKit
set_option linter.unusedVariables false

/-- What is answered of a text's first token. -/
abbrev oneV (o : One) : Value := .tuple #[tokV o.kind 0 0 o.num (bs o.text), .int .i64 (o.size : Nat), .int .i64 o.err]
abbrev badV (e : Int) : Value := .tuple #[tokV 0 0 0 0 { data := #[] }, .int .i64 0, .int .i64 e]

set_option maxHeartbeats 1000000 in
theorem num_cl (s X D Y : ByteArray) (w : World) (k k2 r : Nat) (n e : Int) (hs : s.size ≤ 100000) (hks : k ≤ s.size) (hk2 : (k : Int) + 1 = k2) (hk3 : k2 ≤ s.size) (hk : k < s.size) (e105 : ((s[k].toNat : Int) == 105) = true) (hr : 0 < r) (hX : s.extract 0 k = X) (hY : s.extract k2 s.size = Y)
    (H16a : Hid (∀ w, Calls Try.prog 20 #[.string s, .func (.func 35) #[] #[]] w fun e w' => e = .returned (.int .i64 (k : Nat)) ∧ w = w'))
    (H37 : Hid (∀ w, Calls Try.prog 54 #[.string X] w fun e w' => e = .returned (.string D) ∧ w = w'))
    (H16b : Hid (∀ w, Calls Try.prog 20 #[.string Y, .func (.func 32) #[] #[]] w fun e w' => e = .returned (.int .i64 (r : Nat)) ∧ w = w'))
    (H38 : Hid (∀ w, Calls Try.prog 55 #[.string D] w fun x w' => x = .returned (.tuple #[.int .i64 n, .int .i64 e]) ∧ w = w')) :
    Calls Try.prog 36 #[.string s] w fun x w' => x = .returned (badV 4) ∧ Below w.heap.size w w' := by
  have hr2 : (0 : Int) < r := by omega
  go_enter Try.func36, Try.ntmps36
  go_wp2_with fail
  refine (H16a.out _).mono ?_
  rintro _ w' ⟨rfl, rfl⟩
  go_wp2_with fail
  refine (H37.out _).mono ?_
  rintro _ w' ⟨rfl, rfl⟩
  go_wp2_with fail
  refine (H16b.out _).mono ?_
  rintro _ w' ⟨rfl, rfl⟩
  go_wp2
  refine bodyPost_ret (v := badV 4) (by simp [results, Try.results36, go_sem]) rfl ⟨rfl, ?_⟩
  go_grown

set_option maxHeartbeats 1000000 in
theorem num_cx (s X D Y : ByteArray) (w : World) (k k2 r : Nat) (n e : Int) (hs : s.size ≤ 100000) (hks : k ≤ s.size) (hk2 : (k : Int) + 1 = k2) (hk3 : k2 ≤ s.size) (hk : k < s.size) (e105 : ((s[k].toNat : Int) == 105) = true) (hr : r = 0) (he : (e != 0) = true) (hX : s.extract 0 k = X) (hY : s.extract k2 s.size = Y)
    (H16a : Hid (∀ w, Calls Try.prog 20 #[.string s, .func (.func 35) #[] #[]] w fun e w' => e = .returned (.int .i64 (k : Nat)) ∧ w = w'))
    (H37 : Hid (∀ w, Calls Try.prog 54 #[.string X] w fun e w' => e = .returned (.string D) ∧ w = w'))
    (H16b : Hid (∀ w, Calls Try.prog 20 #[.string Y, .func (.func 32) #[] #[]] w fun e w' => e = .returned (.int .i64 (r : Nat)) ∧ w = w'))
    (H38 : Hid (∀ w, Calls Try.prog 55 #[.string D] w fun x w' => x = .returned (.tuple #[.int .i64 n, .int .i64 e]) ∧ w = w')) :
    Calls Try.prog 36 #[.string s] w fun x w' => x = .returned (badV 14) ∧ Below w.heap.size w w' := by
  subst hr
  go_enter Try.func36, Try.ntmps36
  go_wp2_with fail
  refine (H16a.out _).mono ?_
  rintro _ w' ⟨rfl, rfl⟩
  go_wp2_with fail
  refine (H37.out _).mono ?_
  rintro _ w' ⟨rfl, rfl⟩
  go_wp2_with fail
  refine (H16b.out _).mono ?_
  rintro _ w' ⟨rfl, rfl⟩
  go_wp2_with fail
  refine (H38.out _).mono ?_
  rintro _ w' ⟨rfl, rfl⟩
  go_wp2
  refine bodyPost_ret (v := badV 14) (by simp [results, Try.results36, go_sem]) rfl ⟨rfl, ?_⟩
  go_grown

set_option maxHeartbeats 1000000 in
theorem num_co (s X D Y : ByteArray) (w : World) (k k2 r : Nat) (n e : Int) (hs : s.size ≤ 100000) (hks : k ≤ s.size) (hk2 : (k : Int) + 1 = k2) (hk3 : k2 ≤ s.size) (hk : k < s.size) (e105 : ((s[k].toNat : Int) == 105) = true) (hr : r = 0) (he : (e != 0) = false) (hn : 8388607 < n) (hX : s.extract 0 k = X) (hY : s.extract k2 s.size = Y)
    (H16a : Hid (∀ w, Calls Try.prog 20 #[.string s, .func (.func 35) #[] #[]] w fun e w' => e = .returned (.int .i64 (k : Nat)) ∧ w = w'))
    (H37 : Hid (∀ w, Calls Try.prog 54 #[.string X] w fun e w' => e = .returned (.string D) ∧ w = w'))
    (H16b : Hid (∀ w, Calls Try.prog 20 #[.string Y, .func (.func 32) #[] #[]] w fun e w' => e = .returned (.int .i64 (r : Nat)) ∧ w = w'))
    (H38 : Hid (∀ w, Calls Try.prog 55 #[.string D] w fun x w' => x = .returned (.tuple #[.int .i64 n, .int .i64 e]) ∧ w = w')) :
    Calls Try.prog 36 #[.string s] w fun x w' => x = .returned (badV 14) ∧ Below w.heap.size w w' := by
  subst hr
  go_enter Try.func36, Try.ntmps36
  go_wp2_with fail
  refine (H16a.out _).mono ?_
  rintro _ w' ⟨rfl, rfl⟩
  go_wp2_with fail
  refine (H37.out _).mono ?_
  rintro _ w' ⟨rfl, rfl⟩
  go_wp2_with fail
  refine (H16b.out _).mono ?_
  rintro _ w' ⟨rfl, rfl⟩
  go_wp2_with fail
  refine (H38.out _).mono ?_
  rintro _ w' ⟨rfl, rfl⟩
  go_wp2
  refine bodyPost_ret (v := badV 14) (by simp [results, Try.results36, go_sem]) rfl ⟨rfl, ?_⟩
  go_grown

set_option maxHeartbeats 1000000 in
theorem num_cy (s X D Y : ByteArray) (w : World) (k k2 r : Nat) (n e : Int) (hs : s.size ≤ 100000) (hks : k ≤ s.size) (hk2 : (k : Int) + 1 = k2) (hk3 : k2 ≤ s.size) (hk : k < s.size) (e105 : ((s[k].toNat : Int) == 105) = true) (hr : r = 0) (he : (e != 0) = false) (hn : ¬ 8388607 < n) (hX : s.extract 0 k = X) (hY : s.extract k2 s.size = Y)
    (H16a : Hid (∀ w, Calls Try.prog 20 #[.string s, .func (.func 35) #[] #[]] w fun e w' => e = .returned (.int .i64 (k : Nat)) ∧ w = w'))
    (H37 : Hid (∀ w, Calls Try.prog 54 #[.string X] w fun e w' => e = .returned (.string D) ∧ w = w'))
    (H16b : Hid (∀ w, Calls Try.prog 20 #[.string Y, .func (.func 32) #[] #[]] w fun e w' => e = .returned (.int .i64 (r : Nat)) ∧ w = w'))
    (H38 : Hid (∀ w, Calls Try.prog 55 #[.string D] w fun x w' => x = .returned (.tuple #[.int .i64 n, .int .i64 e]) ∧ w = w')) :
    Calls Try.prog 36 #[.string s] w fun x w' => x = .returned (.tuple #[tokV 4 0 0 n { data := #[] }, .int .i64 (k2 : Nat), .int .i64 0]) ∧ Below w.heap.size w w' := by
  subst hr
  go_enter Try.func36, Try.ntmps36
  go_wp2_with fail
  refine (H16a.out _).mono ?_
  rintro _ w' ⟨rfl, rfl⟩
  go_wp2_with fail
  refine (H37.out _).mono ?_
  rintro _ w' ⟨rfl, rfl⟩
  go_wp2_with fail
  refine (H16b.out _).mono ?_
  rintro _ w' ⟨rfl, rfl⟩
  go_wp2_with fail
  refine (H38.out _).mono ?_
  rintro _ w' ⟨rfl, rfl⟩
  go_wp2
  refine bodyPost_ret (v := .tuple #[tokV 4 0 0 n { data := #[] }, .int .i64 (k2 : Nat), .int .i64 0]) (by simp [results, Try.results36, go_sem]) rfl ⟨rfl, ?_⟩
  go_grown

set_option maxHeartbeats 1000000 in
theorem num_ml (s X D Y : ByteArray) (w : World) (k r : Nat) (n e : Int) (hs : s.size ≤ 100000) (hks : k ≤ s.size) (hk : k < s.size) (e105 : ((s[k].toNat : Int) == 105) = false) (hr : 0 < r) (hX : s.extract 0 k = X) (hY : s.extract k s.size = Y)
    (H16a : Hid (∀ w, Calls Try.prog 20 #[.string s, .func (.func 35) #[] #[]] w fun e w' => e = .returned (.int .i64 (k : Nat)) ∧ w = w'))
    (H37 : Hid (∀ w, Calls Try.prog 54 #[.string X] w fun e w' => e = .returned (.string D) ∧ w = w'))
    (H16b : Hid (∀ w, Calls Try.prog 20 #[.string Y, .func (.func 32) #[] #[]] w fun e w' => e = .returned (.int .i64 (r : Nat)) ∧ w = w'))
    (H38 : Hid (∀ w, Calls Try.prog 55 #[.string D] w fun x w' => x = .returned (.tuple #[.int .i64 n, .int .i64 e]) ∧ w = w')) :
    Calls Try.prog 36 #[.string s] w fun x w' => x = .returned (badV 4) ∧ Below w.heap.size w w' := by
  have hr2 : (0 : Int) < r := by omega
  go_enter Try.func36, Try.ntmps36
  go_wp2_with fail
  refine (H16a.out _).mono ?_
  rintro _ w' ⟨rfl, rfl⟩
  go_wp2_with fail
  refine (H37.out _).mono ?_
  rintro _ w' ⟨rfl, rfl⟩
  go_wp2_with fail
  refine (H16b.out _).mono ?_
  rintro _ w' ⟨rfl, rfl⟩
  go_wp2
  refine bodyPost_ret (v := badV 4) (by simp [results, Try.results36, go_sem]) rfl ⟨rfl, ?_⟩
  go_grown

set_option maxHeartbeats 1000000 in
theorem num_mx (s X D Y : ByteArray) (w : World) (k r : Nat) (n e : Int) (hs : s.size ≤ 100000) (hks : k ≤ s.size) (hk : k < s.size) (e105 : ((s[k].toNat : Int) == 105) = false) (hr : r = 0) (he : (e != 0) = true) (hX : s.extract 0 k = X) (hY : s.extract k s.size = Y)
    (H16a : Hid (∀ w, Calls Try.prog 20 #[.string s, .func (.func 35) #[] #[]] w fun e w' => e = .returned (.int .i64 (k : Nat)) ∧ w = w'))
    (H37 : Hid (∀ w, Calls Try.prog 54 #[.string X] w fun e w' => e = .returned (.string D) ∧ w = w'))
    (H16b : Hid (∀ w, Calls Try.prog 20 #[.string Y, .func (.func 32) #[] #[]] w fun e w' => e = .returned (.int .i64 (r : Nat)) ∧ w = w'))
    (H38 : Hid (∀ w, Calls Try.prog 55 #[.string D] w fun x w' => x = .returned (.tuple #[.int .i64 n, .int .i64 e]) ∧ w = w')) :
    Calls Try.prog 36 #[.string s] w fun x w' => x = .returned (badV 14) ∧ Below w.heap.size w w' := by
  subst hr
  go_enter Try.func36, Try.ntmps36
  go_wp2_with fail
  refine (H16a.out _).mono ?_
  rintro _ w' ⟨rfl, rfl⟩
  go_wp2_with fail
  refine (H37.out _).mono ?_
  rintro _ w' ⟨rfl, rfl⟩
  go_wp2_with fail
  refine (H16b.out _).mono ?_
  rintro _ w' ⟨rfl, rfl⟩
  go_wp2_with fail
  refine (H38.out _).mono ?_
  rintro _ w' ⟨rfl, rfl⟩
  go_wp2
  refine bodyPost_ret (v := badV 14) (by simp [results, Try.results36, go_sem]) rfl ⟨rfl, ?_⟩
  go_grown

set_option maxHeartbeats 1000000 in
theorem num_mo (s X D Y : ByteArray) (w : World) (k r : Nat) (n e : Int) (hs : s.size ≤ 100000) (hks : k ≤ s.size) (hk : k < s.size) (e105 : ((s[k].toNat : Int) == 105) = false) (hr : r = 0) (he : (e != 0) = false) (hn : 9223372036854775807 < n) (hX : s.extract 0 k = X) (hY : s.extract k s.size = Y)
    (H16a : Hid (∀ w, Calls Try.prog 20 #[.string s, .func (.func 35) #[] #[]] w fun e w' => e = .returned (.int .i64 (k : Nat)) ∧ w = w'))
    (H37 : Hid (∀ w, Calls Try.prog 54 #[.string X] w fun e w' => e = .returned (.string D) ∧ w = w'))
    (H16b : Hid (∀ w, Calls Try.prog 20 #[.string Y, .func (.func 32) #[] #[]] w fun e w' => e = .returned (.int .i64 (r : Nat)) ∧ w = w'))
    (H38 : Hid (∀ w, Calls Try.prog 55 #[.string D] w fun x w' => x = .returned (.tuple #[.int .i64 n, .int .i64 e]) ∧ w = w')) :
    Calls Try.prog 36 #[.string s] w fun x w' => x = .returned (badV 14) ∧ Below w.heap.size w w' := by
  subst hr
  go_enter Try.func36, Try.ntmps36
  go_wp2_with fail
  refine (H16a.out _).mono ?_
  rintro _ w' ⟨rfl, rfl⟩
  go_wp2_with fail
  refine (H37.out _).mono ?_
  rintro _ w' ⟨rfl, rfl⟩
  go_wp2_with fail
  refine (H16b.out _).mono ?_
  rintro _ w' ⟨rfl, rfl⟩
  go_wp2_with fail
  refine (H38.out _).mono ?_
  rintro _ w' ⟨rfl, rfl⟩
  go_wp2
  refine bodyPost_ret (v := badV 14) (by simp [results, Try.results36, go_sem]) rfl ⟨rfl, ?_⟩
  go_grown

set_option maxHeartbeats 1000000 in
theorem num_my (s X D Y : ByteArray) (w : World) (k r : Nat) (n e : Int) (hs : s.size ≤ 100000) (hks : k ≤ s.size) (hk : k < s.size) (e105 : ((s[k].toNat : Int) == 105) = false) (hr : r = 0) (he : (e != 0) = false) (hn : ¬ 9223372036854775807 < n) (hX : s.extract 0 k = X) (hY : s.extract k s.size = Y)
    (H16a : Hid (∀ w, Calls Try.prog 20 #[.string s, .func (.func 35) #[] #[]] w fun e w' => e = .returned (.int .i64 (k : Nat)) ∧ w = w'))
    (H37 : Hid (∀ w, Calls Try.prog 54 #[.string X] w fun e w' => e = .returned (.string D) ∧ w = w'))
    (H16b : Hid (∀ w, Calls Try.prog 20 #[.string Y, .func (.func 32) #[] #[]] w fun e w' => e = .returned (.int .i64 (r : Nat)) ∧ w = w'))
    (H38 : Hid (∀ w, Calls Try.prog 55 #[.string D] w fun x w' => x = .returned (.tuple #[.int .i64 n, .int .i64 e]) ∧ w = w')) :
    Calls Try.prog 36 #[.string s] w fun x w' => x = .returned (.tuple #[tokV 3 0 0 n { data := #[] }, .int .i64 (k : Nat), .int .i64 0]) ∧ Below w.heap.size w w' := by
  subst hr
  go_enter Try.func36, Try.ntmps36
  go_wp2_with fail
  refine (H16a.out _).mono ?_
  rintro _ w' ⟨rfl, rfl⟩
  go_wp2_with fail
  refine (H37.out _).mono ?_
  rintro _ w' ⟨rfl, rfl⟩
  go_wp2_with fail
  refine (H16b.out _).mono ?_
  rintro _ w' ⟨rfl, rfl⟩
  go_wp2_with fail
  refine (H38.out _).mono ?_
  rintro _ w' ⟨rfl, rfl⟩
  go_wp2
  refine bodyPost_ret (v := .tuple #[tokV 3 0 0 n { data := #[] }, .int .i64 (k : Nat), .int .i64 0]) (by simp [results, Try.results36, go_sem]) rfl ⟨rfl, ?_⟩
  go_grown

set_option maxHeartbeats 1000000 in
theorem num_el (s X D Y : ByteArray) (w : World) (k r : Nat) (n e : Int) (hs : s.size ≤ 100000) (hks : k ≤ s.size) (hk : ¬ (k : Int) < s.size) (hr : 0 < r) (hX : s.extract 0 k = X) (hY : s.extract k s.size = Y)
    (H16a : Hid (∀ w, Calls Try.prog 20 #[.string s, .func (.func 35) #[] #[]] w fun e w' => e = .returned (.int .i64 (k : Nat)) ∧ w = w'))
    (H37 : Hid (∀ w, Calls Try.prog 54 #[.string X] w fun e w' => e = .returned (.string D) ∧ w = w'))
    (H16b : Hid (∀ w, Calls Try.prog 20 #[.string Y, .func (.func 32) #[] #[]] w fun e w' => e = .returned (.int .i64 (r : Nat)) ∧ w = w'))
    (H38 : Hid (∀ w, Calls Try.prog 55 #[.string D] w fun x w' => x = .returned (.tuple #[.int .i64 n, .int .i64 e]) ∧ w = w')) :
    Calls Try.prog 36 #[.string s] w fun x w' => x = .returned (badV 4) ∧ Below w.heap.size w w' := by
  have hr2 : (0 : Int) < r := by omega
  go_enter Try.func36, Try.ntmps36
  go_wp2_with fail
  refine (H16a.out _).mono ?_
  rintro _ w' ⟨rfl, rfl⟩
  go_wp2_with fail
  refine (H37.out _).mono ?_
  rintro _ w' ⟨rfl, rfl⟩
  go_wp2_with fail
  refine (H16b.out _).mono ?_
  rintro _ w' ⟨rfl, rfl⟩
  go_wp2
  refine bodyPost_ret (v := badV 4) (by simp [results, Try.results36, go_sem]) rfl ⟨rfl, ?_⟩
  go_grown

set_option maxHeartbeats 1000000 in
theorem num_ex (s X D Y : ByteArray) (w : World) (k r : Nat) (n e : Int) (hs : s.size ≤ 100000) (hks : k ≤ s.size) (hk : ¬ (k : Int) < s.size) (hr : r = 0) (he : (e != 0) = true) (hX : s.extract 0 k = X) (hY : s.extract k s.size = Y)
    (H16a : Hid (∀ w, Calls Try.prog 20 #[.string s, .func (.func 35) #[] #[]] w fun e w' => e = .returned (.int .i64 (k : Nat)) ∧ w = w'))
    (H37 : Hid (∀ w, Calls Try.prog 54 #[.string X] w fun e w' => e = .returned (.string D) ∧ w = w'))
    (H16b : Hid (∀ w, Calls Try.prog 20 #[.string Y, .func (.func 32) #[] #[]] w fun e w' => e = .returned (.int .i64 (r : Nat)) ∧ w = w'))
    (H38 : Hid (∀ w, Calls Try.prog 55 #[.string D] w fun x w' => x = .returned (.tuple #[.int .i64 n, .int .i64 e]) ∧ w = w')) :
    Calls Try.prog 36 #[.string s] w fun x w' => x = .returned (badV 14) ∧ Below w.heap.size w w' := by
  subst hr
  go_enter Try.func36, Try.ntmps36
  go_wp2_with fail
  refine (H16a.out _).mono ?_
  rintro _ w' ⟨rfl, rfl⟩
  go_wp2_with fail
  refine (H37.out _).mono ?_
  rintro _ w' ⟨rfl, rfl⟩
  go_wp2_with fail
  refine (H16b.out _).mono ?_
  rintro _ w' ⟨rfl, rfl⟩
  go_wp2_with fail
  refine (H38.out _).mono ?_
  rintro _ w' ⟨rfl, rfl⟩
  go_wp2
  refine bodyPost_ret (v := badV 14) (by simp [results, Try.results36, go_sem]) rfl ⟨rfl, ?_⟩
  go_grown

set_option maxHeartbeats 1000000 in
theorem num_eo (s X D Y : ByteArray) (w : World) (k r : Nat) (n e : Int) (hs : s.size ≤ 100000) (hks : k ≤ s.size) (hk : ¬ (k : Int) < s.size) (hr : r = 0) (he : (e != 0) = false) (hn : 9223372036854775807 < n) (hX : s.extract 0 k = X) (hY : s.extract k s.size = Y)
    (H16a : Hid (∀ w, Calls Try.prog 20 #[.string s, .func (.func 35) #[] #[]] w fun e w' => e = .returned (.int .i64 (k : Nat)) ∧ w = w'))
    (H37 : Hid (∀ w, Calls Try.prog 54 #[.string X] w fun e w' => e = .returned (.string D) ∧ w = w'))
    (H16b : Hid (∀ w, Calls Try.prog 20 #[.string Y, .func (.func 32) #[] #[]] w fun e w' => e = .returned (.int .i64 (r : Nat)) ∧ w = w'))
    (H38 : Hid (∀ w, Calls Try.prog 55 #[.string D] w fun x w' => x = .returned (.tuple #[.int .i64 n, .int .i64 e]) ∧ w = w')) :
    Calls Try.prog 36 #[.string s] w fun x w' => x = .returned (badV 14) ∧ Below w.heap.size w w' := by
  subst hr
  go_enter Try.func36, Try.ntmps36
  go_wp2_with fail
  refine (H16a.out _).mono ?_
  rintro _ w' ⟨rfl, rfl⟩
  go_wp2_with fail
  refine (H37.out _).mono ?_
  rintro _ w' ⟨rfl, rfl⟩
  go_wp2_with fail
  refine (H16b.out _).mono ?_
  rintro _ w' ⟨rfl, rfl⟩
  go_wp2_with fail
  refine (H38.out _).mono ?_
  rintro _ w' ⟨rfl, rfl⟩
  go_wp2
  refine bodyPost_ret (v := badV 14) (by simp [results, Try.results36, go_sem]) rfl ⟨rfl, ?_⟩
  go_grown

set_option maxHeartbeats 1000000 in
theorem num_ey (s X D Y : ByteArray) (w : World) (k r : Nat) (n e : Int) (hs : s.size ≤ 100000) (hks : k ≤ s.size) (hk : ¬ (k : Int) < s.size) (hr : r = 0) (he : (e != 0) = false) (hn : ¬ 9223372036854775807 < n) (hX : s.extract 0 k = X) (hY : s.extract k s.size = Y)
    (H16a : Hid (∀ w, Calls Try.prog 20 #[.string s, .func (.func 35) #[] #[]] w fun e w' => e = .returned (.int .i64 (k : Nat)) ∧ w = w'))
    (H37 : Hid (∀ w, Calls Try.prog 54 #[.string X] w fun e w' => e = .returned (.string D) ∧ w = w'))
    (H16b : Hid (∀ w, Calls Try.prog 20 #[.string Y, .func (.func 32) #[] #[]] w fun e w' => e = .returned (.int .i64 (r : Nat)) ∧ w = w'))
    (H38 : Hid (∀ w, Calls Try.prog 55 #[.string D] w fun x w' => x = .returned (.tuple #[.int .i64 n, .int .i64 e]) ∧ w = w')) :
    Calls Try.prog 36 #[.string s] w fun x w' => x = .returned (.tuple #[tokV 3 0 0 n { data := #[] }, .int .i64 (k : Nat), .int .i64 0]) ∧ Below w.heap.size w w' := by
  subst hr
  go_enter Try.func36, Try.ntmps36
  go_wp2_with fail
  refine (H16a.out _).mono ?_
  rintro _ w' ⟨rfl, rfl⟩
  go_wp2_with fail
  refine (H37.out _).mono ?_
  rintro _ w' ⟨rfl, rfl⟩
  go_wp2_with fail
  refine (H16b.out _).mono ?_
  rintro _ w' ⟨rfl, rfl⟩
  go_wp2_with fail
  refine (H38.out _).mono ?_
  rintro _ w' ⟨rfl, rfl⟩
  go_wp2
  refine bodyPost_ret (v := .tuple #[tokV 3 0 0 n { data := #[] }, .int .i64 (k : Nat), .int .i64 0]) (by simp [results, Try.results36, go_sem]) rfl ⟨rfl, ?_⟩
  go_grown

end Go.Proofs.Ytbknflaooemigaa
