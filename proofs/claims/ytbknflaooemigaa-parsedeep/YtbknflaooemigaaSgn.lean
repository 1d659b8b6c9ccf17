/-
  Contracts of lex.kindOfName, lex.signSize and lex.withoutNoughts. Conditions: texts of at most 1000000 bytes that aren't empty.
-/
import Derived.Test.YtbknflaooemigaaWrd
import Derived.Test.YtbknflaooemigaaCln
import Derived.Test.YtbknflaooemigaaEnd
namespace Go.Proofs.Ytbknflaooemigaa
open Go.RowKit
set_option linter.unusedVariables false

theorem head_of (s : ByteArray) (h : 0 < s.size) : s.data.toList.headD 0 = s[0] := head_list s h

theorem kindName_any (s : ByteArray) (w : World) (h0 : 0 < s.size) (r : Nat) (hr : Hid ((if isWord s.data.toList = true then 6 else if grt s[0] = true then 2 else 1) = r)) :
    Calls Try.prog 34 #[.string s] w fun e w' => e = .returned (.int .u8 (r : Nat)) ∧ w = w' := by
  have hne := not_nil s h0
  cases h1 : isWord s.data.toList with
  | true =>
    have H1 := Lib.hid (fun w => word_at s true h1 w)
    obtain rfl : 6 = r := by rw [← hr.out, h1]; rfl
    clear h1 hr
    go_enter Try.func34, Try.ntmps34
    go_wp2_with fail
    refine (H1.out _).mono ?_
    rintro e w' ⟨rfl, rfl⟩
    go_wp2
    go_ret
    exact ⟨rfl, rfl⟩
  | false =>
    have H1 := Lib.hid (fun w => word_at s false h1 w)
    cases h2 : grt s[0] with
    | true =>
      have H2 := Lib.hid (fun w => great_at h2 w)
      obtain rfl : 2 = r := by rw [← hr.out, h1, h2]; rfl
      clear h1 h2 hr
      go_enter Try.func34, Try.ntmps34
      go_wp2_with fail
      refine (H1.out _).mono ?_
      rintro e w' ⟨rfl, rfl⟩
      go_wp2_with fail
      refine (H2.out _).mono ?_
      rintro e w' ⟨rfl, rfl⟩
      go_wp2
      go_ret
      exact ⟨rfl, rfl⟩
    | false =>
      have H2 := Lib.hid (fun w => great_at h2 w)
      obtain rfl : 1 = r := by rw [← hr.out, h1, h2]; rfl
      clear h1 h2 hr
      go_enter Try.func34, Try.ntmps34
      go_wp2_with fail
      refine (H1.out _).mono ?_
      rintro e w' ⟨rfl, rfl⟩
      go_wp2_with fail
      refine (H2.out _).mono ?_
      rintro e w' ⟨rfl, rfl⟩
      go_wp2
      go_ret
      exact ⟨rfl, rfl⟩

set_option maxHeartbeats 400000 in
theorem trim_any (s : ByteArray) (w : World) (hs : s.size ≤ 1000000) (h0 : 0 < s.size) (T : ByteArray) (hT : Hid (bs (trim s.data.toList) = T)) :
    Calls Try.prog 54 #[.string s] w fun e w' => e = .returned (.string T) ∧ w = w' := by
  obtain ⟨m, hm⟩ : ∃ m, s.size - 1 = m := ⟨_, rfl⟩
  have hl : (s.extract 0 m).data.toList = s.data.toList.dropLast := by rw [ext_list, List.dropLast_eq_take, size_list, hm]; simp
  have hsz : (s.extract 0 m).size ≤ 1000000 := by rw [← size_list, hl, List.length_dropLast, size_list]; omega
  obtain ⟨n, hn⟩ : ∃ n, runL nou s.data.toList.dropLast = n := ⟨_, rfl⟩
  have hnm : n ≤ s.size := by
    have := runL_le nou s.data.toList.dropLast
    rw [hn, List.length_dropLast, size_list] at this; omega
  have HR := Lib.hid (fun w => run_nou_at (s.extract 0 m) hsz n (by rw [hl, hn]) w)
  have hT2 := Lib.hid (show s.extract n s.size = T by
    rw [← hT.out, trim, hn]
    apply bytes_eq
    rw [ext_end, bs_list])
  have hmi : (s.size : Int) - 1 = m := by omega
  have hms : m ≤ s.size := by omega
  clear hl hn hT hm
  go_enter Try.func54, Try.ntmps54
  go_wp2_with fail
  refine (HR.out _).mono ?_
  rintro e w' ⟨rfl, rfl⟩
  go_wp2
  go_ret
  rw [← hT2.out]
  exact ⟨rfl, rfl⟩

theorem sign2_0 (s X : ByteArray) (w : World) (h1 : 1 < s.size) (hX : s.extract 0 2 = X) (e0 : (X.toList == [38, 38]) = true) : Calls Try.prog 38 #[.string s] w fun e w' => e = .returned (.int .i64 2) ∧ w = w' := by
  have h2 : (2 : Int) ≤ s.size := by omega
  have h3 : 2 ≤ s.size := by omega
  go_enter Try.func38, Try.ntmps38
  go_wp2
  go_ret
  exact ⟨rfl, rfl⟩

theorem sign2_1 (s X : ByteArray) (w : World) (h1 : 1 < s.size) (hX : s.extract 0 2 = X) (e0 : (X.toList == [38, 38]) = false) (e1 : (X.toList == [124, 124]) = true) : Calls Try.prog 38 #[.string s] w fun e w' => e = .returned (.int .i64 2) ∧ w = w' := by
  have h2 : (2 : Int) ≤ s.size := by omega
  have h3 : 2 ≤ s.size := by omega
  go_enter Try.func38, Try.ntmps38
  go_wp2
  go_ret
  exact ⟨rfl, rfl⟩

theorem sign2_2 (s X : ByteArray) (w : World) (h1 : 1 < s.size) (hX : s.extract 0 2 = X) (e0 : (X.toList == [38, 38]) = false) (e1 : (X.toList == [124, 124]) = false) (e2 : (X.toList == [61, 61]) = true) : Calls Try.prog 38 #[.string s] w fun e w' => e = .returned (.int .i64 2) ∧ w = w' := by
  have h2 : (2 : Int) ≤ s.size := by omega
  have h3 : 2 ≤ s.size := by omega
  go_enter Try.func38, Try.ntmps38
  go_wp2
  go_ret
  exact ⟨rfl, rfl⟩

theorem sign2_3 (s X : ByteArray) (w : World) (h1 : 1 < s.size) (hX : s.extract 0 2 = X) (e0 : (X.toList == [38, 38]) = false) (e1 : (X.toList == [124, 124]) = false) (e2 : (X.toList == [61, 61]) = false) (e3 : (X.toList == [33, 61]) = true) : Calls Try.prog 38 #[.string s] w fun e w' => e = .returned (.int .i64 2) ∧ w = w' := by
  have h2 : (2 : Int) ≤ s.size := by omega
  have h3 : 2 ≤ s.size := by omega
  go_enter Try.func38, Try.ntmps38
  go_wp2
  go_ret
  exact ⟨rfl, rfl⟩

theorem sign2_4 (s X : ByteArray) (w : World) (h1 : 1 < s.size) (hX : s.extract 0 2 = X) (e0 : (X.toList == [38, 38]) = false) (e1 : (X.toList == [124, 124]) = false) (e2 : (X.toList == [61, 61]) = false) (e3 : (X.toList == [33, 61]) = false) (e4 : (X.toList == [60, 61]) = true) : Calls Try.prog 38 #[.string s] w fun e w' => e = .returned (.int .i64 2) ∧ w = w' := by
  have h2 : (2 : Int) ≤ s.size := by omega
  have h3 : 2 ≤ s.size := by omega
  go_enter Try.func38, Try.ntmps38
  go_wp2
  go_ret
  exact ⟨rfl, rfl⟩

theorem sign2_5 (s X : ByteArray) (w : World) (h1 : 1 < s.size) (hX : s.extract 0 2 = X) (e0 : (X.toList == [38, 38]) = false) (e1 : (X.toList == [124, 124]) = false) (e2 : (X.toList == [61, 61]) = false) (e3 : (X.toList == [33, 61]) = false) (e4 : (X.toList == [60, 61]) = false) (e5 : (X.toList == [62, 61]) = true) : Calls Try.prog 38 #[.string s] w fun e w' => e = .returned (.int .i64 2) ∧ w = w' := by
  have h2 : (2 : Int) ≤ s.size := by omega
  have h3 : 2 ≤ s.size := by omega
  go_enter Try.func38, Try.ntmps38
  go_wp2
  go_ret
  exact ⟨rfl, rfl⟩

theorem sign1_0_0 (s X : ByteArray) (w : World) (h0 : 0 < s.size) (h1 : ¬ 1 < s.size) (f0 : ((s[0].toNat : Int) == 43) = true) : Calls Try.prog 38 #[.string s] w fun e w' => e = .returned (.int .i64 1) ∧ w = w' := by
  have h2 : ¬ (1 : Int) < s.size := by omega
  go_enter Try.func38, Try.ntmps38
  go_wp2
  go_ret
  exact ⟨rfl, rfl⟩

theorem sign1_0_1 (s X : ByteArray) (w : World) (h0 : 0 < s.size) (h1 : 1 < s.size) (hX : s.extract 0 2 = X) (e0 : (X.toList == [38, 38]) = false) (e1 : (X.toList == [124, 124]) = false) (e2 : (X.toList == [61, 61]) = false) (e3 : (X.toList == [33, 61]) = false) (e4 : (X.toList == [60, 61]) = false) (e5 : (X.toList == [62, 61]) = false) (f0 : ((s[0].toNat : Int) == 43) = true) : Calls Try.prog 38 #[.string s] w fun e w' => e = .returned (.int .i64 1) ∧ w = w' := by
  have h2 : (2 : Int) ≤ s.size := by omega
  have h3 : 2 ≤ s.size := by omega
  go_enter Try.func38, Try.ntmps38
  go_wp2
  go_ret
  exact ⟨rfl, rfl⟩

theorem sign1_1_0 (s X : ByteArray) (w : World) (h0 : 0 < s.size) (h1 : ¬ 1 < s.size) (f0 : ((s[0].toNat : Int) == 43) = false) (f1 : ((s[0].toNat : Int) == 45) = true) : Calls Try.prog 38 #[.string s] w fun e w' => e = .returned (.int .i64 1) ∧ w = w' := by
  have h2 : ¬ (1 : Int) < s.size := by omega
  go_enter Try.func38, Try.ntmps38
  go_wp2
  go_ret
  exact ⟨rfl, rfl⟩

theorem sign1_1_1 (s X : ByteArray) (w : World) (h0 : 0 < s.size) (h1 : 1 < s.size) (hX : s.extract 0 2 = X) (e0 : (X.toList == [38, 38]) = false) (e1 : (X.toList == [124, 124]) = false) (e2 : (X.toList == [61, 61]) = false) (e3 : (X.toList == [33, 61]) = false) (e4 : (X.toList == [60, 61]) = false) (e5 : (X.toList == [62, 61]) = false) (f0 : ((s[0].toNat : Int) == 43) = false) (f1 : ((s[0].toNat : Int) == 45) = true) : Calls Try.prog 38 #[.string s] w fun e w' => e = .returned (.int .i64 1) ∧ w = w' := by
  have h2 : (2 : Int) ≤ s.size := by omega
  have h3 : 2 ≤ s.size := by omega
  go_enter Try.func38, Try.ntmps38
  go_wp2
  go_ret
  exact ⟨rfl, rfl⟩

theorem sign1_2_0 (s X : ByteArray) (w : World) (h0 : 0 < s.size) (h1 : ¬ 1 < s.size) (f0 : ((s[0].toNat : Int) == 43) = false) (f1 : ((s[0].toNat : Int) == 45) = false) (f2 : ((s[0].toNat : Int) == 42) = true) : Calls Try.prog 38 #[.string s] w fun e w' => e = .returned (.int .i64 1) ∧ w = w' := by
  have h2 : ¬ (1 : Int) < s.size := by omega
  go_enter Try.func38, Try.ntmps38
  go_wp2
  go_ret
  exact ⟨rfl, rfl⟩

theorem sign1_2_1 (s X : ByteArray) (w : World) (h0 : 0 < s.size) (h1 : 1 < s.size) (hX : s.extract 0 2 = X) (e0 : (X.toList == [38, 38]) = false) (e1 : (X.toList == [124, 124]) = false) (e2 : (X.toList == [61, 61]) = false) (e3 : (X.toList == [33, 61]) = false) (e4 : (X.toList == [60, 61]) = false) (e5 : (X.toList == [62, 61]) = false) (f0 : ((s[0].toNat : Int) == 43) = false) (f1 : ((s[0].toNat : Int) == 45) = false) (f2 : ((s[0].toNat : Int) == 42) = true) : Calls Try.prog 38 #[.string s] w fun e w' => e = .returned (.int .i64 1) ∧ w = w' := by
  have h2 : (2 : Int) ≤ s.size := by omega
  have h3 : 2 ≤ s.size := by omega
  go_enter Try.func38, Try.ntmps38
  go_wp2
  go_ret
  exact ⟨rfl, rfl⟩

theorem sign1_3_0 (s X : ByteArray) (w : World) (h0 : 0 < s.size) (h1 : ¬ 1 < s.size) (f0 : ((s[0].toNat : Int) == 43) = false) (f1 : ((s[0].toNat : Int) == 45) = false) (f2 : ((s[0].toNat : Int) == 42) = false) (f3 : ((s[0].toNat : Int) == 47) = true) : Calls Try.prog 38 #[.string s] w fun e w' => e = .returned (.int .i64 1) ∧ w = w' := by
  have h2 : ¬ (1 : Int) < s.size := by omega
  go_enter Try.func38, Try.ntmps38
  go_wp2
  go_ret
  exact ⟨rfl, rfl⟩

theorem sign1_3_1 (s X : ByteArray) (w : World) (h0 : 0 < s.size) (h1 : 1 < s.size) (hX : s.extract 0 2 = X) (e0 : (X.toList == [38, 38]) = false) (e1 : (X.toList == [124, 124]) = false) (e2 : (X.toList == [61, 61]) = false) (e3 : (X.toList == [33, 61]) = false) (e4 : (X.toList == [60, 61]) = false) (e5 : (X.toList == [62, 61]) = false) (f0 : ((s[0].toNat : Int) == 43) = false) (f1 : ((s[0].toNat : Int) == 45) = false) (f2 : ((s[0].toNat : Int) == 42) = false) (f3 : ((s[0].toNat : Int) == 47) = true) : Calls Try.prog 38 #[.string s] w fun e w' => e = .returned (.int .i64 1) ∧ w = w' := by
  have h2 : (2 : Int) ≤ s.size := by omega
  have h3 : 2 ≤ s.size := by omega
  go_enter Try.func38, Try.ntmps38
  go_wp2
  go_ret
  exact ⟨rfl, rfl⟩

theorem sign1_4_0 (s X : ByteArray) (w : World) (h0 : 0 < s.size) (h1 : ¬ 1 < s.size) (f0 : ((s[0].toNat : Int) == 43) = false) (f1 : ((s[0].toNat : Int) == 45) = false) (f2 : ((s[0].toNat : Int) == 42) = false) (f3 : ((s[0].toNat : Int) == 47) = false) (f4 : ((s[0].toNat : Int) == 37) = true) : Calls Try.prog 38 #[.string s] w fun e w' => e = .returned (.int .i64 1) ∧ w = w' := by
  have h2 : ¬ (1 : Int) < s.size := by omega
  go_enter Try.func38, Try.ntmps38
  go_wp2
  go_ret
  exact ⟨rfl, rfl⟩

theorem sign1_4_1 (s X : ByteArray) (w : World) (h0 : 0 < s.size) (h1 : 1 < s.size) (hX : s.extract 0 2 = X) (e0 : (X.toList == [38, 38]) = false) (e1 : (X.toList == [124, 124]) = false) (e2 : (X.toList == [61, 61]) = false) (e3 : (X.toList == [33, 61]) = false) (e4 : (X.toList == [60, 61]) = false) (e5 : (X.toList == [62, 61]) = false) (f0 : ((s[0].toNat : Int) == 43) = false) (f1 : ((s[0].toNat : Int) == 45) = false) (f2 : ((s[0].toNat : Int) == 42) = false) (f3 : ((s[0].toNat : Int) == 47) = false) (f4 : ((s[0].toNat : Int) == 37) = true) : Calls Try.prog 38 #[.string s] w fun e w' => e = .returned (.int .i64 1) ∧ w = w' := by
  have h2 : (2 : Int) ≤ s.size := by omega
  have h3 : 2 ≤ s.size := by omega
  go_enter Try.func38, Try.ntmps38
  go_wp2
  go_ret
  exact ⟨rfl, rfl⟩

theorem sign1_5_0 (s X : ByteArray) (w : World) (h0 : 0 < s.size) (h1 : ¬ 1 < s.size) (f0 : ((s[0].toNat : Int) == 43) = false) (f1 : ((s[0].toNat : Int) == 45) = false) (f2 : ((s[0].toNat : Int) == 42) = false) (f3 : ((s[0].toNat : Int) == 47) = false) (f4 : ((s[0].toNat : Int) == 37) = false) (f5 : ((s[0].toNat : Int) == 60) = true) : Calls Try.prog 38 #[.string s] w fun e w' => e = .returned (.int .i64 1) ∧ w = w' := by
  have h2 : ¬ (1 : Int) < s.size := by omega
  go_enter Try.func38, Try.ntmps38
  go_wp2
  go_ret
  exact ⟨rfl, rfl⟩

theorem sign1_5_1 (s X : ByteArray) (w : World) (h0 : 0 < s.size) (h1 : 1 < s.size) (hX : s.extract 0 2 = X) (e0 : (X.toList == [38, 38]) = false) (e1 : (X.toList == [124, 124]) = false) (e2 : (X.toList == [61, 61]) = false) (e3 : (X.toList == [33, 61]) = false) (e4 : (X.toList == [60, 61]) = false) (e5 : (X.toList == [62, 61]) = false) (f0 : ((s[0].toNat : Int) == 43) = false) (f1 : ((s[0].toNat : Int) == 45) = false) (f2 : ((s[0].toNat : Int) == 42) = false) (f3 : ((s[0].toNat : Int) == 47) = false) (f4 : ((s[0].toNat : Int) == 37) = false) (f5 : ((s[0].toNat : Int) == 60) = true) : Calls Try.prog 38 #[.string s] w fun e w' => e = .returned (.int .i64 1) ∧ w = w' := by
  have h2 : (2 : Int) ≤ s.size := by omega
  have h3 : 2 ≤ s.size := by omega
  go_enter Try.func38, Try.ntmps38
  go_wp2
  go_ret
  exact ⟨rfl, rfl⟩

theorem sign1_6_0 (s X : ByteArray) (w : World) (h0 : 0 < s.size) (h1 : ¬ 1 < s.size) (f0 : ((s[0].toNat : Int) == 43) = false) (f1 : ((s[0].toNat : Int) == 45) = false) (f2 : ((s[0].toNat : Int) == 42) = false) (f3 : ((s[0].toNat : Int) == 47) = false) (f4 : ((s[0].toNat : Int) == 37) = false) (f5 : ((s[0].toNat : Int) == 60) = false) (f6 : ((s[0].toNat : Int) == 62) = true) : Calls Try.prog 38 #[.string s] w fun e w' => e = .returned (.int .i64 1) ∧ w = w' := by
  have h2 : ¬ (1 : Int) < s.size := by omega
  go_enter Try.func38, Try.ntmps38
  go_wp2
  go_ret
  exact ⟨rfl, rfl⟩

theorem sign1_6_1 (s X : ByteArray) (w : World) (h0 : 0 < s.size) (h1 : 1 < s.size) (hX : s.extract 0 2 = X) (e0 : (X.toList == [38, 38]) = false) (e1 : (X.toList == [124, 124]) = false) (e2 : (X.toList == [61, 61]) = false) (e3 : (X.toList == [33, 61]) = false) (e4 : (X.toList == [60, 61]) = false) (e5 : (X.toList == [62, 61]) = false) (f0 : ((s[0].toNat : Int) == 43) = false) (f1 : ((s[0].toNat : Int) == 45) = false) (f2 : ((s[0].toNat : Int) == 42) = false) (f3 : ((s[0].toNat : Int) == 47) = false) (f4 : ((s[0].toNat : Int) == 37) = false) (f5 : ((s[0].toNat : Int) == 60) = false) (f6 : ((s[0].toNat : Int) == 62) = true) : Calls Try.prog 38 #[.string s] w fun e w' => e = .returned (.int .i64 1) ∧ w = w' := by
  have h2 : (2 : Int) ≤ s.size := by omega
  have h3 : 2 ≤ s.size := by omega
  go_enter Try.func38, Try.ntmps38
  go_wp2
  go_ret
  exact ⟨rfl, rfl⟩

theorem sign1_7_0 (s X : ByteArray) (w : World) (h0 : 0 < s.size) (h1 : ¬ 1 < s.size) (f0 : ((s[0].toNat : Int) == 43) = false) (f1 : ((s[0].toNat : Int) == 45) = false) (f2 : ((s[0].toNat : Int) == 42) = false) (f3 : ((s[0].toNat : Int) == 47) = false) (f4 : ((s[0].toNat : Int) == 37) = false) (f5 : ((s[0].toNat : Int) == 60) = false) (f6 : ((s[0].toNat : Int) == 62) = false) (f7 : ((s[0].toNat : Int) == 33) = true) : Calls Try.prog 38 #[.string s] w fun e w' => e = .returned (.int .i64 1) ∧ w = w' := by
  have h2 : ¬ (1 : Int) < s.size := by omega
  go_enter Try.func38, Try.ntmps38
  go_wp2
  go_ret
  exact ⟨rfl, rfl⟩

theorem sign1_7_1 (s X : ByteArray) (w : World) (h0 : 0 < s.size) (h1 : 1 < s.size) (hX : s.extract 0 2 = X) (e0 : (X.toList == [38, 38]) = false) (e1 : (X.toList == [124, 124]) = false) (e2 : (X.toList == [61, 61]) = false) (e3 : (X.toList == [33, 61]) = false) (e4 : (X.toList == [60, 61]) = false) (e5 : (X.toList == [62, 61]) = false) (f0 : ((s[0].toNat : Int) == 43) = false) (f1 : ((s[0].toNat : Int) == 45) = false) (f2 : ((s[0].toNat : Int) == 42) = false) (f3 : ((s[0].toNat : Int) == 47) = false) (f4 : ((s[0].toNat : Int) == 37) = false) (f5 : ((s[0].toNat : Int) == 60) = false) (f6 : ((s[0].toNat : Int) == 62) = false) (f7 : ((s[0].toNat : Int) == 33) = true) : Calls Try.prog 38 #[.string s] w fun e w' => e = .returned (.int .i64 1) ∧ w = w' := by
  have h2 : (2 : Int) ≤ s.size := by omega
  have h3 : 2 ≤ s.size := by omega
  go_enter Try.func38, Try.ntmps38
  go_wp2
  go_ret
  exact ⟨rfl, rfl⟩

theorem sign1_8_0 (s X : ByteArray) (w : World) (h0 : 0 < s.size) (h1 : ¬ 1 < s.size) (f0 : ((s[0].toNat : Int) == 43) = false) (f1 : ((s[0].toNat : Int) == 45) = false) (f2 : ((s[0].toNat : Int) == 42) = false) (f3 : ((s[0].toNat : Int) == 47) = false) (f4 : ((s[0].toNat : Int) == 37) = false) (f5 : ((s[0].toNat : Int) == 60) = false) (f6 : ((s[0].toNat : Int) == 62) = false) (f7 : ((s[0].toNat : Int) == 33) = false) (f8 : ((s[0].toNat : Int) == 61) = true) : Calls Try.prog 38 #[.string s] w fun e w' => e = .returned (.int .i64 1) ∧ w = w' := by
  have h2 : ¬ (1 : Int) < s.size := by omega
  go_enter Try.func38, Try.ntmps38
  go_wp2
  go_ret
  exact ⟨rfl, rfl⟩

theorem sign1_8_1 (s X : ByteArray) (w : World) (h0 : 0 < s.size) (h1 : 1 < s.size) (hX : s.extract 0 2 = X) (e0 : (X.toList == [38, 38]) = false) (e1 : (X.toList == [124, 124]) = false) (e2 : (X.toList == [61, 61]) = false) (e3 : (X.toList == [33, 61]) = false) (e4 : (X.toList == [60, 61]) = false) (e5 : (X.toList == [62, 61]) = false) (f0 : ((s[0].toNat : Int) == 43) = false) (f1 : ((s[0].toNat : Int) == 45) = false) (f2 : ((s[0].toNat : Int) == 42) = false) (f3 : ((s[0].toNat : Int) == 47) = false) (f4 : ((s[0].toNat : Int) == 37) = false) (f5 : ((s[0].toNat : Int) == 60) = false) (f6 : ((s[0].toNat : Int) == 62) = false) (f7 : ((s[0].toNat : Int) == 33) = false) (f8 : ((s[0].toNat : Int) == 61) = true) : Calls Try.prog 38 #[.string s] w fun e w' => e = .returned (.int .i64 1) ∧ w = w' := by
  have h2 : (2 : Int) ≤ s.size := by omega
  have h3 : 2 ≤ s.size := by omega
  go_enter Try.func38, Try.ntmps38
  go_wp2
  go_ret
  exact ⟨rfl, rfl⟩

theorem sign1_9_0 (s X : ByteArray) (w : World) (h0 : 0 < s.size) (h1 : ¬ 1 < s.size) (f0 : ((s[0].toNat : Int) == 43) = false) (f1 : ((s[0].toNat : Int) == 45) = false) (f2 : ((s[0].toNat : Int) == 42) = false) (f3 : ((s[0].toNat : Int) == 47) = false) (f4 : ((s[0].toNat : Int) == 37) = false) (f5 : ((s[0].toNat : Int) == 60) = false) (f6 : ((s[0].toNat : Int) == 62) = false) (f7 : ((s[0].toNat : Int) == 33) = false) (f8 : ((s[0].toNat : Int) == 61) = false) (f9 : ((s[0].toNat : Int) == 40) = true) : Calls Try.prog 38 #[.string s] w fun e w' => e = .returned (.int .i64 1) ∧ w = w' := by
  have h2 : ¬ (1 : Int) < s.size := by omega
  go_enter Try.func38, Try.ntmps38
  go_wp2
  go_ret
  exact ⟨rfl, rfl⟩

theorem sign1_9_1 (s X : ByteArray) (w : World) (h0 : 0 < s.size) (h1 : 1 < s.size) (hX : s.extract 0 2 = X) (e0 : (X.toList == [38, 38]) = false) (e1 : (X.toList == [124, 124]) = false) (e2 : (X.toList == [61, 61]) = false) (e3 : (X.toList == [33, 61]) = false) (e4 : (X.toList == [60, 61]) = false) (e5 : (X.toList == [62, 61]) = false) (f0 : ((s[0].toNat : Int) == 43) = false) (f1 : ((s[0].toNat : Int) == 45) = false) (f2 : ((s[0].toNat : Int) == 42) = false) (f3 : ((s[0].toNat : Int) == 47) = false) (f4 : ((s[0].toNat : Int) == 37) = false) (f5 : ((s[0].toNat : Int) == 60) = false) (f6 : ((s[0].toNat : Int) == 62) = false) (f7 : ((s[0].toNat : Int) == 33) = false) (f8 : ((s[0].toNat : Int) == 61) = false) (f9 : ((s[0].toNat : Int) == 40) = true) : Calls Try.prog 38 #[.string s] w fun e w' => e = .returned (.int .i64 1) ∧ w = w' := by
  have h2 : (2 : Int) ≤ s.size := by omega
  have h3 : 2 ≤ s.size := by omega
  go_enter Try.func38, Try.ntmps38
  go_wp2
  go_ret
  exact ⟨rfl, rfl⟩

theorem sign1_10_0 (s X : ByteArray) (w : World) (h0 : 0 < s.size) (h1 : ¬ 1 < s.size) (f0 : ((s[0].toNat : Int) == 43) = false) (f1 : ((s[0].toNat : Int) == 45) = false) (f2 : ((s[0].toNat : Int) == 42) = false) (f3 : ((s[0].toNat : Int) == 47) = false) (f4 : ((s[0].toNat : Int) == 37) = false) (f5 : ((s[0].toNat : Int) == 60) = false) (f6 : ((s[0].toNat : Int) == 62) = false) (f7 : ((s[0].toNat : Int) == 33) = false) (f8 : ((s[0].toNat : Int) == 61) = false) (f9 : ((s[0].toNat : Int) == 40) = false) (f10 : ((s[0].toNat : Int) == 41) = true) : Calls Try.prog 38 #[.string s] w fun e w' => e = .returned (.int .i64 1) ∧ w = w' := by
  have h2 : ¬ (1 : Int) < s.size := by omega
  go_enter Try.func38, Try.ntmps38
  go_wp2
  go_ret
  exact ⟨rfl, rfl⟩

theorem sign1_10_1 (s X : ByteArray) (w : World) (h0 : 0 < s.size) (h1 : 1 < s.size) (hX : s.extract 0 2 = X) (e0 : (X.toList == [38, 38]) = false) (e1 : (X.toList == [124, 124]) = false) (e2 : (X.toList == [61, 61]) = false) (e3 : (X.toList == [33, 61]) = false) (e4 : (X.toList == [60, 61]) = false) (e5 : (X.toList == [62, 61]) = false) (f0 : ((s[0].toNat : Int) == 43) = false) (f1 : ((s[0].toNat : Int) == 45) = false) (f2 : ((s[0].toNat : Int) == 42) = false) (f3 : ((s[0].toNat : Int) == 47) = false) (f4 : ((s[0].toNat : Int) == 37) = false) (f5 : ((s[0].toNat : Int) == 60) = false) (f6 : ((s[0].toNat : Int) == 62) = false) (f7 : ((s[0].toNat : Int) == 33) = false) (f8 : ((s[0].toNat : Int) == 61) = false) (f9 : ((s[0].toNat : Int) == 40) = false) (f10 : ((s[0].toNat : Int) == 41) = true) : Calls Try.prog 38 #[.string s] w fun e w' => e = .returned (.int .i64 1) ∧ w = w' := by
  have h2 : (2 : Int) ≤ s.size := by omega
  have h3 : 2 ≤ s.size := by omega
  go_enter Try.func38, Try.ntmps38
  go_wp2
  go_ret
  exact ⟨rfl, rfl⟩

theorem sign1_11_0 (s X : ByteArray) (w : World) (h0 : 0 < s.size) (h1 : ¬ 1 < s.size) (f0 : ((s[0].toNat : Int) == 43) = false) (f1 : ((s[0].toNat : Int) == 45) = false) (f2 : ((s[0].toNat : Int) == 42) = false) (f3 : ((s[0].toNat : Int) == 47) = false) (f4 : ((s[0].toNat : Int) == 37) = false) (f5 : ((s[0].toNat : Int) == 60) = false) (f6 : ((s[0].toNat : Int) == 62) = false) (f7 : ((s[0].toNat : Int) == 33) = false) (f8 : ((s[0].toNat : Int) == 61) = false) (f9 : ((s[0].toNat : Int) == 40) = false) (f10 : ((s[0].toNat : Int) == 41) = false) (f11 : ((s[0].toNat : Int) == 123) = true) : Calls Try.prog 38 #[.string s] w fun e w' => e = .returned (.int .i64 1) ∧ w = w' := by
  have h2 : ¬ (1 : Int) < s.size := by omega
  go_enter Try.func38, Try.ntmps38
  go_wp2
  go_ret
  exact ⟨rfl, rfl⟩

theorem sign1_11_1 (s X : ByteArray) (w : World) (h0 : 0 < s.size) (h1 : 1 < s.size) (hX : s.extract 0 2 = X) (e0 : (X.toList == [38, 38]) = false) (e1 : (X.toList == [124, 124]) = false) (e2 : (X.toList == [61, 61]) = false) (e3 : (X.toList == [33, 61]) = false) (e4 : (X.toList == [60, 61]) = false) (e5 : (X.toList == [62, 61]) = false) (f0 : ((s[0].toNat : Int) == 43) = false) (f1 : ((s[0].toNat : Int) == 45) = false) (f2 : ((s[0].toNat : Int) == 42) = false) (f3 : ((s[0].toNat : Int) == 47) = false) (f4 : ((s[0].toNat : Int) == 37) = false) (f5 : ((s[0].toNat : Int) == 60) = false) (f6 : ((s[0].toNat : Int) == 62) = false) (f7 : ((s[0].toNat : Int) == 33) = false) (f8 : ((s[0].toNat : Int) == 61) = false) (f9 : ((s[0].toNat : Int) == 40) = false) (f10 : ((s[0].toNat : Int) == 41) = false) (f11 : ((s[0].toNat : Int) == 123) = true) : Calls Try.prog 38 #[.string s] w fun e w' => e = .returned (.int .i64 1) ∧ w = w' := by
  have h2 : (2 : Int) ≤ s.size := by omega
  have h3 : 2 ≤ s.size := by omega
  go_enter Try.func38, Try.ntmps38
  go_wp2
  go_ret
  exact ⟨rfl, rfl⟩

theorem sign1_12_0 (s X : ByteArray) (w : World) (h0 : 0 < s.size) (h1 : ¬ 1 < s.size) (f0 : ((s[0].toNat : Int) == 43) = false) (f1 : ((s[0].toNat : Int) == 45) = false) (f2 : ((s[0].toNat : Int) == 42) = false) (f3 : ((s[0].toNat : Int) == 47) = false) (f4 : ((s[0].toNat : Int) == 37) = false) (f5 : ((s[0].toNat : Int) == 60) = false) (f6 : ((s[0].toNat : Int) == 62) = false) (f7 : ((s[0].toNat : Int) == 33) = false) (f8 : ((s[0].toNat : Int) == 61) = false) (f9 : ((s[0].toNat : Int) == 40) = false) (f10 : ((s[0].toNat : Int) == 41) = false) (f11 : ((s[0].toNat : Int) == 123) = false) (f12 : ((s[0].toNat : Int) == 125) = true) : Calls Try.prog 38 #[.string s] w fun e w' => e = .returned (.int .i64 1) ∧ w = w' := by
  have h2 : ¬ (1 : Int) < s.size := by omega
  go_enter Try.func38, Try.ntmps38
  go_wp2
  go_ret
  exact ⟨rfl, rfl⟩

theorem sign1_12_1 (s X : ByteArray) (w : World) (h0 : 0 < s.size) (h1 : 1 < s.size) (hX : s.extract 0 2 = X) (e0 : (X.toList == [38, 38]) = false) (e1 : (X.toList == [124, 124]) = false) (e2 : (X.toList == [61, 61]) = false) (e3 : (X.toList == [33, 61]) = false) (e4 : (X.toList == [60, 61]) = false) (e5 : (X.toList == [62, 61]) = false) (f0 : ((s[0].toNat : Int) == 43) = false) (f1 : ((s[0].toNat : Int) == 45) = false) (f2 : ((s[0].toNat : Int) == 42) = false) (f3 : ((s[0].toNat : Int) == 47) = false) (f4 : ((s[0].toNat : Int) == 37) = false) (f5 : ((s[0].toNat : Int) == 60) = false) (f6 : ((s[0].toNat : Int) == 62) = false) (f7 : ((s[0].toNat : Int) == 33) = false) (f8 : ((s[0].toNat : Int) == 61) = false) (f9 : ((s[0].toNat : Int) == 40) = false) (f10 : ((s[0].toNat : Int) == 41) = false) (f11 : ((s[0].toNat : Int) == 123) = false) (f12 : ((s[0].toNat : Int) == 125) = true) : Calls Try.prog 38 #[.string s] w fun e w' => e = .returned (.int .i64 1) ∧ w = w' := by
  have h2 : (2 : Int) ≤ s.size := by omega
  have h3 : 2 ≤ s.size := by omega
  go_enter Try.func38, Try.ntmps38
  go_wp2
  go_ret
  exact ⟨rfl, rfl⟩

theorem sign1_13_0 (s X : ByteArray) (w : World) (h0 : 0 < s.size) (h1 : ¬ 1 < s.size) (f0 : ((s[0].toNat : Int) == 43) = false) (f1 : ((s[0].toNat : Int) == 45) = false) (f2 : ((s[0].toNat : Int) == 42) = false) (f3 : ((s[0].toNat : Int) == 47) = false) (f4 : ((s[0].toNat : Int) == 37) = false) (f5 : ((s[0].toNat : Int) == 60) = false) (f6 : ((s[0].toNat : Int) == 62) = false) (f7 : ((s[0].toNat : Int) == 33) = false) (f8 : ((s[0].toNat : Int) == 61) = false) (f9 : ((s[0].toNat : Int) == 40) = false) (f10 : ((s[0].toNat : Int) == 41) = false) (f11 : ((s[0].toNat : Int) == 123) = false) (f12 : ((s[0].toNat : Int) == 125) = false) (f13 : ((s[0].toNat : Int) == 91) = true) : Calls Try.prog 38 #[.string s] w fun e w' => e = .returned (.int .i64 1) ∧ w = w' := by
  have h2 : ¬ (1 : Int) < s.size := by omega
  go_enter Try.func38, Try.ntmps38
  go_wp2
  go_ret
  exact ⟨rfl, rfl⟩

theorem sign1_13_1 (s X : ByteArray) (w : World) (h0 : 0 < s.size) (h1 : 1 < s.size) (hX : s.extract 0 2 = X) (e0 : (X.toList == [38, 38]) = false) (e1 : (X.toList == [124, 124]) = false) (e2 : (X.toList == [61, 61]) = false) (e3 : (X.toList == [33, 61]) = false) (e4 : (X.toList == [60, 61]) = false) (e5 : (X.toList == [62, 61]) = false) (f0 : ((s[0].toNat : Int) == 43) = false) (f1 : ((s[0].toNat : Int) == 45) = false) (f2 : ((s[0].toNat : Int) == 42) = false) (f3 : ((s[0].toNat : Int) == 47) = false) (f4 : ((s[0].toNat : Int) == 37) = false) (f5 : ((s[0].toNat : Int) == 60) = false) (f6 : ((s[0].toNat : Int) == 62) = false) (f7 : ((s[0].toNat : Int) == 33) = false) (f8 : ((s[0].toNat : Int) == 61) = false) (f9 : ((s[0].toNat : Int) == 40) = false) (f10 : ((s[0].toNat : Int) == 41) = false) (f11 : ((s[0].toNat : Int) == 123) = false) (f12 : ((s[0].toNat : Int) == 125) = false) (f13 : ((s[0].toNat : Int) == 91) = true) : Calls Try.prog 38 #[.string s] w fun e w' => e = .returned (.int .i64 1) ∧ w = w' := by
  have h2 : (2 : Int) ≤ s.size := by omega
  have h3 : 2 ≤ s.size := by omega
  go_enter Try.func38, Try.ntmps38
  go_wp2
  go_ret
  exact ⟨rfl, rfl⟩

theorem sign1_14_0 (s X : ByteArray) (w : World) (h0 : 0 < s.size) (h1 : ¬ 1 < s.size) (f0 : ((s[0].toNat : Int) == 43) = false) (f1 : ((s[0].toNat : Int) == 45) = false) (f2 : ((s[0].toNat : Int) == 42) = false) (f3 : ((s[0].toNat : Int) == 47) = false) (f4 : ((s[0].toNat : Int) == 37) = false) (f5 : ((s[0].toNat : Int) == 60) = false) (f6 : ((s[0].toNat : Int) == 62) = false) (f7 : ((s[0].toNat : Int) == 33) = false) (f8 : ((s[0].toNat : Int) == 61) = false) (f9 : ((s[0].toNat : Int) == 40) = false) (f10 : ((s[0].toNat : Int) == 41) = false) (f11 : ((s[0].toNat : Int) == 123) = false) (f12 : ((s[0].toNat : Int) == 125) = false) (f13 : ((s[0].toNat : Int) == 91) = false) (f14 : ((s[0].toNat : Int) == 93) = true) : Calls Try.prog 38 #[.string s] w fun e w' => e = .returned (.int .i64 1) ∧ w = w' := by
  have h2 : ¬ (1 : Int) < s.size := by omega
  go_enter Try.func38, Try.ntmps38
  go_wp2
  go_ret
  exact ⟨rfl, rfl⟩

theorem sign1_14_1 (s X : ByteArray) (w : World) (h0 : 0 < s.size) (h1 : 1 < s.size) (hX : s.extract 0 2 = X) (e0 : (X.toList == [38, 38]) = false) (e1 : (X.toList == [124, 124]) = false) (e2 : (X.toList == [61, 61]) = false) (e3 : (X.toList == [33, 61]) = false) (e4 : (X.toList == [60, 61]) = false) (e5 : (X.toList == [62, 61]) = false) (f0 : ((s[0].toNat : Int) == 43) = false) (f1 : ((s[0].toNat : Int) == 45) = false) (f2 : ((s[0].toNat : Int) == 42) = false) (f3 : ((s[0].toNat : Int) == 47) = false) (f4 : ((s[0].toNat : Int) == 37) = false) (f5 : ((s[0].toNat : Int) == 60) = false) (f6 : ((s[0].toNat : Int) == 62) = false) (f7 : ((s[0].toNat : Int) == 33) = false) (f8 : ((s[0].toNat : Int) == 61) = false) (f9 : ((s[0].toNat : Int) == 40) = false) (f10 : ((s[0].toNat : Int) == 41) = false) (f11 : ((s[0].toNat : Int) == 123) = false) (f12 : ((s[0].toNat : Int) == 125) = false) (f13 : ((s[0].toNat : Int) == 91) = false) (f14 : ((s[0].toNat : Int) == 93) = true) : Calls Try.prog 38 #[.string s] w fun e w' => e = .returned (.int .i64 1) ∧ w = w' := by
  have h2 : (2 : Int) ≤ s.size := by omega
  have h3 : 2 ≤ s.size := by omega
  go_enter Try.func38, Try.ntmps38
  go_wp2
  go_ret
  exact ⟨rfl, rfl⟩

theorem sign1_15_0 (s X : ByteArray) (w : World) (h0 : 0 < s.size) (h1 : ¬ 1 < s.size) (f0 : ((s[0].toNat : Int) == 43) = false) (f1 : ((s[0].toNat : Int) == 45) = false) (f2 : ((s[0].toNat : Int) == 42) = false) (f3 : ((s[0].toNat : Int) == 47) = false) (f4 : ((s[0].toNat : Int) == 37) = false) (f5 : ((s[0].toNat : Int) == 60) = false) (f6 : ((s[0].toNat : Int) == 62) = false) (f7 : ((s[0].toNat : Int) == 33) = false) (f8 : ((s[0].toNat : Int) == 61) = false) (f9 : ((s[0].toNat : Int) == 40) = false) (f10 : ((s[0].toNat : Int) == 41) = false) (f11 : ((s[0].toNat : Int) == 123) = false) (f12 : ((s[0].toNat : Int) == 125) = false) (f13 : ((s[0].toNat : Int) == 91) = false) (f14 : ((s[0].toNat : Int) == 93) = false) (f15 : ((s[0].toNat : Int) == 44) = true) : Calls Try.prog 38 #[.string s] w fun e w' => e = .returned (.int .i64 1) ∧ w = w' := by
  have h2 : ¬ (1 : Int) < s.size := by omega
  go_enter Try.func38, Try.ntmps38
  go_wp2
  go_ret
  exact ⟨rfl, rfl⟩

theorem sign1_15_1 (s X : ByteArray) (w : World) (h0 : 0 < s.size) (h1 : 1 < s.size) (hX : s.extract 0 2 = X) (e0 : (X.toList == [38, 38]) = false) (e1 : (X.toList == [124, 124]) = false) (e2 : (X.toList == [61, 61]) = false) (e3 : (X.toList == [33, 61]) = false) (e4 : (X.toList == [60, 61]) = false) (e5 : (X.toList == [62, 61]) = false) (f0 : ((s[0].toNat : Int) == 43) = false) (f1 : ((s[0].toNat : Int) == 45) = false) (f2 : ((s[0].toNat : Int) == 42) = false) (f3 : ((s[0].toNat : Int) == 47) = false) (f4 : ((s[0].toNat : Int) == 37) = false) (f5 : ((s[0].toNat : Int) == 60) = false) (f6 : ((s[0].toNat : Int) == 62) = false) (f7 : ((s[0].toNat : Int) == 33) = false) (f8 : ((s[0].toNat : Int) == 61) = false) (f9 : ((s[0].toNat : Int) == 40) = false) (f10 : ((s[0].toNat : Int) == 41) = false) (f11 : ((s[0].toNat : Int) == 123) = false) (f12 : ((s[0].toNat : Int) == 125) = false) (f13 : ((s[0].toNat : Int) == 91) = false) (f14 : ((s[0].toNat : Int) == 93) = false) (f15 : ((s[0].toNat : Int) == 44) = true) : Calls Try.prog 38 #[.string s] w fun e w' => e = .returned (.int .i64 1) ∧ w = w' := by
  have h2 : (2 : Int) ≤ s.size := by omega
  have h3 : 2 ≤ s.size := by omega
  go_enter Try.func38, Try.ntmps38
  go_wp2
  go_ret
  exact ⟨rfl, rfl⟩

theorem sign1_16_0 (s X : ByteArray) (w : World) (h0 : 0 < s.size) (h1 : ¬ 1 < s.size) (f0 : ((s[0].toNat : Int) == 43) = false) (f1 : ((s[0].toNat : Int) == 45) = false) (f2 : ((s[0].toNat : Int) == 42) = false) (f3 : ((s[0].toNat : Int) == 47) = false) (f4 : ((s[0].toNat : Int) == 37) = false) (f5 : ((s[0].toNat : Int) == 60) = false) (f6 : ((s[0].toNat : Int) == 62) = false) (f7 : ((s[0].toNat : Int) == 33) = false) (f8 : ((s[0].toNat : Int) == 61) = false) (f9 : ((s[0].toNat : Int) == 40) = false) (f10 : ((s[0].toNat : Int) == 41) = false) (f11 : ((s[0].toNat : Int) == 123) = false) (f12 : ((s[0].toNat : Int) == 125) = false) (f13 : ((s[0].toNat : Int) == 91) = false) (f14 : ((s[0].toNat : Int) == 93) = false) (f15 : ((s[0].toNat : Int) == 44) = false) (f16 : ((s[0].toNat : Int) == 59) = true) : Calls Try.prog 38 #[.string s] w fun e w' => e = .returned (.int .i64 1) ∧ w = w' := by
  have h2 : ¬ (1 : Int) < s.size := by omega
  go_enter Try.func38, Try.ntmps38
  go_wp2
  go_ret
  exact ⟨rfl, rfl⟩

theorem sign1_16_1 (s X : ByteArray) (w : World) (h0 : 0 < s.size) (h1 : 1 < s.size) (hX : s.extract 0 2 = X) (e0 : (X.toList == [38, 38]) = false) (e1 : (X.toList == [124, 124]) = false) (e2 : (X.toList == [61, 61]) = false) (e3 : (X.toList == [33, 61]) = false) (e4 : (X.toList == [60, 61]) = false) (e5 : (X.toList == [62, 61]) = false) (f0 : ((s[0].toNat : Int) == 43) = false) (f1 : ((s[0].toNat : Int) == 45) = false) (f2 : ((s[0].toNat : Int) == 42) = false) (f3 : ((s[0].toNat : Int) == 47) = false) (f4 : ((s[0].toNat : Int) == 37) = false) (f5 : ((s[0].toNat : Int) == 60) = false) (f6 : ((s[0].toNat : Int) == 62) = false) (f7 : ((s[0].toNat : Int) == 33) = false) (f8 : ((s[0].toNat : Int) == 61) = false) (f9 : ((s[0].toNat : Int) == 40) = false) (f10 : ((s[0].toNat : Int) == 41) = false) (f11 : ((s[0].toNat : Int) == 123) = false) (f12 : ((s[0].toNat : Int) == 125) = false) (f13 : ((s[0].toNat : Int) == 91) = false) (f14 : ((s[0].toNat : Int) == 93) = false) (f15 : ((s[0].toNat : Int) == 44) = false) (f16 : ((s[0].toNat : Int) == 59) = true) : Calls Try.prog 38 #[.string s] w fun e w' => e = .returned (.int .i64 1) ∧ w = w' := by
  have h2 : (2 : Int) ≤ s.size := by omega
  have h3 : 2 ≤ s.size := by omega
  go_enter Try.func38, Try.ntmps38
  go_wp2
  go_ret
  exact ⟨rfl, rfl⟩

theorem sign1_17_0 (s X : ByteArray) (w : World) (h0 : 0 < s.size) (h1 : ¬ 1 < s.size) (f0 : ((s[0].toNat : Int) == 43) = false) (f1 : ((s[0].toNat : Int) == 45) = false) (f2 : ((s[0].toNat : Int) == 42) = false) (f3 : ((s[0].toNat : Int) == 47) = false) (f4 : ((s[0].toNat : Int) == 37) = false) (f5 : ((s[0].toNat : Int) == 60) = false) (f6 : ((s[0].toNat : Int) == 62) = false) (f7 : ((s[0].toNat : Int) == 33) = false) (f8 : ((s[0].toNat : Int) == 61) = false) (f9 : ((s[0].toNat : Int) == 40) = false) (f10 : ((s[0].toNat : Int) == 41) = false) (f11 : ((s[0].toNat : Int) == 123) = false) (f12 : ((s[0].toNat : Int) == 125) = false) (f13 : ((s[0].toNat : Int) == 91) = false) (f14 : ((s[0].toNat : Int) == 93) = false) (f15 : ((s[0].toNat : Int) == 44) = false) (f16 : ((s[0].toNat : Int) == 59) = false) (f17 : ((s[0].toNat : Int) == 58) = true) : Calls Try.prog 38 #[.string s] w fun e w' => e = .returned (.int .i64 1) ∧ w = w' := by
  have h2 : ¬ (1 : Int) < s.size := by omega
  go_enter Try.func38, Try.ntmps38
  go_wp2
  go_ret
  exact ⟨rfl, rfl⟩

theorem sign1_17_1 (s X : ByteArray) (w : World) (h0 : 0 < s.size) (h1 : 1 < s.size) (hX : s.extract 0 2 = X) (e0 : (X.toList == [38, 38]) = false) (e1 : (X.toList == [124, 124]) = false) (e2 : (X.toList == [61, 61]) = false) (e3 : (X.toList == [33, 61]) = false) (e4 : (X.toList == [60, 61]) = false) (e5 : (X.toList == [62, 61]) = false) (f0 : ((s[0].toNat : Int) == 43) = false) (f1 : ((s[0].toNat : Int) == 45) = false) (f2 : ((s[0].toNat : Int) == 42) = false) (f3 : ((s[0].toNat : Int) == 47) = false) (f4 : ((s[0].toNat : Int) == 37) = false) (f5 : ((s[0].toNat : Int) == 60) = false) (f6 : ((s[0].toNat : Int) == 62) = false) (f7 : ((s[0].toNat : Int) == 33) = false) (f8 : ((s[0].toNat : Int) == 61) = false) (f9 : ((s[0].toNat : Int) == 40) = false) (f10 : ((s[0].toNat : Int) == 41) = false) (f11 : ((s[0].toNat : Int) == 123) = false) (f12 : ((s[0].toNat : Int) == 125) = false) (f13 : ((s[0].toNat : Int) == 91) = false) (f14 : ((s[0].toNat : Int) == 93) = false) (f15 : ((s[0].toNat : Int) == 44) = false) (f16 : ((s[0].toNat : Int) == 59) = false) (f17 : ((s[0].toNat : Int) == 58) = true) : Calls Try.prog 38 #[.string s] w fun e w' => e = .returned (.int .i64 1) ∧ w = w' := by
  have h2 : (2 : Int) ≤ s.size := by omega
  have h3 : 2 ≤ s.size := by omega
  go_enter Try.func38, Try.ntmps38
  go_wp2
  go_ret
  exact ⟨rfl, rfl⟩

theorem sign1_18_0 (s X : ByteArray) (w : World) (h0 : 0 < s.size) (h1 : ¬ 1 < s.size) (f0 : ((s[0].toNat : Int) == 43) = false) (f1 : ((s[0].toNat : Int) == 45) = false) (f2 : ((s[0].toNat : Int) == 42) = false) (f3 : ((s[0].toNat : Int) == 47) = false) (f4 : ((s[0].toNat : Int) == 37) = false) (f5 : ((s[0].toNat : Int) == 60) = false) (f6 : ((s[0].toNat : Int) == 62) = false) (f7 : ((s[0].toNat : Int) == 33) = false) (f8 : ((s[0].toNat : Int) == 61) = false) (f9 : ((s[0].toNat : Int) == 40) = false) (f10 : ((s[0].toNat : Int) == 41) = false) (f11 : ((s[0].toNat : Int) == 123) = false) (f12 : ((s[0].toNat : Int) == 125) = false) (f13 : ((s[0].toNat : Int) == 91) = false) (f14 : ((s[0].toNat : Int) == 93) = false) (f15 : ((s[0].toNat : Int) == 44) = false) (f16 : ((s[0].toNat : Int) == 59) = false) (f17 : ((s[0].toNat : Int) == 58) = false) (f18 : ((s[0].toNat : Int) == 46) = true) : Calls Try.prog 38 #[.string s] w fun e w' => e = .returned (.int .i64 1) ∧ w = w' := by
  have h2 : ¬ (1 : Int) < s.size := by omega
  go_enter Try.func38, Try.ntmps38
  go_wp2
  go_ret
  exact ⟨rfl, rfl⟩

theorem sign1_18_1 (s X : ByteArray) (w : World) (h0 : 0 < s.size) (h1 : 1 < s.size) (hX : s.extract 0 2 = X) (e0 : (X.toList == [38, 38]) = false) (e1 : (X.toList == [124, 124]) = false) (e2 : (X.toList == [61, 61]) = false) (e3 : (X.toList == [33, 61]) = false) (e4 : (X.toList == [60, 61]) = false) (e5 : (X.toList == [62, 61]) = false) (f0 : ((s[0].toNat : Int) == 43) = false) (f1 : ((s[0].toNat : Int) == 45) = false) (f2 : ((s[0].toNat : Int) == 42) = false) (f3 : ((s[0].toNat : Int) == 47) = false) (f4 : ((s[0].toNat : Int) == 37) = false) (f5 : ((s[0].toNat : Int) == 60) = false) (f6 : ((s[0].toNat : Int) == 62) = false) (f7 : ((s[0].toNat : Int) == 33) = false) (f8 : ((s[0].toNat : Int) == 61) = false) (f9 : ((s[0].toNat : Int) == 40) = false) (f10 : ((s[0].toNat : Int) == 41) = false) (f11 : ((s[0].toNat : Int) == 123) = false) (f12 : ((s[0].toNat : Int) == 125) = false) (f13 : ((s[0].toNat : Int) == 91) = false) (f14 : ((s[0].toNat : Int) == 93) = false) (f15 : ((s[0].toNat : Int) == 44) = false) (f16 : ((s[0].toNat : Int) == 59) = false) (f17 : ((s[0].toNat : Int) == 58) = false) (f18 : ((s[0].toNat : Int) == 46) = true) : Calls Try.prog 38 #[.string s] w fun e w' => e = .returned (.int .i64 1) ∧ w = w' := by
  have h2 : (2 : Int) ≤ s.size := by omega
  have h3 : 2 ≤ s.size := by omega
  go_enter Try.func38, Try.ntmps38
  go_wp2
  go_ret
  exact ⟨rfl, rfl⟩

theorem sign1_19_0 (s X : ByteArray) (w : World) (h0 : 0 < s.size) (h1 : ¬ 1 < s.size) (f0 : ((s[0].toNat : Int) == 43) = false) (f1 : ((s[0].toNat : Int) == 45) = false) (f2 : ((s[0].toNat : Int) == 42) = false) (f3 : ((s[0].toNat : Int) == 47) = false) (f4 : ((s[0].toNat : Int) == 37) = false) (f5 : ((s[0].toNat : Int) == 60) = false) (f6 : ((s[0].toNat : Int) == 62) = false) (f7 : ((s[0].toNat : Int) == 33) = false) (f8 : ((s[0].toNat : Int) == 61) = false) (f9 : ((s[0].toNat : Int) == 40) = false) (f10 : ((s[0].toNat : Int) == 41) = false) (f11 : ((s[0].toNat : Int) == 123) = false) (f12 : ((s[0].toNat : Int) == 125) = false) (f13 : ((s[0].toNat : Int) == 91) = false) (f14 : ((s[0].toNat : Int) == 93) = false) (f15 : ((s[0].toNat : Int) == 44) = false) (f16 : ((s[0].toNat : Int) == 59) = false) (f17 : ((s[0].toNat : Int) == 58) = false) (f18 : ((s[0].toNat : Int) == 46) = false) : Calls Try.prog 38 #[.string s] w fun e w' => e = .returned (.int .i64 0) ∧ w = w' := by
  have h2 : ¬ (1 : Int) < s.size := by omega
  go_enter Try.func38, Try.ntmps38
  go_wp2
  go_ret
  exact ⟨rfl, rfl⟩

theorem sign1_19_1 (s X : ByteArray) (w : World) (h0 : 0 < s.size) (h1 : 1 < s.size) (hX : s.extract 0 2 = X) (e0 : (X.toList == [38, 38]) = false) (e1 : (X.toList == [124, 124]) = false) (e2 : (X.toList == [61, 61]) = false) (e3 : (X.toList == [33, 61]) = false) (e4 : (X.toList == [60, 61]) = false) (e5 : (X.toList == [62, 61]) = false) (f0 : ((s[0].toNat : Int) == 43) = false) (f1 : ((s[0].toNat : Int) == 45) = false) (f2 : ((s[0].toNat : Int) == 42) = false) (f3 : ((s[0].toNat : Int) == 47) = false) (f4 : ((s[0].toNat : Int) == 37) = false) (f5 : ((s[0].toNat : Int) == 60) = false) (f6 : ((s[0].toNat : Int) == 62) = false) (f7 : ((s[0].toNat : Int) == 33) = false) (f8 : ((s[0].toNat : Int) == 61) = false) (f9 : ((s[0].toNat : Int) == 40) = false) (f10 : ((s[0].toNat : Int) == 41) = false) (f11 : ((s[0].toNat : Int) == 123) = false) (f12 : ((s[0].toNat : Int) == 125) = false) (f13 : ((s[0].toNat : Int) == 91) = false) (f14 : ((s[0].toNat : Int) == 93) = false) (f15 : ((s[0].toNat : Int) == 44) = false) (f16 : ((s[0].toNat : Int) == 59) = false) (f17 : ((s[0].toNat : Int) == 58) = false) (f18 : ((s[0].toNat : Int) == 46) = false) : Calls Try.prog 38 #[.string s] w fun e w' => e = .returned (.int .i64 0) ∧ w = w' := by
  have h2 : (2 : Int) ≤ s.size := by omega
  have h3 : 2 ≤ s.size := by omega
  go_enter Try.func38, Try.ntmps38
  go_wp2
  go_ret
  exact ⟨rfl, rfl⟩

theorem sgn_two {l : List UInt8} (h : l.take 2 ∈ twos) : sgn l = 2 := by rw [sgn, if_pos h]
theorem sgn_one {l : List UInt8} (h : ¬ l.take 2 ∈ twos) (h2 : l.headD 0 ∈ ones) : sgn l = 1 := by rw [sgn, if_neg h, if_pos h2]
theorem sgn_no {l : List UInt8} (h : ¬ l.take 2 ∈ twos) (h2 : ¬ l.headD 0 ∈ ones) : sgn l = 0 := by rw [sgn, if_neg h, if_neg h2]
theorem str_eq {s : ByteArray} {l : List UInt8} (h : s.data.toList = l) : (s.toList == l) = true := by rw [ByteArray.toList_eq, h]; simp
theorem short_twos {l : List UInt8} (h : ¬ 1 < l.length) : ¬ l.take 2 ∈ twos := by
  intro hm
  have h6 : ∀ x ∈ twos, x.length = 2 := by decide
  have := h6 _ hm
  rw [List.length_take] at this; omega

theorem signSize_any (s : ByteArray) (w : World) (h0 : 0 < s.size) : Calls Try.prog 38 #[.string s] w fun e w' => e = .returned (.int .i64 (sgn s.data.toList : Nat)) ∧ w = w' := by
  have hhd := head_list s h0
  by_cases h1 : 1 < s.size
  · have hX : (s.extract 0 2).data.toList = s.data.toList.take 2 := by rw [ext_list]; simp
    by_cases h0x : s.data.toList.take 2 = [38, 38]
    · rw [sgn_two (by rw [h0x]; decide)]
      exact sign2_0 s _ w h1 rfl  (str_eq (by rw [hX]; exact h0x))
    by_cases h1x : s.data.toList.take 2 = [124, 124]
    · rw [sgn_two (by rw [h1x]; decide)]
      exact sign2_1 s _ w h1 rfl (str_ne (by rw [hX]; exact h0x)) (str_eq (by rw [hX]; exact h1x))
    by_cases h2x : s.data.toList.take 2 = [61, 61]
    · rw [sgn_two (by rw [h2x]; decide)]
      exact sign2_2 s _ w h1 rfl (str_ne (by rw [hX]; exact h0x)) (str_ne (by rw [hX]; exact h1x)) (str_eq (by rw [hX]; exact h2x))
    by_cases h3x : s.data.toList.take 2 = [33, 61]
    · rw [sgn_two (by rw [h3x]; decide)]
      exact sign2_3 s _ w h1 rfl (str_ne (by rw [hX]; exact h0x)) (str_ne (by rw [hX]; exact h1x)) (str_ne (by rw [hX]; exact h2x)) (str_eq (by rw [hX]; exact h3x))
    by_cases h4x : s.data.toList.take 2 = [60, 61]
    · rw [sgn_two (by rw [h4x]; decide)]
      exact sign2_4 s _ w h1 rfl (str_ne (by rw [hX]; exact h0x)) (str_ne (by rw [hX]; exact h1x)) (str_ne (by rw [hX]; exact h2x)) (str_ne (by rw [hX]; exact h3x)) (str_eq (by rw [hX]; exact h4x))
    by_cases h5x : s.data.toList.take 2 = [62, 61]
    · rw [sgn_two (by rw [h5x]; decide)]
      exact sign2_5 s _ w h1 rfl (str_ne (by rw [hX]; exact h0x)) (str_ne (by rw [hX]; exact h1x)) (str_ne (by rw [hX]; exact h2x)) (str_ne (by rw [hX]; exact h3x)) (str_ne (by rw [hX]; exact h4x)) (str_eq (by rw [hX]; exact h5x))
    have hno : ¬ s.data.toList.take 2 ∈ twos := by simp [twos, h0x, h1x, h2x, h3x, h4x, h5x]
    by_cases g0 : s[0] = 43
    · rw [sgn_one hno (by rw [hhd, g0]; decide)]
      exact sign1_0_1 s _ w h0 h1 rfl (str_ne (by rw [hX]; exact h0x)) (str_ne (by rw [hX]; exact h1x)) (str_ne (by rw [hX]; exact h2x)) (str_ne (by rw [hX]; exact h3x)) (str_ne (by rw [hX]; exact h4x)) (str_ne (by rw [hX]; exact h5x))  (by rw [g0]; rfl)
    by_cases g1 : s[0] = 45
    · rw [sgn_one hno (by rw [hhd, g1]; decide)]
      exact sign1_1_1 s _ w h0 h1 rfl (str_ne (by rw [hX]; exact h0x)) (str_ne (by rw [hX]; exact h1x)) (str_ne (by rw [hX]; exact h2x)) (str_ne (by rw [hX]; exact h3x)) (str_ne (by rw [hX]; exact h4x)) (str_ne (by rw [hX]; exact h5x)) (byte_ne (n := 43) (by decide) g0) (by rw [g1]; rfl)
    by_cases g2 : s[0] = 42
    · rw [sgn_one hno (by rw [hhd, g2]; decide)]
      exact sign1_2_1 s _ w h0 h1 rfl (str_ne (by rw [hX]; exact h0x)) (str_ne (by rw [hX]; exact h1x)) (str_ne (by rw [hX]; exact h2x)) (str_ne (by rw [hX]; exact h3x)) (str_ne (by rw [hX]; exact h4x)) (str_ne (by rw [hX]; exact h5x)) (byte_ne (n := 43) (by decide) g0) (byte_ne (n := 45) (by decide) g1) (by rw [g2]; rfl)
    by_cases g3 : s[0] = 47
    · rw [sgn_one hno (by rw [hhd, g3]; decide)]
      exact sign1_3_1 s _ w h0 h1 rfl (str_ne (by rw [hX]; exact h0x)) (str_ne (by rw [hX]; exact h1x)) (str_ne (by rw [hX]; exact h2x)) (str_ne (by rw [hX]; exact h3x)) (str_ne (by rw [hX]; exact h4x)) (str_ne (by rw [hX]; exact h5x)) (byte_ne (n := 43) (by decide) g0) (byte_ne (n := 45) (by decide) g1) (byte_ne (n := 42) (by decide) g2) (by rw [g3]; rfl)
    by_cases g4 : s[0] = 37
    · rw [sgn_one hno (by rw [hhd, g4]; decide)]
      exact sign1_4_1 s _ w h0 h1 rfl (str_ne (by rw [hX]; exact h0x)) (str_ne (by rw [hX]; exact h1x)) (str_ne (by rw [hX]; exact h2x)) (str_ne (by rw [hX]; exact h3x)) (str_ne (by rw [hX]; exact h4x)) (str_ne (by rw [hX]; exact h5x)) (byte_ne (n := 43) (by decide) g0) (byte_ne (n := 45) (by decide) g1) (byte_ne (n := 42) (by decide) g2) (byte_ne (n := 47) (by decide) g3) (by rw [g4]; rfl)
    by_cases g5 : s[0] = 60
    · rw [sgn_one hno (by rw [hhd, g5]; decide)]
      exact sign1_5_1 s _ w h0 h1 rfl (str_ne (by rw [hX]; exact h0x)) (str_ne (by rw [hX]; exact h1x)) (str_ne (by rw [hX]; exact h2x)) (str_ne (by rw [hX]; exact h3x)) (str_ne (by rw [hX]; exact h4x)) (str_ne (by rw [hX]; exact h5x)) (byte_ne (n := 43) (by decide) g0) (byte_ne (n := 45) (by decide) g1) (byte_ne (n := 42) (by decide) g2) (byte_ne (n := 47) (by decide) g3) (byte_ne (n := 37) (by decide) g4) (by rw [g5]; rfl)
    by_cases g6 : s[0] = 62
    · rw [sgn_one hno (by rw [hhd, g6]; decide)]
      exact sign1_6_1 s _ w h0 h1 rfl (str_ne (by rw [hX]; exact h0x)) (str_ne (by rw [hX]; exact h1x)) (str_ne (by rw [hX]; exact h2x)) (str_ne (by rw [hX]; exact h3x)) (str_ne (by rw [hX]; exact h4x)) (str_ne (by rw [hX]; exact h5x)) (byte_ne (n := 43) (by decide) g0) (byte_ne (n := 45) (by decide) g1) (byte_ne (n := 42) (by decide) g2) (byte_ne (n := 47) (by decide) g3) (byte_ne (n := 37) (by decide) g4) (byte_ne (n := 60) (by decide) g5) (by rw [g6]; rfl)
    by_cases g7 : s[0] = 33
    · rw [sgn_one hno (by rw [hhd, g7]; decide)]
      exact sign1_7_1 s _ w h0 h1 rfl (str_ne (by rw [hX]; exact h0x)) (str_ne (by rw [hX]; exact h1x)) (str_ne (by rw [hX]; exact h2x)) (str_ne (by rw [hX]; exact h3x)) (str_ne (by rw [hX]; exact h4x)) (str_ne (by rw [hX]; exact h5x)) (byte_ne (n := 43) (by decide) g0) (byte_ne (n := 45) (by decide) g1) (byte_ne (n := 42) (by decide) g2) (byte_ne (n := 47) (by decide) g3) (byte_ne (n := 37) (by decide) g4) (byte_ne (n := 60) (by decide) g5) (byte_ne (n := 62) (by decide) g6) (by rw [g7]; rfl)
    by_cases g8 : s[0] = 61
    · rw [sgn_one hno (by rw [hhd, g8]; decide)]
      exact sign1_8_1 s _ w h0 h1 rfl (str_ne (by rw [hX]; exact h0x)) (str_ne (by rw [hX]; exact h1x)) (str_ne (by rw [hX]; exact h2x)) (str_ne (by rw [hX]; exact h3x)) (str_ne (by rw [hX]; exact h4x)) (str_ne (by rw [hX]; exact h5x)) (byte_ne (n := 43) (by decide) g0) (byte_ne (n := 45) (by decide) g1) (byte_ne (n := 42) (by decide) g2) (byte_ne (n := 47) (by decide) g3) (byte_ne (n := 37) (by decide) g4) (byte_ne (n := 60) (by decide) g5) (byte_ne (n := 62) (by decide) g6) (byte_ne (n := 33) (by decide) g7) (by rw [g8]; rfl)
    by_cases g9 : s[0] = 40
    · rw [sgn_one hno (by rw [hhd, g9]; decide)]
      exact sign1_9_1 s _ w h0 h1 rfl (str_ne (by rw [hX]; exact h0x)) (str_ne (by rw [hX]; exact h1x)) (str_ne (by rw [hX]; exact h2x)) (str_ne (by rw [hX]; exact h3x)) (str_ne (by rw [hX]; exact h4x)) (str_ne (by rw [hX]; exact h5x)) (byte_ne (n := 43) (by decide) g0) (byte_ne (n := 45) (by decide) g1) (byte_ne (n := 42) (by decide) g2) (byte_ne (n := 47) (by decide) g3) (byte_ne (n := 37) (by decide) g4) (byte_ne (n := 60) (by decide) g5) (byte_ne (n := 62) (by decide) g6) (byte_ne (n := 33) (by decide) g7) (byte_ne (n := 61) (by decide) g8) (by rw [g9]; rfl)
    by_cases g10 : s[0] = 41
    · rw [sgn_one hno (by rw [hhd, g10]; decide)]
      exact sign1_10_1 s _ w h0 h1 rfl (str_ne (by rw [hX]; exact h0x)) (str_ne (by rw [hX]; exact h1x)) (str_ne (by rw [hX]; exact h2x)) (str_ne (by rw [hX]; exact h3x)) (str_ne (by rw [hX]; exact h4x)) (str_ne (by rw [hX]; exact h5x)) (byte_ne (n := 43) (by decide) g0) (byte_ne (n := 45) (by decide) g1) (byte_ne (n := 42) (by decide) g2) (byte_ne (n := 47) (by decide) g3) (byte_ne (n := 37) (by decide) g4) (byte_ne (n := 60) (by decide) g5) (byte_ne (n := 62) (by decide) g6) (byte_ne (n := 33) (by decide) g7) (byte_ne (n := 61) (by decide) g8) (byte_ne (n := 40) (by decide) g9) (by rw [g10]; rfl)
    by_cases g11 : s[0] = 123
    · rw [sgn_one hno (by rw [hhd, g11]; decide)]
      exact sign1_11_1 s _ w h0 h1 rfl (str_ne (by rw [hX]; exact h0x)) (str_ne (by rw [hX]; exact h1x)) (str_ne (by rw [hX]; exact h2x)) (str_ne (by rw [hX]; exact h3x)) (str_ne (by rw [hX]; exact h4x)) (str_ne (by rw [hX]; exact h5x)) (byte_ne (n := 43) (by decide) g0) (byte_ne (n := 45) (by decide) g1) (byte_ne (n := 42) (by decide) g2) (byte_ne (n := 47) (by decide) g3) (byte_ne (n := 37) (by decide) g4) (byte_ne (n := 60) (by decide) g5) (byte_ne (n := 62) (by decide) g6) (byte_ne (n := 33) (by decide) g7) (byte_ne (n := 61) (by decide) g8) (byte_ne (n := 40) (by decide) g9) (byte_ne (n := 41) (by decide) g10) (by rw [g11]; rfl)
    by_cases g12 : s[0] = 125
    · rw [sgn_one hno (by rw [hhd, g12]; decide)]
      exact sign1_12_1 s _ w h0 h1 rfl (str_ne (by rw [hX]; exact h0x)) (str_ne (by rw [hX]; exact h1x)) (str_ne (by rw [hX]; exact h2x)) (str_ne (by rw [hX]; exact h3x)) (str_ne (by rw [hX]; exact h4x)) (str_ne (by rw [hX]; exact h5x)) (byte_ne (n := 43) (by decide) g0) (byte_ne (n := 45) (by decide) g1) (byte_ne (n := 42) (by decide) g2) (byte_ne (n := 47) (by decide) g3) (byte_ne (n := 37) (by decide) g4) (byte_ne (n := 60) (by decide) g5) (byte_ne (n := 62) (by decide) g6) (byte_ne (n := 33) (by decide) g7) (byte_ne (n := 61) (by decide) g8) (byte_ne (n := 40) (by decide) g9) (byte_ne (n := 41) (by decide) g10) (byte_ne (n := 123) (by decide) g11) (by rw [g12]; rfl)
    by_cases g13 : s[0] = 91
    · rw [sgn_one hno (by rw [hhd, g13]; decide)]
      exact sign1_13_1 s _ w h0 h1 rfl (str_ne (by rw [hX]; exact h0x)) (str_ne (by rw [hX]; exact h1x)) (str_ne (by rw [hX]; exact h2x)) (str_ne (by rw [hX]; exact h3x)) (str_ne (by rw [hX]; exact h4x)) (str_ne (by rw [hX]; exact h5x)) (byte_ne (n := 43) (by decide) g0) (byte_ne (n := 45) (by decide) g1) (byte_ne (n := 42) (by decide) g2) (byte_ne (n := 47) (by decide) g3) (byte_ne (n := 37) (by decide) g4) (byte_ne (n := 60) (by decide) g5) (byte_ne (n := 62) (by decide) g6) (byte_ne (n := 33) (by decide) g7) (byte_ne (n := 61) (by decide) g8) (byte_ne (n := 40) (by decide) g9) (byte_ne (n := 41) (by decide) g10) (byte_ne (n := 123) (by decide) g11) (byte_ne (n := 125) (by decide) g12) (by rw [g13]; rfl)
    by_cases g14 : s[0] = 93
    · rw [sgn_one hno (by rw [hhd, g14]; decide)]
      exact sign1_14_1 s _ w h0 h1 rfl (str_ne (by rw [hX]; exact h0x)) (str_ne (by rw [hX]; exact h1x)) (str_ne (by rw [hX]; exact h2x)) (str_ne (by rw [hX]; exact h3x)) (str_ne (by rw [hX]; exact h4x)) (str_ne (by rw [hX]; exact h5x)) (byte_ne (n := 43) (by decide) g0) (byte_ne (n := 45) (by decide) g1) (byte_ne (n := 42) (by decide) g2) (byte_ne (n := 47) (by decide) g3) (byte_ne (n := 37) (by decide) g4) (byte_ne (n := 60) (by decide) g5) (byte_ne (n := 62) (by decide) g6) (byte_ne (n := 33) (by decide) g7) (byte_ne (n := 61) (by decide) g8) (byte_ne (n := 40) (by decide) g9) (byte_ne (n := 41) (by decide) g10) (byte_ne (n := 123) (by decide) g11) (byte_ne (n := 125) (by decide) g12) (byte_ne (n := 91) (by decide) g13) (by rw [g14]; rfl)
    by_cases g15 : s[0] = 44
    · rw [sgn_one hno (by rw [hhd, g15]; decide)]
      exact sign1_15_1 s _ w h0 h1 rfl (str_ne (by rw [hX]; exact h0x)) (str_ne (by rw [hX]; exact h1x)) (str_ne (by rw [hX]; exact h2x)) (str_ne (by rw [hX]; exact h3x)) (str_ne (by rw [hX]; exact h4x)) (str_ne (by rw [hX]; exact h5x)) (byte_ne (n := 43) (by decide) g0) (byte_ne (n := 45) (by decide) g1) (byte_ne (n := 42) (by decide) g2) (byte_ne (n := 47) (by decide) g3) (byte_ne (n := 37) (by decide) g4) (byte_ne (n := 60) (by decide) g5) (byte_ne (n := 62) (by decide) g6) (byte_ne (n := 33) (by decide) g7) (byte_ne (n := 61) (by decide) g8) (byte_ne (n := 40) (by decide) g9) (byte_ne (n := 41) (by decide) g10) (byte_ne (n := 123) (by decide) g11) (byte_ne (n := 125) (by decide) g12) (byte_ne (n := 91) (by decide) g13) (byte_ne (n := 93) (by decide) g14) (by rw [g15]; rfl)
    by_cases g16 : s[0] = 59
    · rw [sgn_one hno (by rw [hhd, g16]; decide)]
      exact sign1_16_1 s _ w h0 h1 rfl (str_ne (by rw [hX]; exact h0x)) (str_ne (by rw [hX]; exact h1x)) (str_ne (by rw [hX]; exact h2x)) (str_ne (by rw [hX]; exact h3x)) (str_ne (by rw [hX]; exact h4x)) (str_ne (by rw [hX]; exact h5x)) (byte_ne (n := 43) (by decide) g0) (byte_ne (n := 45) (by decide) g1) (byte_ne (n := 42) (by decide) g2) (byte_ne (n := 47) (by decide) g3) (byte_ne (n := 37) (by decide) g4) (byte_ne (n := 60) (by decide) g5) (byte_ne (n := 62) (by decide) g6) (byte_ne (n := 33) (by decide) g7) (byte_ne (n := 61) (by decide) g8) (byte_ne (n := 40) (by decide) g9) (byte_ne (n := 41) (by decide) g10) (byte_ne (n := 123) (by decide) g11) (byte_ne (n := 125) (by decide) g12) (byte_ne (n := 91) (by decide) g13) (byte_ne (n := 93) (by decide) g14) (byte_ne (n := 44) (by decide) g15) (by rw [g16]; rfl)
    by_cases g17 : s[0] = 58
    · rw [sgn_one hno (by rw [hhd, g17]; decide)]
      exact sign1_17_1 s _ w h0 h1 rfl (str_ne (by rw [hX]; exact h0x)) (str_ne (by rw [hX]; exact h1x)) (str_ne (by rw [hX]; exact h2x)) (str_ne (by rw [hX]; exact h3x)) (str_ne (by rw [hX]; exact h4x)) (str_ne (by rw [hX]; exact h5x)) (byte_ne (n := 43) (by decide) g0) (byte_ne (n := 45) (by decide) g1) (byte_ne (n := 42) (by decide) g2) (byte_ne (n := 47) (by decide) g3) (byte_ne (n := 37) (by decide) g4) (byte_ne (n := 60) (by decide) g5) (byte_ne (n := 62) (by decide) g6) (byte_ne (n := 33) (by decide) g7) (byte_ne (n := 61) (by decide) g8) (byte_ne (n := 40) (by decide) g9) (byte_ne (n := 41) (by decide) g10) (byte_ne (n := 123) (by decide) g11) (byte_ne (n := 125) (by decide) g12) (byte_ne (n := 91) (by decide) g13) (byte_ne (n := 93) (by decide) g14) (byte_ne (n := 44) (by decide) g15) (byte_ne (n := 59) (by decide) g16) (by rw [g17]; rfl)
    by_cases g18 : s[0] = 46
    · rw [sgn_one hno (by rw [hhd, g18]; decide)]
      exact sign1_18_1 s _ w h0 h1 rfl (str_ne (by rw [hX]; exact h0x)) (str_ne (by rw [hX]; exact h1x)) (str_ne (by rw [hX]; exact h2x)) (str_ne (by rw [hX]; exact h3x)) (str_ne (by rw [hX]; exact h4x)) (str_ne (by rw [hX]; exact h5x)) (byte_ne (n := 43) (by decide) g0) (byte_ne (n := 45) (by decide) g1) (byte_ne (n := 42) (by decide) g2) (byte_ne (n := 47) (by decide) g3) (byte_ne (n := 37) (by decide) g4) (byte_ne (n := 60) (by decide) g5) (byte_ne (n := 62) (by decide) g6) (byte_ne (n := 33) (by decide) g7) (byte_ne (n := 61) (by decide) g8) (byte_ne (n := 40) (by decide) g9) (byte_ne (n := 41) (by decide) g10) (byte_ne (n := 123) (by decide) g11) (byte_ne (n := 125) (by decide) g12) (byte_ne (n := 91) (by decide) g13) (byte_ne (n := 93) (by decide) g14) (byte_ne (n := 44) (by decide) g15) (byte_ne (n := 59) (by decide) g16) (byte_ne (n := 58) (by decide) g17) (by rw [g18]; rfl)
    rw [sgn_no hno (by rw [hhd]; simp [ones, g0, g1, g2, g3, g4, g5, g6, g7, g8, g9, g10, g11, g12, g13, g14, g15, g16, g17, g18])]
    exact sign1_19_1 s _ w h0 h1 rfl (str_ne (by rw [hX]; exact h0x)) (str_ne (by rw [hX]; exact h1x)) (str_ne (by rw [hX]; exact h2x)) (str_ne (by rw [hX]; exact h3x)) (str_ne (by rw [hX]; exact h4x)) (str_ne (by rw [hX]; exact h5x)) (byte_ne (n := 43) (by decide) g0) (byte_ne (n := 45) (by decide) g1) (byte_ne (n := 42) (by decide) g2) (byte_ne (n := 47) (by decide) g3) (byte_ne (n := 37) (by decide) g4) (byte_ne (n := 60) (by decide) g5) (byte_ne (n := 62) (by decide) g6) (byte_ne (n := 33) (by decide) g7) (byte_ne (n := 61) (by decide) g8) (byte_ne (n := 40) (by decide) g9) (byte_ne (n := 41) (by decide) g10) (byte_ne (n := 123) (by decide) g11) (byte_ne (n := 125) (by decide) g12) (byte_ne (n := 91) (by decide) g13) (byte_ne (n := 93) (by decide) g14) (byte_ne (n := 44) (by decide) g15) (byte_ne (n := 59) (by decide) g16) (byte_ne (n := 58) (by decide) g17) (byte_ne (n := 46) (by decide) g18)
  · have hno : ¬ s.data.toList.take 2 ∈ twos := short_twos (by rw [size_list]; exact h1)
    by_cases g0 : s[0] = 43
    · rw [sgn_one hno (by rw [hhd, g0]; decide)]
      exact sign1_0_0 s ByteArray.empty w h0 h1  (by rw [g0]; rfl)
    by_cases g1 : s[0] = 45
    · rw [sgn_one hno (by rw [hhd, g1]; decide)]
      exact sign1_1_0 s ByteArray.empty w h0 h1 (byte_ne (n := 43) (by decide) g0) (by rw [g1]; rfl)
    by_cases g2 : s[0] = 42
    · rw [sgn_one hno (by rw [hhd, g2]; decide)]
      exact sign1_2_0 s ByteArray.empty w h0 h1 (byte_ne (n := 43) (by decide) g0) (byte_ne (n := 45) (by decide) g1) (by rw [g2]; rfl)
    by_cases g3 : s[0] = 47
    · rw [sgn_one hno (by rw [hhd, g3]; decide)]
      exact sign1_3_0 s ByteArray.empty w h0 h1 (byte_ne (n := 43) (by decide) g0) (byte_ne (n := 45) (by decide) g1) (byte_ne (n := 42) (by decide) g2) (by rw [g3]; rfl)
    by_cases g4 : s[0] = 37
    · rw [sgn_one hno (by rw [hhd, g4]; decide)]
      exact sign1_4_0 s ByteArray.empty w h0 h1 (byte_ne (n := 43) (by decide) g0) (byte_ne (n := 45) (by decide) g1) (byte_ne (n := 42) (by decide) g2) (byte_ne (n := 47) (by decide) g3) (by rw [g4]; rfl)
    by_cases g5 : s[0] = 60
    · rw [sgn_one hno (by rw [hhd, g5]; decide)]
      exact sign1_5_0 s ByteArray.empty w h0 h1 (byte_ne (n := 43) (by decide) g0) (byte_ne (n := 45) (by decide) g1) (byte_ne (n := 42) (by decide) g2) (byte_ne (n := 47) (by decide) g3) (byte_ne (n := 37) (by decide) g4) (by rw [g5]; rfl)
    by_cases g6 : s[0] = 62
    · rw [sgn_one hno (by rw [hhd, g6]; decide)]
      exact sign1_6_0 s ByteArray.empty w h0 h1 (byte_ne (n := 43) (by decide) g0) (byte_ne (n := 45) (by decide) g1) (byte_ne (n := 42) (by decide) g2) (byte_ne (n := 47) (by decide) g3) (byte_ne (n := 37) (by decide) g4) (byte_ne (n := 60) (by decide) g5) (by rw [g6]; rfl)
    by_cases g7 : s[0] = 33
    · rw [sgn_one hno (by rw [hhd, g7]; decide)]
      exact sign1_7_0 s ByteArray.empty w h0 h1 (byte_ne (n := 43) (by decide) g0) (byte_ne (n := 45) (by decide) g1) (byte_ne (n := 42) (by decide) g2) (byte_ne (n := 47) (by decide) g3) (byte_ne (n := 37) (by decide) g4) (byte_ne (n := 60) (by decide) g5) (byte_ne (n := 62) (by decide) g6) (by rw [g7]; rfl)
    by_cases g8 : s[0] = 61
    · rw [sgn_one hno (by rw [hhd, g8]; decide)]
      exact sign1_8_0 s ByteArray.empty w h0 h1 (byte_ne (n := 43) (by decide) g0) (byte_ne (n := 45) (by decide) g1) (byte_ne (n := 42) (by decide) g2) (byte_ne (n := 47) (by decide) g3) (byte_ne (n := 37) (by decide) g4) (byte_ne (n := 60) (by decide) g5) (byte_ne (n := 62) (by decide) g6) (byte_ne (n := 33) (by decide) g7) (by rw [g8]; rfl)
    by_cases g9 : s[0] = 40
    · rw [sgn_one hno (by rw [hhd, g9]; decide)]
      exact sign1_9_0 s ByteArray.empty w h0 h1 (byte_ne (n := 43) (by decide) g0) (byte_ne (n := 45) (by decide) g1) (byte_ne (n := 42) (by decide) g2) (byte_ne (n := 47) (by decide) g3) (byte_ne (n := 37) (by decide) g4) (byte_ne (n := 60) (by decide) g5) (byte_ne (n := 62) (by decide) g6) (byte_ne (n := 33) (by decide) g7) (byte_ne (n := 61) (by decide) g8) (by rw [g9]; rfl)
    by_cases g10 : s[0] = 41
    · rw [sgn_one hno (by rw [hhd, g10]; decide)]
      exact sign1_10_0 s ByteArray.empty w h0 h1 (byte_ne (n := 43) (by decide) g0) (byte_ne (n := 45) (by decide) g1) (byte_ne (n := 42) (by decide) g2) (byte_ne (n := 47) (by decide) g3) (byte_ne (n := 37) (by decide) g4) (byte_ne (n := 60) (by decide) g5) (byte_ne (n := 62) (by decide) g6) (byte_ne (n := 33) (by decide) g7) (byte_ne (n := 61) (by decide) g8) (byte_ne (n := 40) (by decide) g9) (by rw [g10]; rfl)
    by_cases g11 : s[0] = 123
    · rw [sgn_one hno (by rw [hhd, g11]; decide)]
      exact sign1_11_0 s ByteArray.empty w h0 h1 (byte_ne (n := 43) (by decide) g0) (byte_ne (n := 45) (by decide) g1) (byte_ne (n := 42) (by decide) g2) (byte_ne (n := 47) (by decide) g3) (byte_ne (n := 37) (by decide) g4) (byte_ne (n := 60) (by decide) g5) (byte_ne (n := 62) (by decide) g6) (byte_ne (n := 33) (by decide) g7) (byte_ne (n := 61) (by decide) g8) (byte_ne (n := 40) (by decide) g9) (byte_ne (n := 41) (by decide) g10) (by rw [g11]; rfl)
    by_cases g12 : s[0] = 125
    · rw [sgn_one hno (by rw [hhd, g12]; decide)]
      exact sign1_12_0 s ByteArray.empty w h0 h1 (byte_ne (n := 43) (by decide) g0) (byte_ne (n := 45) (by decide) g1) (byte_ne (n := 42) (by decide) g2) (byte_ne (n := 47) (by decide) g3) (byte_ne (n := 37) (by decide) g4) (byte_ne (n := 60) (by decide) g5) (byte_ne (n := 62) (by decide) g6) (byte_ne (n := 33) (by decide) g7) (byte_ne (n := 61) (by decide) g8) (byte_ne (n := 40) (by decide) g9) (byte_ne (n := 41) (by decide) g10) (byte_ne (n := 123) (by decide) g11) (by rw [g12]; rfl)
    by_cases g13 : s[0] = 91
    · rw [sgn_one hno (by rw [hhd, g13]; decide)]
      exact sign1_13_0 s ByteArray.empty w h0 h1 (byte_ne (n := 43) (by decide) g0) (byte_ne (n := 45) (by decide) g1) (byte_ne (n := 42) (by decide) g2) (byte_ne (n := 47) (by decide) g3) (byte_ne (n := 37) (by decide) g4) (byte_ne (n := 60) (by decide) g5) (byte_ne (n := 62) (by decide) g6) (byte_ne (n := 33) (by decide) g7) (byte_ne (n := 61) (by decide) g8) (byte_ne (n := 40) (by decide) g9) (byte_ne (n := 41) (by decide) g10) (byte_ne (n := 123) (by decide) g11) (byte_ne (n := 125) (by decide) g12) (by rw [g13]; rfl)
    by_cases g14 : s[0] = 93
    · rw [sgn_one hno (by rw [hhd, g14]; decide)]
      exact sign1_14_0 s ByteArray.empty w h0 h1 (byte_ne (n := 43) (by decide) g0) (byte_ne (n := 45) (by decide) g1) (byte_ne (n := 42) (by decide) g2) (byte_ne (n := 47) (by decide) g3) (byte_ne (n := 37) (by decide) g4) (byte_ne (n := 60) (by decide) g5) (byte_ne (n := 62) (by decide) g6) (byte_ne (n := 33) (by decide) g7) (byte_ne (n := 61) (by decide) g8) (byte_ne (n := 40) (by decide) g9) (byte_ne (n := 41) (by decide) g10) (byte_ne (n := 123) (by decide) g11) (byte_ne (n := 125) (by decide) g12) (byte_ne (n := 91) (by decide) g13) (by rw [g14]; rfl)
    by_cases g15 : s[0] = 44
    · rw [sgn_one hno (by rw [hhd, g15]; decide)]
      exact sign1_15_0 s ByteArray.empty w h0 h1 (byte_ne (n := 43) (by decide) g0) (byte_ne (n := 45) (by decide) g1) (byte_ne (n := 42) (by decide) g2) (byte_ne (n := 47) (by decide) g3) (byte_ne (n := 37) (by decide) g4) (byte_ne (n := 60) (by decide) g5) (byte_ne (n := 62) (by decide) g6) (byte_ne (n := 33) (by decide) g7) (byte_ne (n := 61) (by decide) g8) (byte_ne (n := 40) (by decide) g9) (byte_ne (n := 41) (by decide) g10) (byte_ne (n := 123) (by decide) g11) (byte_ne (n := 125) (by decide) g12) (byte_ne (n := 91) (by decide) g13) (byte_ne (n := 93) (by decide) g14) (by rw [g15]; rfl)
    by_cases g16 : s[0] = 59
    · rw [sgn_one hno (by rw [hhd, g16]; decide)]
      exact sign1_16_0 s ByteArray.empty w h0 h1 (byte_ne (n := 43) (by decide) g0) (byte_ne (n := 45) (by decide) g1) (byte_ne (n := 42) (by decide) g2) (byte_ne (n := 47) (by decide) g3) (byte_ne (n := 37) (by decide) g4) (byte_ne (n := 60) (by decide) g5) (byte_ne (n := 62) (by decide) g6) (byte_ne (n := 33) (by decide) g7) (byte_ne (n := 61) (by decide) g8) (byte_ne (n := 40) (by decide) g9) (byte_ne (n := 41) (by decide) g10) (byte_ne (n := 123) (by decide) g11) (byte_ne (n := 125) (by decide) g12) (byte_ne (n := 91) (by decide) g13) (byte_ne (n := 93) (by decide) g14) (byte_ne (n := 44) (by decide) g15) (by rw [g16]; rfl)
    by_cases g17 : s[0] = 58
    · rw [sgn_one hno (by rw [hhd, g17]; decide)]
      exact sign1_17_0 s ByteArray.empty w h0 h1 (byte_ne (n := 43) (by decide) g0) (byte_ne (n := 45) (by decide) g1) (byte_ne (n := 42) (by decide) g2) (byte_ne (n := 47) (by decide) g3) (byte_ne (n := 37) (by decide) g4) (byte_ne (n := 60) (by decide) g5) (byte_ne (n := 62) (by decide) g6) (byte_ne (n := 33) (by decide) g7) (byte_ne (n := 61) (by decide) g8) (byte_ne (n := 40) (by decide) g9) (byte_ne (n := 41) (by decide) g10) (byte_ne (n := 123) (by decide) g11) (byte_ne (n := 125) (by decide) g12) (byte_ne (n := 91) (by decide) g13) (byte_ne (n := 93) (by decide) g14) (byte_ne (n := 44) (by decide) g15) (byte_ne (n := 59) (by decide) g16) (by rw [g17]; rfl)
    by_cases g18 : s[0] = 46
    · rw [sgn_one hno (by rw [hhd, g18]; decide)]
      exact sign1_18_0 s ByteArray.empty w h0 h1 (byte_ne (n := 43) (by decide) g0) (byte_ne (n := 45) (by decide) g1) (byte_ne (n := 42) (by decide) g2) (byte_ne (n := 47) (by decide) g3) (byte_ne (n := 37) (by decide) g4) (byte_ne (n := 60) (by decide) g5) (byte_ne (n := 62) (by decide) g6) (byte_ne (n := 33) (by decide) g7) (byte_ne (n := 61) (by decide) g8) (byte_ne (n := 40) (by decide) g9) (byte_ne (n := 41) (by decide) g10) (byte_ne (n := 123) (by decide) g11) (byte_ne (n := 125) (by decide) g12) (byte_ne (n := 91) (by decide) g13) (byte_ne (n := 93) (by decide) g14) (byte_ne (n := 44) (by decide) g15) (byte_ne (n := 59) (by decide) g16) (byte_ne (n := 58) (by decide) g17) (by rw [g18]; rfl)
    rw [sgn_no hno (by rw [hhd]; simp [ones, g0, g1, g2, g3, g4, g5, g6, g7, g8, g9, g10, g11, g12, g13, g14, g15, g16, g17, g18])]
    exact sign1_19_0 s ByteArray.empty w h0 h1 (byte_ne (n := 43) (by decide) g0) (byte_ne (n := 45) (by decide) g1) (byte_ne (n := 42) (by decide) g2) (byte_ne (n := 47) (by decide) g3) (byte_ne (n := 37) (by decide) g4) (byte_ne (n := 60) (by decide) g5) (byte_ne (n := 62) (by decide) g6) (byte_ne (n := 33) (by decide) g7) (byte_ne (n := 61) (by decide) g8) (byte_ne (n := 40) (by decide) g9) (byte_ne (n := 41) (by decide) g10) (byte_ne (n := 123) (by decide) g11) (byte_ne (n := 125) (by decide) g12) (byte_ne (n := 91) (by decide) g13) (byte_ne (n := 93) (by decide) g14) (byte_ne (n := 44) (by decide) g15) (byte_ne (n := 59) (by decide) g16) (byte_ne (n := 58) (by decide) g17) (byte_ne (n := 46) (by decide) g18)

theorem signSize_at (s : ByteArray) (h0 : 0 < s.size) (n : Nat) (hn : sgn s.data.toList = n) (w : World) : Calls Try.prog 38 #[.string s] w fun e w' => e = .returned (.int .i64 (n : Nat)) ∧ w = w' := hn ▸ signSize_any s w h0

end Go.Proofs.Ytbknflaooemigaa
