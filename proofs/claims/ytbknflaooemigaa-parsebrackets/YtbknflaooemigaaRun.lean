/-
  Contracts of lex.run (bytes run over by a function that is handed on) and of the document's inner, Skip and Place. Conditions: texts of at most 1000000 bytes.
-/
import Derived.Test.YtbknflaooemigaaByt
import Derived.Test.YtbknflaooemigaaRead
namespace Go.Proofs.Ytbknflaooemigaa
open Go.RowKit
set_option linter.unusedVariables false

theorem runL_cons {p : UInt8 → Bool} {c : UInt8} {t : List UInt8} (h : p c = true) : runL p (c :: t) = runL p t + 1 := by rw [runL, if_pos h]
theorem runL_none {p : UInt8 → Bool} {c : UInt8} {t : List UInt8} (h : p c = false) : runL p (c :: t) = 0 := by rw [runL, if_neg (by simp [h])]

set_option maxHeartbeats 400000 in
theorem run_nlf (s : ByteArray) (hs : s.size ≤ 1000000) (w : World) :
    Calls Try.prog 20 #[.string s, .func (.func 21) #[] #[]] w fun e w' => e = .returned (.int .i64 (runL nlf s.data.toList : Nat)) ∧ w = w' := by
  obtain ⟨R, hR⟩ : ∃ R, runL nlf s.data.toList = R := ⟨_, rfl⟩
  rw [hR]
  replace hR := Lib.hid hR
  go_enter Try.func20, Try.ntmps20
  go_wp2
  go_loop [5] (fun i => ∃ k : Nat, k ≤ s.size ∧ i = .int .i64 k ∧ k + runL nlf (s.data.toList.drop k) = R) (fun i => s.size - (intOf i).toNat)
  case atStart => exact ⟨0, Nat.zero_le _, rfl, by rw [← hR.out]; simp⟩
  case round =>
    obtain ⟨k, hk, rfl, hk2⟩ := hrel
    by_cases hlt : k < s.size
    · rw [drop_cons s k hlt] at hk2
      cases hp : nlf s[k] with
      | true =>
        have HP := Lib.hid (fun w => nlf_any s[k] w)
        rw [hp] at HP
        rw [runL_cons hp] at hk2
        replace hk2 := Lib.hid hk2
        clear hp
        go_wp2_with fail
        refine (HP.out _).mono ?_
        rintro e w' ⟨rfl, rfl⟩
        go_wp2
        go_round
        case rel => exact ⟨k + 1, hlt, by go_num, by have := hk2.out; omega⟩
        case measure => simp [intOf]; omega
      | false =>
        have HP := Lib.hid (fun w => nlf_any s[k] w)
        rw [hp] at HP
        rw [runL_none hp] at hk2
        replace hk2 := Lib.hid hk2
        clear hp
        go_wp2_with fail
        refine (HP.out _).mono ?_
        rintro e w' ⟨rfl, rfl⟩
        go_wp2
        go_ret
        exact ⟨ret_int (by have := hk2.out; omega), rfl⟩
    · rw [drop_end s k (by omega)] at hk2
      have hlt2 : ¬ (k : Int) < s.size := by omega
      replace hk2 := Lib.hid (show k = R from hk2)
      go_wp2
      go_ret
      exact ⟨ret_int (by have := hk2.out; omega), rfl⟩

theorem run_nlf_at (s : ByteArray) (hs : s.size ≤ 1000000) (R : Nat) (hR : runL nlf s.data.toList = R) (w : World) :
    Calls Try.prog 20 #[.string s, .func (.func 21) #[] #[]] w fun e w' => e = .returned (.int .i64 (R : Nat)) ∧ w = w' := hR ▸ run_nlf s hs w

set_option maxHeartbeats 400000 in
theorem run_nam (s : ByteArray) (hs : s.size ≤ 1000000) (w : World) :
    Calls Try.prog 20 #[.string s, .func (.func 32) #[] #[]] w fun e w' => e = .returned (.int .i64 (runL nam s.data.toList : Nat)) ∧ w = w' := by
  obtain ⟨R, hR⟩ : ∃ R, runL nam s.data.toList = R := ⟨_, rfl⟩
  rw [hR]
  replace hR := Lib.hid hR
  go_enter Try.func20, Try.ntmps20
  go_wp2
  go_loop [5] (fun i => ∃ k : Nat, k ≤ s.size ∧ i = .int .i64 k ∧ k + runL nam (s.data.toList.drop k) = R) (fun i => s.size - (intOf i).toNat)
  case atStart => exact ⟨0, Nat.zero_le _, rfl, by rw [← hR.out]; simp⟩
  case round =>
    obtain ⟨k, hk, rfl, hk2⟩ := hrel
    by_cases hlt : k < s.size
    · rw [drop_cons s k hlt] at hk2
      cases hp : nam s[k] with
      | true =>
        have HP := Lib.hid (fun w => name_any s[k] w)
        rw [hp] at HP
        rw [runL_cons hp] at hk2
        replace hk2 := Lib.hid hk2
        clear hp
        go_wp2_with fail
        refine (HP.out _).mono ?_
        rintro e w' ⟨rfl, rfl⟩
        go_wp2
        go_round
        case rel => exact ⟨k + 1, hlt, by go_num, by have := hk2.out; omega⟩
        case measure => simp [intOf]; omega
      | false =>
        have HP := Lib.hid (fun w => name_any s[k] w)
        rw [hp] at HP
        rw [runL_none hp] at hk2
        replace hk2 := Lib.hid hk2
        clear hp
        go_wp2_with fail
        refine (HP.out _).mono ?_
        rintro e w' ⟨rfl, rfl⟩
        go_wp2
        go_ret
        exact ⟨ret_int (by have := hk2.out; omega), rfl⟩
    · rw [drop_end s k (by omega)] at hk2
      have hlt2 : ¬ (k : Int) < s.size := by omega
      replace hk2 := Lib.hid (show k = R from hk2)
      go_wp2
      go_ret
      exact ⟨ret_int (by have := hk2.out; omega), rfl⟩

theorem run_nam_at (s : ByteArray) (hs : s.size ≤ 1000000) (R : Nat) (hR : runL nam s.data.toList = R) (w : World) :
    Calls Try.prog 20 #[.string s, .func (.func 32) #[] #[]] w fun e w' => e = .returned (.int .i64 (R : Nat)) ∧ w = w' := hR ▸ run_nam s hs w

set_option maxHeartbeats 400000 in
theorem run_dgt (s : ByteArray) (hs : s.size ≤ 1000000) (w : World) :
    Calls Try.prog 20 #[.string s, .func (.func 35) #[] #[]] w fun e w' => e = .returned (.int .i64 (runL dgt s.data.toList : Nat)) ∧ w = w' := by
  obtain ⟨R, hR⟩ : ∃ R, runL dgt s.data.toList = R := ⟨_, rfl⟩
  rw [hR]
  replace hR := Lib.hid hR
  go_enter Try.func20, Try.ntmps20
  go_wp2
  go_loop [5] (fun i => ∃ k : Nat, k ≤ s.size ∧ i = .int .i64 k ∧ k + runL dgt (s.data.toList.drop k) = R) (fun i => s.size - (intOf i).toNat)
  case atStart => exact ⟨0, Nat.zero_le _, rfl, by rw [← hR.out]; simp⟩
  case round =>
    obtain ⟨k, hk, rfl, hk2⟩ := hrel
    by_cases hlt : k < s.size
    · rw [drop_cons s k hlt] at hk2
      cases hp : dgt s[k] with
      | true =>
        have HP := Lib.hid (fun w => digit_is s[k] w)
        rw [hp] at HP
        rw [runL_cons hp] at hk2
        replace hk2 := Lib.hid hk2
        clear hp
        go_wp2_with fail
        refine (HP.out _).mono ?_
        rintro e w' ⟨rfl, rfl⟩
        go_wp2
        go_round
        case rel => exact ⟨k + 1, hlt, by go_num, by have := hk2.out; omega⟩
        case measure => simp [intOf]; omega
      | false =>
        have HP := Lib.hid (fun w => digit_is s[k] w)
        rw [hp] at HP
        rw [runL_none hp] at hk2
        replace hk2 := Lib.hid hk2
        clear hp
        go_wp2_with fail
        refine (HP.out _).mono ?_
        rintro e w' ⟨rfl, rfl⟩
        go_wp2
        go_ret
        exact ⟨ret_int (by have := hk2.out; omega), rfl⟩
    · rw [drop_end s k (by omega)] at hk2
      have hlt2 : ¬ (k : Int) < s.size := by omega
      replace hk2 := Lib.hid (show k = R from hk2)
      go_wp2
      go_ret
      exact ⟨ret_int (by have := hk2.out; omega), rfl⟩

theorem run_dgt_at (s : ByteArray) (hs : s.size ≤ 1000000) (R : Nat) (hR : runL dgt s.data.toList = R) (w : World) :
    Calls Try.prog 20 #[.string s, .func (.func 35) #[] #[]] w fun e w' => e = .returned (.int .i64 (R : Nat)) ∧ w = w' := hR ▸ run_dgt s hs w

set_option maxHeartbeats 400000 in
theorem run_nou (s : ByteArray) (hs : s.size ≤ 1000000) (w : World) :
    Calls Try.prog 20 #[.string s, .func (.func 68) #[] #[]] w fun e w' => e = .returned (.int .i64 (runL nou s.data.toList : Nat)) ∧ w = w' := by
  obtain ⟨R, hR⟩ : ∃ R, runL nou s.data.toList = R := ⟨_, rfl⟩
  rw [hR]
  replace hR := Lib.hid hR
  go_enter Try.func20, Try.ntmps20
  go_wp2
  go_loop [5] (fun i => ∃ k : Nat, k ≤ s.size ∧ i = .int .i64 k ∧ k + runL nou (s.data.toList.drop k) = R) (fun i => s.size - (intOf i).toNat)
  case atStart => exact ⟨0, Nat.zero_le _, rfl, by rw [← hR.out]; simp⟩
  case round =>
    obtain ⟨k, hk, rfl, hk2⟩ := hrel
    by_cases hlt : k < s.size
    · rw [drop_cons s k hlt] at hk2
      cases hp : nou s[k] with
      | true =>
        have HP := Lib.hid (fun w => nou_any s[k] w)
        rw [hp] at HP
        rw [runL_cons hp] at hk2
        replace hk2 := Lib.hid hk2
        clear hp
        go_wp2_with fail
        refine (HP.out _).mono ?_
        rintro e w' ⟨rfl, rfl⟩
        go_wp2
        go_round
        case rel => exact ⟨k + 1, hlt, by go_num, by have := hk2.out; omega⟩
        case measure => simp [intOf]; omega
      | false =>
        have HP := Lib.hid (fun w => nou_any s[k] w)
        rw [hp] at HP
        rw [runL_none hp] at hk2
        replace hk2 := Lib.hid hk2
        clear hp
        go_wp2_with fail
        refine (HP.out _).mono ?_
        rintro e w' ⟨rfl, rfl⟩
        go_wp2
        go_ret
        exact ⟨ret_int (by have := hk2.out; omega), rfl⟩
    · rw [drop_end s k (by omega)] at hk2
      have hlt2 : ¬ (k : Int) < s.size := by omega
      replace hk2 := Lib.hid (show k = R from hk2)
      go_wp2
      go_ret
      exact ⟨ret_int (by have := hk2.out; omega), rfl⟩

theorem run_nou_at (s : ByteArray) (hs : s.size ≤ 1000000) (R : Nat) (hR : runL nou s.data.toList = R) (w : World) :
    Calls Try.prog 20 #[.string s, .func (.func 68) #[] #[]] w fun e w' => e = .returned (.int .i64 (R : Nat)) ∧ w = w' := hR ▸ run_nou s hs w

end Go.Proofs.Ytbknflaooemigaa
