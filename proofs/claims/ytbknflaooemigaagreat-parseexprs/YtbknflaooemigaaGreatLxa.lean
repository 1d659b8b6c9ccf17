/-
 Contracts of the functions on one byte: lex.isSmall, isGreat, isDigit, isInName, the two functions that are handed on, the document's kind. Conditions: none. Contracts of lex.run (bytes run over by a function that is handed on) and of the document's inner, Skip and Place. Conditions: texts of at most 1000000 bytes. Contracts of lex.Word and of the document's Word. Conditions: none. Contracts of the document's Skip and Place. Conditions: texts of at most 1000000 bytes.
-/
import Derived.Test.YtbknflaooemigaaGreatTok
import Derived.Test.YtbknflaooemigaaGreatQuo
namespace Go.Proofs.YtbknflaooemigaaGreat
section
open Go.RowKit
set_option linter.unusedVariables false

theorem small_any (c : UInt8) (w : World) : Calls Tryz.prog 57 #[byt c] w fun e w' => e = .returned (.bool (sml c)) ∧ w = w' := by
 by_cases h95 : c = 95
 ·subst h95
  go_enter Tryz.func57, Tryz.ntmps57
  go_wp2
  go_ret
  exact ⟨rfl, rfl⟩
 have e95 : ((c.toNat : Int) == 95) = false := byte_ne (n := 95) (by decide) h95
 by_cases h1 : (97 : Int) ≤ c.toNat
 ·by_cases h2 : (c.toNat : Int) ≤ 122
  ·have H := Lib.hid (show sml c = true by simp [sml]; omega)
   clear h95
   go_enter Tryz.func57, Tryz.ntmps57
   go_wp2
   go_ret
   rw [H.out]
   exact ⟨rfl, rfl⟩
  ·have H := Lib.hid (show sml c = false by simp [sml, h95]; omega)
   clear h95
   go_enter Tryz.func57, Tryz.ntmps57
   go_wp2
   go_ret
   rw [H.out]
   exact ⟨rfl, rfl⟩
 ·have H := Lib.hid (show sml c = false by simp [sml, h95]; omega)
  clear h95
  go_enter Tryz.func57, Tryz.ntmps57
  go_wp2
  go_ret
  rw [H.out]
  exact ⟨rfl, rfl⟩

theorem great_any (c : UInt8) (w : World) : Calls Tryz.prog 58 #[byt c] w fun e w' => e = .returned (.bool (grt c)) ∧ w = w' := by
 by_cases h1 : (65 : Int) ≤ c.toNat
 ·by_cases h2 : (c.toNat : Int) ≤ 90
  ·have H := Lib.hid (show grt c = true by simp [grt]; omega)
   go_enter Tryz.func58, Tryz.ntmps58
   go_wp2
   go_ret
   rw [H.out]
   exact ⟨rfl, rfl⟩
  ·have H := Lib.hid (show grt c = false by simp [grt]; omega)
   go_enter Tryz.func58, Tryz.ntmps58
   go_wp2
   go_ret
   rw [H.out]
   exact ⟨rfl, rfl⟩
 ·have H := Lib.hid (show grt c = false by simp [grt]; omega)
  go_enter Tryz.func58, Tryz.ntmps58
  go_wp2
  go_ret
  rw [H.out]
  exact ⟨rfl, rfl⟩

theorem digit_is (c : UInt8) (w : World) : Calls Tryz.prog 62 #[byt c] w fun e w' => e = .returned (.bool (dgt c)) ∧ w = w' := by
 by_cases h1 : (48 : Int) ≤ c.toNat
 ·by_cases h2 : (c.toNat : Int) ≤ 57
  ·have H := Lib.hid (show dgt c = true by simp [dgt]; omega)
   go_enter Tryz.func62, Tryz.ntmps62
   go_wp2
   go_ret
   rw [H.out]
   exact ⟨rfl, rfl⟩
  ·have H := Lib.hid (show dgt c = false by simp [dgt]; omega)
   go_enter Tryz.func62, Tryz.ntmps62
   go_wp2
   go_ret
   rw [H.out]
   exact ⟨rfl, rfl⟩
 ·have H := Lib.hid (show dgt c = false by simp [dgt]; omega)
  go_enter Tryz.func62, Tryz.ntmps62
  go_wp2
  go_ret
  rw [H.out]
  exact ⟨rfl, rfl⟩

theorem small_at {c : UInt8} {b : Bool} (h : sml c = b) (w : World) : Calls Tryz.prog 57 #[byt c] w fun e w' => e = .returned (.bool b) ∧ w = w' := h ▸ small_any c w
theorem great_at {c : UInt8} {b : Bool} (h : grt c = b) (w : World) : Calls Tryz.prog 58 #[byt c] w fun e w' => e = .returned (.bool b) ∧ w = w' := h ▸ great_any c w
theorem digit_at {c : UInt8} {b : Bool} (h : dgt c = b) (w : World) : Calls Tryz.prog 62 #[byt c] w fun e w' => e = .returned (.bool b) ∧ w = w' := h ▸ digit_is c w

theorem name_any (c : UInt8) (w : World) : Calls Tryz.prog 59 #[byt c] w fun e w' => e = .returned (.bool (nam c)) ∧ w = w' := by
 cases h1 : sml c with
 | true =>
  have H1 := Lib.hid (fun w => small_at h1 w)
  have H := Lib.hid (show nam c = true by simp [nam, h1])
  clear h1
  go_enter Tryz.func59, Tryz.ntmps59
  go_wp2_with fail
  refine (H1.out _).mono ?_
  rintro e w' ⟨rfl, rfl⟩
  go_wp2
  go_ret
  rw [H.out]
  exact ⟨rfl, rfl⟩
 | false =>
  have H1 := Lib.hid (fun w => small_at h1 w)
  cases h2 : grt c with
  | true =>
   have H2 := Lib.hid (fun w => great_at h2 w)
   have H := Lib.hid (show nam c = true by simp [nam, h2])
   clear h1 h2
   go_enter Tryz.func59, Tryz.ntmps59
   go_wp2_with fail
   refine (H1.out _).mono ?_
   rintro e w' ⟨rfl, rfl⟩
   go_wp2_with fail
   refine (H2.out _).mono ?_
   rintro e w' ⟨rfl, rfl⟩
   go_wp2
   go_ret
   rw [H.out]
   exact ⟨rfl, rfl⟩
  | false =>
   have H2 := Lib.hid (fun w => great_at h2 w)
   have H3 := Lib.hid (fun w => digit_is c w)
   have H := Lib.hid (show nam c = dgt c by simp [nam, h1, h2])
   clear h1 h2
   go_enter Tryz.func59, Tryz.ntmps59
   go_wp2_with fail
   refine (H1.out _).mono ?_
   rintro e w' ⟨rfl, rfl⟩
   go_wp2_with fail
   refine (H2.out _).mono ?_
   rintro e w' ⟨rfl, rfl⟩
   go_wp2_with fail
   refine (H3.out _).mono ?_
   rintro e w' ⟨rfl, rfl⟩
   go_wp2
   go_ret
   rw [H.out]
   exact ⟨rfl, rfl⟩

theorem nlf_any (c : UInt8) (w : World) : Calls Tryz.prog 44 #[byt c] w fun e w' => e = .returned (.bool (nlf c)) ∧ w = w' := by
 by_cases h : c = 10
 ·subst h
  go_enter Tryz.func44, Tryz.ntmps44
  go_wp2
  go_ret
  exact ⟨rfl, rfl⟩
 ·have e1 : ((c.toNat : Int) != 10) = true := b_ne (n := 10) (by decide) h
  have H := Lib.hid (show nlf c = true by simp [nlf, h])
  clear h
  go_enter Tryz.func44, Tryz.ntmps44
  go_wp2
  go_ret
  rw [H.out]
  exact ⟨rfl, rfl⟩

theorem nou_any (c : UInt8) (w : World) : Calls Tryz.prog 104 #[byt c] w fun e w' => e = .returned (.bool (nou c)) ∧ w = w' := by
 by_cases h : c = 48
 ·subst h
  go_enter Tryz.func104, Tryz.ntmps104
  go_wp2
  go_ret
  exact ⟨rfl, rfl⟩
 ·have e1 : ((c.toNat : Int) == 48) = false := byte_ne (n := 48) (by decide) h
  have H := Lib.hid (show nou c = false by simp [nou, h])
  clear h
  go_enter Tryz.func104, Tryz.ntmps104
  go_wp2
  go_ret
  rw [H.out]
  exact ⟨rfl, rfl⟩

/-- The document's kind of a byte. -/
def kdN (c : UInt8) : Nat := if sml c = true then 1 else if grt c = true then 2 else if dgt c = true then 3 else 0

theorem ret_kd {c : UInt8} {n : Nat} {a : Int} (h : kdN c = n) (h2 : a = n) : Ending.returned (.int .i64 a) = .returned (.int .i64 (kdN c : Nat)) := by rw [h, h2]

theorem kd_pos (c : UInt8) : (0 < kdN c) ↔ nam c = true := by
 unfold kdN nam
 cases sml c <;> cases grt c <;> cases dgt c <;> simp
end
end Go.Proofs.YtbknflaooemigaaGreat

namespace Go.Proofs.YtbknflaooemigaaGreat
section
open Go.RowKit
set_option linter.unusedVariables false

theorem runL_cons {p : UInt8 → Bool} {c : UInt8} {t : List UInt8} (h : p c = true) : runL p (c :: t) = runL p t + 1 := by rw [runL, if_pos h]
theorem runL_none {p : UInt8 → Bool} {c : UInt8} {t : List UInt8} (h : p c = false) : runL p (c :: t) = 0 := by rw [runL, if_neg (by simp [h])]

set_option maxHeartbeats 400000 in
theorem run_nlf (s : ByteArray) (hs : s.size ≤ 1000000) (w : World) :
  Calls Tryz.prog 43 #[.string s, .func (.func 44) #[] #[]] w fun e w' => e = .returned (.int .i64 (runL nlf s.data.toList : Nat)) ∧ w = w' := by
 obtain ⟨R, hR⟩ : ∃ R, runL nlf s.data.toList = R := ⟨_, rfl⟩
 rw [hR]
 replace hR := Lib.hid hR
 go_enter Tryz.func43, Tryz.ntmps43
 go_wp2
 go_loop [5] (fun i => ∃ k : Nat, k ≤ s.size ∧ i = .int .i64 k ∧ k + runL nlf (s.data.toList.drop k) = R) (fun i => s.size - (intOf i).toNat)
 case atStart => exact ⟨0, Nat.zero_le _, rfl, by rw [← hR.out]; simp⟩
 case round =>
  obtain ⟨k, hk, rfl, hk2⟩ := hrel
  by_cases hlt : k < s.size
  ·rw [drop_cons s k hlt] at hk2
   cases hp : nlf s[k] with
   | true =>
    have HP := Lib.hid (fun w => nlf_any s[k] w)
    rw [hp] at HP
    rw [runL_cons hp] at hk2
    replace hk2 := Lib.hid hk2
    clear hp
    go_wp2_with fail
    refine (HP.out _).mono ?_
    rintro e w' ⟨rfl, rfl⟩
    go_wp2
    go_round
    case rel => exact ⟨k + 1, hlt, by go_num, by have := hk2.out; omega⟩
    case measure => simp [intOf]; omega
   | false =>
    have HP := Lib.hid (fun w => nlf_any s[k] w)
    rw [hp] at HP
    rw [runL_none hp] at hk2
    replace hk2 := Lib.hid hk2
    clear hp
    go_wp2_with fail
    refine (HP.out _).mono ?_
    rintro e w' ⟨rfl, rfl⟩
    go_wp2
    go_ret
    exact ⟨ret_int (by have := hk2.out; omega), rfl⟩
  ·rw [drop_end s k (by omega)] at hk2
   have hlt2 : ¬ (k : Int) < s.size := by omega
   replace hk2 := Lib.hid (show k = R from hk2)
   go_wp2
   go_ret
   exact ⟨ret_int (by have := hk2.out; omega), rfl⟩

theorem run_nlf_at (s : ByteArray) (hs : s.size ≤ 1000000) (R : Nat) (hR : runL nlf s.data.toList = R) (w : World) :
  Calls Tryz.prog 43 #[.string s, .func (.func 44) #[] #[]] w fun e w' => e = .returned (.int .i64 (R : Nat)) ∧ w = w' := hR ▸ run_nlf s hs w

set_option maxHeartbeats 400000 in
theorem run_nam (s : ByteArray) (hs : s.size ≤ 1000000) (w : World) :
  Calls Tryz.prog 43 #[.string s, .func (.func 59) #[] #[]] w fun e w' => e = .returned (.int .i64 (runL nam s.data.toList : Nat)) ∧ w = w' := by
 obtain ⟨R, hR⟩ : ∃ R, runL nam s.data.toList = R := ⟨_, rfl⟩
 rw [hR]
 replace hR := Lib.hid hR
 go_enter Tryz.func43, Tryz.ntmps43
 go_wp2
 go_loop [5] (fun i => ∃ k : Nat, k ≤ s.size ∧ i = .int .i64 k ∧ k + runL nam (s.data.toList.drop k) = R) (fun i => s.size - (intOf i).toNat)
 case atStart => exact ⟨0, Nat.zero_le _, rfl, by rw [← hR.out]; simp⟩
 case round =>
  obtain ⟨k, hk, rfl, hk2⟩ := hrel
  by_cases hlt : k < s.size
  ·rw [drop_cons s k hlt] at hk2
   cases hp : nam s[k] with
   | true =>
    have HP := Lib.hid (fun w => name_any s[k] w)
    rw [hp] at HP
    rw [runL_cons hp] at hk2
    replace hk2 := Lib.hid hk2
    clear hp
    go_wp2_with fail
    refine (HP.out _).mono ?_
    rintro e w' ⟨rfl, rfl⟩
    go_wp2
    go_round
    case rel => exact ⟨k + 1, hlt, by go_num, by have := hk2.out; omega⟩
    case measure => simp [intOf]; omega
   | false =>
    have HP := Lib.hid (fun w => name_any s[k] w)
    rw [hp] at HP
    rw [runL_none hp] at hk2
    replace hk2 := Lib.hid hk2
    clear hp
    go_wp2_with fail
    refine (HP.out _).mono ?_
    rintro e w' ⟨rfl, rfl⟩
    go_wp2
    go_ret
    exact ⟨ret_int (by have := hk2.out; omega), rfl⟩
  ·rw [drop_end s k (by omega)] at hk2
   have hlt2 : ¬ (k : Int) < s.size := by omega
   replace hk2 := Lib.hid (show k = R from hk2)
   go_wp2
   go_ret
   exact ⟨ret_int (by have := hk2.out; omega), rfl⟩

theorem run_nam_at (s : ByteArray) (hs : s.size ≤ 1000000) (R : Nat) (hR : runL nam s.data.toList = R) (w : World) :
  Calls Tryz.prog 43 #[.string s, .func (.func 59) #[] #[]] w fun e w' => e = .returned (.int .i64 (R : Nat)) ∧ w = w' := hR ▸ run_nam s hs w

set_option maxHeartbeats 400000 in
theorem run_dgt (s : ByteArray) (hs : s.size ≤ 1000000) (w : World) :
  Calls Tryz.prog 43 #[.string s, .func (.func 62) #[] #[]] w fun e w' => e = .returned (.int .i64 (runL dgt s.data.toList : Nat)) ∧ w = w' := by
 obtain ⟨R, hR⟩ : ∃ R, runL dgt s.data.toList = R := ⟨_, rfl⟩
 rw [hR]
 replace hR := Lib.hid hR
 go_enter Tryz.func43, Tryz.ntmps43
 go_wp2
 go_loop [5] (fun i => ∃ k : Nat, k ≤ s.size ∧ i = .int .i64 k ∧ k + runL dgt (s.data.toList.drop k) = R) (fun i => s.size - (intOf i).toNat)
 case atStart => exact ⟨0, Nat.zero_le _, rfl, by rw [← hR.out]; simp⟩
 case round =>
  obtain ⟨k, hk, rfl, hk2⟩ := hrel
  by_cases hlt : k < s.size
  ·rw [drop_cons s k hlt] at hk2
   cases hp : dgt s[k] with
   | true =>
    have HP := Lib.hid (fun w => digit_is s[k] w)
    rw [hp] at HP
    rw [runL_cons hp] at hk2
    replace hk2 := Lib.hid hk2
    clear hp
    go_wp2_with fail
    refine (HP.out _).mono ?_
    rintro e w' ⟨rfl, rfl⟩
    go_wp2
    go_round
    case rel => exact ⟨k + 1, hlt, by go_num, by have := hk2.out; omega⟩
    case measure => simp [intOf]; omega
   | false =>
    have HP := Lib.hid (fun w => digit_is s[k] w)
    rw [hp] at HP
    rw [runL_none hp] at hk2
    replace hk2 := Lib.hid hk2
    clear hp
    go_wp2_with fail
    refine (HP.out _).mono ?_
    rintro e w' ⟨rfl, rfl⟩
    go_wp2
    go_ret
    exact ⟨ret_int (by have := hk2.out; omega), rfl⟩
  ·rw [drop_end s k (by omega)] at hk2
   have hlt2 : ¬ (k : Int) < s.size := by omega
   replace hk2 := Lib.hid (show k = R from hk2)
   go_wp2
   go_ret
   exact ⟨ret_int (by have := hk2.out; omega), rfl⟩

theorem run_dgt_at (s : ByteArray) (hs : s.size ≤ 1000000) (R : Nat) (hR : runL dgt s.data.toList = R) (w : World) :
  Calls Tryz.prog 43 #[.string s, .func (.func 62) #[] #[]] w fun e w' => e = .returned (.int .i64 (R : Nat)) ∧ w = w' := hR ▸ run_dgt s hs w

set_option maxHeartbeats 400000 in
theorem run_nou (s : ByteArray) (hs : s.size ≤ 1000000) (w : World) :
  Calls Tryz.prog 43 #[.string s, .func (.func 104) #[] #[]] w fun e w' => e = .returned (.int .i64 (runL nou s.data.toList : Nat)) ∧ w = w' := by
 obtain ⟨R, hR⟩ : ∃ R, runL nou s.data.toList = R := ⟨_, rfl⟩
 rw [hR]
 replace hR := Lib.hid hR
 go_enter Tryz.func43, Tryz.ntmps43
 go_wp2
 go_loop [5] (fun i => ∃ k : Nat, k ≤ s.size ∧ i = .int .i64 k ∧ k + runL nou (s.data.toList.drop k) = R) (fun i => s.size - (intOf i).toNat)
 case atStart => exact ⟨0, Nat.zero_le _, rfl, by rw [← hR.out]; simp⟩
 case round =>
  obtain ⟨k, hk, rfl, hk2⟩ := hrel
  by_cases hlt : k < s.size
  ·rw [drop_cons s k hlt] at hk2
   cases hp : nou s[k] with
   | true =>
    have HP := Lib.hid (fun w => nou_any s[k] w)
    rw [hp] at HP
    rw [runL_cons hp] at hk2
    replace hk2 := Lib.hid hk2
    clear hp
    go_wp2_with fail
    refine (HP.out _).mono ?_
    rintro e w' ⟨rfl, rfl⟩
    go_wp2
    go_round
    case rel => exact ⟨k + 1, hlt, by go_num, by have := hk2.out; omega⟩
    case measure => simp [intOf]; omega
   | false =>
    have HP := Lib.hid (fun w => nou_any s[k] w)
    rw [hp] at HP
    rw [runL_none hp] at hk2
    replace hk2 := Lib.hid hk2
    clear hp
    go_wp2_with fail
    refine (HP.out _).mono ?_
    rintro e w' ⟨rfl, rfl⟩
    go_wp2
    go_ret
    exact ⟨ret_int (by have := hk2.out; omega), rfl⟩
  ·rw [drop_end s k (by omega)] at hk2
   have hlt2 : ¬ (k : Int) < s.size := by omega
   replace hk2 := Lib.hid (show k = R from hk2)
   go_wp2
   go_ret
   exact ⟨ret_int (by have := hk2.out; omega), rfl⟩

theorem run_nou_at (s : ByteArray) (hs : s.size ≤ 1000000) (R : Nat) (hR : runL nou s.data.toList = R) (w : World) :
  Calls Tryz.prog 43 #[.string s, .func (.func 104) #[] #[]] w fun e w' => e = .returned (.int .i64 (R : Nat)) ∧ w = w' := hR ▸ run_nou s hs w
end
end Go.Proofs.YtbknflaooemigaaGreat

namespace Go.Proofs.YtbknflaooemigaaGreat
section
open Go.RowKit
set_option linter.unusedVariables false

theorem str_ne {s : ByteArray} {l : List UInt8} (h : s.data.toList ≠ l) : (s.toList == l) = false := by rw [ByteArray.toList_eq]; simpa using h
theorem str_is {s : ByteArray} {l : List UInt8} (h : s.data.toList = l) : s = bs l := by rw [← h, bs_eta]

theorem word_0 (w : World) : Calls Tryz.prog 86 #[.string { data := #[114, 101, 99] }] w fun e w' => e = .returned (.bool true) ∧ w = w' := by
 go_enter Tryz.func86, Tryz.ntmps86
 go_wp2
 go_ret
 exact ⟨rfl, rfl⟩

theorem word_1 (w : World) : Calls Tryz.prog 86 #[.string { data := #[102, 110] }] w fun e w' => e = .returned (.bool true) ∧ w = w' := by
 go_enter Tryz.func86, Tryz.ntmps86
 go_wp2
 go_ret
 exact ⟨rfl, rfl⟩

theorem word_2 (w : World) : Calls Tryz.prog 86 #[.string { data := #[118, 97, 114] }] w fun e w' => e = .returned (.bool true) ∧ w = w' := by
 go_enter Tryz.func86, Tryz.ntmps86
 go_wp2
 go_ret
 exact ⟨rfl, rfl⟩

theorem word_3 (w : World) : Calls Tryz.prog 86 #[.string { data := #[105, 102] }] w fun e w' => e = .returned (.bool true) ∧ w = w' := by
 go_enter Tryz.func86, Tryz.ntmps86
 go_wp2
 go_ret
 exact ⟨rfl, rfl⟩

theorem word_4 (w : World) : Calls Tryz.prog 86 #[.string { data := #[101, 108, 115, 101] }] w fun e w' => e = .returned (.bool true) ∧ w = w' := by
 go_enter Tryz.func86, Tryz.ntmps86
 go_wp2
 go_ret
 exact ⟨rfl, rfl⟩

theorem word_5 (w : World) : Calls Tryz.prog 86 #[.string { data := #[119, 104, 105, 108, 101] }] w fun e w' => e = .returned (.bool true) ∧ w = w' := by
 go_enter Tryz.func86, Tryz.ntmps86
 go_wp2
 go_ret
 exact ⟨rfl, rfl⟩

theorem word_6 (w : World) : Calls Tryz.prog 86 #[.string { data := #[114, 101, 116, 117, 114, 110] }] w fun e w' => e = .returned (.bool true) ∧ w = w' := by
 go_enter Tryz.func86, Tryz.ntmps86
 go_wp2
 go_ret
 exact ⟨rfl, rfl⟩

theorem word_7 (w : World) : Calls Tryz.prog 86 #[.string { data := #[112, 114, 105, 110, 116] }] w fun e w' => e = .returned (.bool true) ∧ w = w' := by
 go_enter Tryz.func86, Tryz.ntmps86
 go_wp2
 go_ret
 exact ⟨rfl, rfl⟩

theorem word_8 (w : World) : Calls Tryz.prog 86 #[.string { data := #[116, 114, 117, 101] }] w fun e w' => e = .returned (.bool true) ∧ w = w' := by
 go_enter Tryz.func86, Tryz.ntmps86
 go_wp2
 go_ret
 exact ⟨rfl, rfl⟩

theorem word_9 (w : World) : Calls Tryz.prog 86 #[.string { data := #[102, 97, 108, 115, 101] }] w fun e w' => e = .returned (.bool true) ∧ w = w' := by
 go_enter Tryz.func86, Tryz.ntmps86
 go_wp2
 go_ret
 exact ⟨rfl, rfl⟩

theorem word_10 (w : World) : Calls Tryz.prog 86 #[.string { data := #[110, 105, 108] }] w fun e w' => e = .returned (.bool true) ∧ w = w' := by
 go_enter Tryz.func86, Tryz.ntmps86
 go_wp2
 go_ret
 exact ⟨rfl, rfl⟩

theorem word_11 (w : World) : Calls Tryz.prog 86 #[.string { data := #[109, 97, 107, 101] }] w fun e w' => e = .returned (.bool true) ∧ w = w' := by
 go_enter Tryz.func86, Tryz.ntmps86
 go_wp2
 go_ret
 exact ⟨rfl, rfl⟩

theorem word_12 (w : World) : Calls Tryz.prog 86 #[.string { data := #[105, 110, 116] }] w fun e w' => e = .returned (.bool true) ∧ w = w' := by
 go_enter Tryz.func86, Tryz.ntmps86
 go_wp2
 go_ret
 exact ⟨rfl, rfl⟩

theorem word_13 (w : World) : Calls Tryz.prog 86 #[.string { data := #[98, 111, 111, 108] }] w fun e w' => e = .returned (.bool true) ∧ w = w' := by
 go_enter Tryz.func86, Tryz.ntmps86
 go_wp2
 go_ret
 exact ⟨rfl, rfl⟩

theorem word_14 (w : World) : Calls Tryz.prog 86 #[.string { data := #[115, 116, 114] }] w fun e w' => e = .returned (.bool true) ∧ w = w' := by
 go_enter Tryz.func86, Tryz.ntmps86
 go_wp2
 go_ret
 exact ⟨rfl, rfl⟩

theorem word_15 (w : World) : Calls Tryz.prog 86 #[.string { data := #[99, 111, 109, 112] }] w fun e w' => e = .returned (.bool true) ∧ w = w' := by
 go_enter Tryz.func86, Tryz.ntmps86
 go_wp2
 go_ret
 exact ⟨rfl, rfl⟩

set_option maxHeartbeats 1000000 in
theorem word_none (s : ByteArray) (w : World) (e0 : (s.toList == [114, 101, 99]) = false) (e1 : (s.toList == [102, 110]) = false) (e2 : (s.toList == [118, 97, 114]) = false) (e3 : (s.toList == [105, 102]) = false) (e4 : (s.toList == [101, 108, 115, 101]) = false) (e5 : (s.toList == [119, 104, 105, 108, 101]) = false) (e6 : (s.toList == [114, 101, 116, 117, 114, 110]) = false) (e7 : (s.toList == [112, 114, 105, 110, 116]) = false) (e8 : (s.toList == [116, 114, 117, 101]) = false) (e9 : (s.toList == [102, 97, 108, 115, 101]) = false) (e10 : (s.toList == [110, 105, 108]) = false) (e11 : (s.toList == [109, 97, 107, 101]) = false) (e12 : (s.toList == [105, 110, 116]) = false) (e13 : (s.toList == [98, 111, 111, 108]) = false) (e14 : (s.toList == [115, 116, 114]) = false) (e15 : (s.toList == [99, 111, 109, 112]) = false) : Calls Tryz.prog 86 #[.string s] w fun e w' => e = .returned (.bool false) ∧ w = w' := by
 go_enter Tryz.func86, Tryz.ntmps86
 go_wp2
 go_ret
 exact ⟨rfl, rfl⟩

theorem word_any (s : ByteArray) (w : World) : Calls Tryz.prog 86 #[.string s] w fun e w' => e = .returned (.bool (isWord s.data.toList)) ∧ w = w' := by
 by_cases h0 : s.data.toList = [114, 101, 99]
 ·rw [str_is h0]; exact word_0 w
 by_cases h1 : s.data.toList = [102, 110]
 ·rw [str_is h1]; exact word_1 w
 by_cases h2 : s.data.toList = [118, 97, 114]
 ·rw [str_is h2]; exact word_2 w
 by_cases h3 : s.data.toList = [105, 102]
 ·rw [str_is h3]; exact word_3 w
 by_cases h4 : s.data.toList = [101, 108, 115, 101]
 ·rw [str_is h4]; exact word_4 w
 by_cases h5 : s.data.toList = [119, 104, 105, 108, 101]
 ·rw [str_is h5]; exact word_5 w
 by_cases h6 : s.data.toList = [114, 101, 116, 117, 114, 110]
 ·rw [str_is h6]; exact word_6 w
 by_cases h7 : s.data.toList = [112, 114, 105, 110, 116]
 ·rw [str_is h7]; exact word_7 w
 by_cases h8 : s.data.toList = [116, 114, 117, 101]
 ·rw [str_is h8]; exact word_8 w
 by_cases h9 : s.data.toList = [102, 97, 108, 115, 101]
 ·rw [str_is h9]; exact word_9 w
 by_cases h10 : s.data.toList = [110, 105, 108]
 ·rw [str_is h10]; exact word_10 w
 by_cases h11 : s.data.toList = [109, 97, 107, 101]
 ·rw [str_is h11]; exact word_11 w
 by_cases h12 : s.data.toList = [105, 110, 116]
 ·rw [str_is h12]; exact word_12 w
 by_cases h13 : s.data.toList = [98, 111, 111, 108]
 ·rw [str_is h13]; exact word_13 w
 by_cases h14 : s.data.toList = [115, 116, 114]
 ·rw [str_is h14]; exact word_14 w
 by_cases h15 : s.data.toList = [99, 111, 109, 112]
 ·rw [str_is h15]; exact word_15 w
 rw [show isWord s.data.toList = false by simp [isWord, words, h0, h1, h2, h3, h4, h5, h6, h7, h8, h9, h10, h11, h12, h13, h14, h15]]
 exact word_none s w (str_ne h0) (str_ne h1) (str_ne h2) (str_ne h3) (str_ne h4) (str_ne h5) (str_ne h6) (str_ne h7) (str_ne h8) (str_ne h9) (str_ne h10) (str_ne h11) (str_ne h12) (str_ne h13) (str_ne h14) (str_ne h15)

theorem word_at (s : ByteArray) (b : Bool) (h : isWord s.data.toList = b) (w : World) : Calls Tryz.prog 86 #[.string s] w fun e w' => e = .returned (.bool b) ∧ w = w' := h ▸ word_any s w

theorem wcells (w : World) (k : Nat) (h : k < 16) : (w.alloc (Obj.cells #[Value.string { data := #[114, 101, 99] }, Value.string { data := #[102, 110] }, Value.string { data := #[118, 97, 114] }, Value.string { data := #[105, 102] }, Value.string { data := #[101, 108, 115, 101] }, Value.string { data := #[119, 104, 105, 108, 101] }, Value.string { data := #[114, 101, 116, 117, 114, 110] }, Value.string { data := #[112, 114, 105, 110, 116] }, Value.string { data := #[116, 114, 117, 101] }, Value.string { data := #[102, 97, 108, 115, 101] }, Value.string { data := #[110, 105, 108] }, Value.string { data := #[109, 97, 107, 101] }, Value.string { data := #[105, 110, 116] }, Value.string { data := #[98, 111, 111, 108] }, Value.string { data := #[115, 116, 114] }, Value.string { data := #[99, 111, 109, 112] }] 9)).cell? ⟨w.heap.size, k, none⟩ = some (.string (bs (words[k]'h))) := by
 have e : (w.alloc (Obj.cells #[Value.string { data := #[114, 101, 99] }, Value.string { data := #[102, 110] }, Value.string { data := #[118, 97, 114] }, Value.string { data := #[105, 102] }, Value.string { data := #[101, 108, 115, 101] }, Value.string { data := #[119, 104, 105, 108, 101] }, Value.string { data := #[114, 101, 116, 117, 114, 110] }, Value.string { data := #[112, 114, 105, 110, 116] }, Value.string { data := #[116, 114, 117, 101] }, Value.string { data := #[102, 97, 108, 115, 101] }, Value.string { data := #[110, 105, 108] }, Value.string { data := #[109, 97, 107, 101] }, Value.string { data := #[105, 110, 116] }, Value.string { data := #[98, 111, 111, 108] }, Value.string { data := #[115, 116, 114] }, Value.string { data := #[99, 111, 109, 112] }] 9)).cell? ⟨w.heap.size, k, none⟩ = (#[Value.string { data := #[114, 101, 99] }, Value.string { data := #[102, 110] }, Value.string { data := #[118, 97, 114] }, Value.string { data := #[105, 102] }, Value.string { data := #[101, 108, 115, 101] }, Value.string { data := #[119, 104, 105, 108, 101] }, Value.string { data := #[114, 101, 116, 117, 114, 110] }, Value.string { data := #[112, 114, 105, 110, 116] }, Value.string { data := #[116, 114, 117, 101] }, Value.string { data := #[102, 97, 108, 115, 101] }, Value.string { data := #[110, 105, 108] }, Value.string { data := #[109, 97, 107, 101] }, Value.string { data := #[105, 110, 116] }, Value.string { data := #[98, 111, 111, 108] }, Value.string { data := #[115, 116, 114] }, Value.string { data := #[99, 111, 109, 112] }] : Array Value)[k]? := by simp [go_sem]
 rw [e]
 match k, h with
 | 0, _ => rfl
 | 1, _ => rfl
 | 2, _ => rfl
 | 3, _ => rfl
 | 4, _ => rfl
 | 5, _ => rfl
 | 6, _ => rfl
 | 7, _ => rfl
 | 8, _ => rfl
 | 9, _ => rfl
 | 10, _ => rfl
 | 11, _ => rfl
 | 12, _ => rfl
 | 13, _ => rfl
 | 14, _ => rfl
 | 15, _ => rfl
 | n + 16, h => omega
end
end Go.Proofs.YtbknflaooemigaaGreat

namespace Go.Proofs.YtbknflaooemigaaGreat
section
open Go.RowKit
set_option linter.unusedVariables false

/-- How many bytes stand between tokens. -/
def skipF (note : Bool) : List UInt8 → Nat
 | [] => 0
 | c :: t => if c = 10 then skipF false t + 1 else if note = true ∨ c = 35 then skipF true t + 1 else if c = 32 ∨ c = 9 ∨ c = 13 then skipF false t + 1 else 0

/-- The place behind bytes. -/
def plc (a b : Nat) : List UInt8 → Nat × Nat
 | [] => (a, b)
 | c :: t => if c = 10 then plc (a + 1) 1 t else plc a (b + 1) t

theorem skip_lf (n : Bool) (t : List UInt8) : skipF n (10 :: t) = skipF false t + 1 := by rw [skipF, if_pos rfl]
theorem skip_in {n : Bool} {c : UInt8} (t : List UInt8) (h : c ≠ 10) (h2 : n = true ∨ c = 35) : skipF n (c :: t) = skipF true t + 1 := by rw [skipF, if_neg h, if_pos h2]
theorem skip_blank {c : UInt8} (t : List UInt8) (h : c = 32 ∨ c = 9 ∨ c = 13) : skipF false (c :: t) = skipF false t + 1 := by
 rw [skipF, if_neg (by rcases h with rfl | rfl | rfl <;> decide), if_neg (by rcases h with rfl | rfl | rfl <;> decide), if_pos h]
theorem skip_tok {c : UInt8} (t : List UInt8) (h : ¬ isGap c) : skipF false (c :: t) = 0 := by
 unfold isGap at h
 rw [skipF, if_neg (fun e => h (.inl e)), if_neg (fun e => h (by rcases e with e | e <;> simp_all)), if_neg (fun e => h (by rcases e with e | e | e <;> simp [e]))]

theorem ret_ii {a b : Int} {p : Nat × Nat} {x y : Nat} (h : (x, y) = p) (h1 : a = x) (h2 : b = y) : Ending.returned (.tuple #[.int .i64 a, .int .i64 b]) = .returned (.tuple #[.int .i64 (p.1 : Nat), .int .i64 (p.2 : Nat)]) := by rw [← h, h1, h2]
end
end Go.Proofs.YtbknflaooemigaaGreat
