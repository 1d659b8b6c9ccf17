/-
  Contracts of the functions on one byte: lex.isSmall, isGreat, isDigit, isInName, the two functions that are handed on, the document's kind. Conditions: none.
-/
import Derived.Test.YtbknflaooemigaaTok
import Derived.Test.YtbknflaooemigaaSmall
namespace Go.Proofs.Ytbknflaooemigaa
open Go.RowKit
set_option linter.unusedVariables false

theorem small_any (c : UInt8) (w : World) : Calls Try.prog 30 #[byt c] w fun e w' => e = .returned (.bool (sml c)) ∧ w = w' := by
  by_cases h95 : c = 95
  · subst h95
    go_enter Try.func30, Try.ntmps30
    go_wp2
    go_ret
    exact ⟨rfl, rfl⟩
  have e95 : ((c.toNat : Int) == 95) = false := byte_ne (n := 95) (by decide) h95
  by_cases h1 : (97 : Int) ≤ c.toNat
  · by_cases h2 : (c.toNat : Int) ≤ 122
    · have H := Lib.hid (show sml c = true by simp [sml]; omega)
      clear h95
      go_enter Try.func30, Try.ntmps30
      go_wp2
      go_ret
      rw [H.out]
      exact ⟨rfl, rfl⟩
    · have H := Lib.hid (show sml c = false by simp [sml, h95]; omega)
      clear h95
      go_enter Try.func30, Try.ntmps30
      go_wp2
      go_ret
      rw [H.out]
      exact ⟨rfl, rfl⟩
  · have H := Lib.hid (show sml c = false by simp [sml, h95]; omega)
    clear h95
    go_enter Try.func30, Try.ntmps30
    go_wp2
    go_ret
    rw [H.out]
    exact ⟨rfl, rfl⟩

theorem great_any (c : UInt8) (w : World) : Calls Try.prog 31 #[byt c] w fun e w' => e = .returned (.bool (grt c)) ∧ w = w' := by
  by_cases h1 : (65 : Int) ≤ c.toNat
  · by_cases h2 : (c.toNat : Int) ≤ 90
    · have H := Lib.hid (show grt c = true by simp [grt]; omega)
      go_enter Try.func31, Try.ntmps31
      go_wp2
      go_ret
      rw [H.out]
      exact ⟨rfl, rfl⟩
    · have H := Lib.hid (show grt c = false by simp [grt]; omega)
      go_enter Try.func31, Try.ntmps31
      go_wp2
      go_ret
      rw [H.out]
      exact ⟨rfl, rfl⟩
  · have H := Lib.hid (show grt c = false by simp [grt]; omega)
    go_enter Try.func31, Try.ntmps31
    go_wp2
    go_ret
    rw [H.out]
    exact ⟨rfl, rfl⟩

theorem digit_is (c : UInt8) (w : World) : Calls Try.prog 35 #[byt c] w fun e w' => e = .returned (.bool (dgt c)) ∧ w = w' := by
  by_cases h1 : (48 : Int) ≤ c.toNat
  · by_cases h2 : (c.toNat : Int) ≤ 57
    · have H := Lib.hid (show dgt c = true by simp [dgt]; omega)
      go_enter Try.func35, Try.ntmps35
      go_wp2
      go_ret
      rw [H.out]
      exact ⟨rfl, rfl⟩
    · have H := Lib.hid (show dgt c = false by simp [dgt]; omega)
      go_enter Try.func35, Try.ntmps35
      go_wp2
      go_ret
      rw [H.out]
      exact ⟨rfl, rfl⟩
  · have H := Lib.hid (show dgt c = false by simp [dgt]; omega)
    go_enter Try.func35, Try.ntmps35
    go_wp2
    go_ret
    rw [H.out]
    exact ⟨rfl, rfl⟩

theorem small_at {c : UInt8} {b : Bool} (h : sml c = b) (w : World) : Calls Try.prog 30 #[byt c] w fun e w' => e = .returned (.bool b) ∧ w = w' := h ▸ small_any c w
theorem great_at {c : UInt8} {b : Bool} (h : grt c = b) (w : World) : Calls Try.prog 31 #[byt c] w fun e w' => e = .returned (.bool b) ∧ w = w' := h ▸ great_any c w
theorem digit_at {c : UInt8} {b : Bool} (h : dgt c = b) (w : World) : Calls Try.prog 35 #[byt c] w fun e w' => e = .returned (.bool b) ∧ w = w' := h ▸ digit_is c w

theorem name_any (c : UInt8) (w : World) : Calls Try.prog 32 #[byt c] w fun e w' => e = .returned (.bool (nam c)) ∧ w = w' := by
  cases h1 : sml c with
  | true =>
    have H1 := Lib.hid (fun w => small_at h1 w)
    have H := Lib.hid (show nam c = true by simp [nam, h1])
    clear h1
    go_enter Try.func32, Try.ntmps32
    go_wp2_with fail
    refine (H1.out _).mono ?_
    rintro e w' ⟨rfl, rfl⟩
    go_wp2
    go_ret
    rw [H.out]
    exact ⟨rfl, rfl⟩
  | false =>
    have H1 := Lib.hid (fun w => small_at h1 w)
    cases h2 : grt c with
    | true =>
      have H2 := Lib.hid (fun w => great_at h2 w)
      have H := Lib.hid (show nam c = true by simp [nam, h2])
      clear h1 h2
      go_enter Try.func32, Try.ntmps32
      go_wp2_with fail
      refine (H1.out _).mono ?_
      rintro e w' ⟨rfl, rfl⟩
      go_wp2_with fail
      refine (H2.out _).mono ?_
      rintro e w' ⟨rfl, rfl⟩
      go_wp2
      go_ret
      rw [H.out]
      exact ⟨rfl, rfl⟩
    | false =>
      have H2 := Lib.hid (fun w => great_at h2 w)
      have H3 := Lib.hid (fun w => digit_is c w)
      have H := Lib.hid (show nam c = dgt c by simp [nam, h1, h2])
      clear h1 h2
      go_enter Try.func32, Try.ntmps32
      go_wp2_with fail
      refine (H1.out _).mono ?_
      rintro e w' ⟨rfl, rfl⟩
      go_wp2_with fail
      refine (H2.out _).mono ?_
      rintro e w' ⟨rfl, rfl⟩
      go_wp2_with fail
      refine (H3.out _).mono ?_
      rintro e w' ⟨rfl, rfl⟩
      go_wp2
      go_ret
      rw [H.out]
      exact ⟨rfl, rfl⟩

theorem nlf_any (c : UInt8) (w : World) : Calls Try.prog 21 #[byt c] w fun e w' => e = .returned (.bool (nlf c)) ∧ w = w' := by
  by_cases h : c = 10
  · subst h
    go_enter Try.func21, Try.ntmps21
    go_wp2
    go_ret
    exact ⟨rfl, rfl⟩
  · have e1 : ((c.toNat : Int) != 10) = true := b_ne (n := 10) (by decide) h
    have H := Lib.hid (show nlf c = true by simp [nlf, h])
    clear h
    go_enter Try.func21, Try.ntmps21
    go_wp2
    go_ret
    rw [H.out]
    exact ⟨rfl, rfl⟩

theorem nou_any (c : UInt8) (w : World) : Calls Try.prog 68 #[byt c] w fun e w' => e = .returned (.bool (nou c)) ∧ w = w' := by
  by_cases h : c = 48
  · subst h
    go_enter Try.func68, Try.ntmps68
    go_wp2
    go_ret
    exact ⟨rfl, rfl⟩
  · have e1 : ((c.toNat : Int) == 48) = false := byte_ne (n := 48) (by decide) h
    have H := Lib.hid (show nou c = false by simp [nou, h])
    clear h
    go_enter Try.func68, Try.ntmps68
    go_wp2
    go_ret
    rw [H.out]
    exact ⟨rfl, rfl⟩

/-- The document's kind of a byte. -/
def kdN (c : UInt8) : Nat := if sml c = true then 1 else if grt c = true then 2 else if dgt c = true then 3 else 0

theorem ret_kd {c : UInt8} {n : Nat} {a : Int} (h : kdN c = n) (h2 : a = n) : Ending.returned (.int .i64 a) = .returned (.int .i64 (kdN c : Nat)) := by rw [h, h2]

theorem kd_pos (c : UInt8) : (0 < kdN c) ↔ nam c = true := by
  unfold kdN nam
  cases sml c <;> cases grt c <;> cases dgt c <;> simp

end Go.Proofs.Ytbknflaooemigaa
