/-
  Contracts of the small functions on one byte: quote.isWithin, byteOf, digitOf; the document's value. Conditions: none.
-/
import Derived.Test.YtbknflaooemigaaLit
import Derived.Test.YtbknflaooemigaaBytes
import Derived.Test.YtbknflaooemigaaGoto
namespace Go.Proofs.Ytbknflaooemigaa
open Go.RowKit
set_option linter.unusedVariables false

def byo (c : UInt8) : UInt8 × Bool := match bk c with | some b => (b, true) | none => (0, false)
def dgo (c : UInt8) : UInt8 × Bool := match dg c with | some x => (UInt8.ofNat x, true) | none => (0, false)
def vlo (c : UInt8) : Int := match dg c with | some x => x | none => -1
def wth (c : UInt8) : Bool := decide (32 ≤ c.toNat ∧ c.toNat ≤ 126)

theorem within_any (c : UInt8) (w : World) : Calls Try.prog 78 #[byt c] w fun e w' => e = .returned (.bool (wth c)) ∧ w = w' := by
  have hc : (c.toNat : Int) < 256 := by have := c.toNat_lt; omega
  by_cases h1 : (32 : Int) ≤ c.toNat
  · by_cases h2 : (c.toNat : Int) ≤ 126
    · have H := Lib.hid (show wth c = true by simp [wth]; omega)
      go_enter Try.func78, Try.ntmps78
      go_wp2
      go_ret
      rw [H.out]
      exact ⟨rfl, rfl⟩
    · have H := Lib.hid (show wth c = false by simp [wth]; omega)
      go_enter Try.func78, Try.ntmps78
      go_wp2
      go_ret
      rw [H.out]
      exact ⟨rfl, rfl⟩
  · have H := Lib.hid (show wth c = false by simp [wth]; omega)
    go_enter Try.func78, Try.ntmps78
    go_wp2
    go_ret
    rw [H.out]
    exact ⟨rfl, rfl⟩

theorem byte_any (c : UInt8) (w : World) : Calls Try.prog 80 #[byt c] w fun e w' => e = .returned (.tuple #[byt (byo c).1, .bool (byo c).2]) ∧ w = w' := by
  by_cases h1 : c = 34
  · subst h1
    go_enter Try.func80, Try.ntmps80
    go_wp2
    go_ret2
    exact ⟨rfl, rfl⟩
  by_cases h2 : c = 92
  · subst h2
    go_enter Try.func80, Try.ntmps80
    go_wp2
    go_ret2
    exact ⟨rfl, rfl⟩
  by_cases h3 : c = 110
  · subst h3
    go_enter Try.func80, Try.ntmps80
    go_wp2
    go_ret2
    exact ⟨rfl, rfl⟩
  by_cases h4 : c = 116
  · subst h4
    go_enter Try.func80, Try.ntmps80
    go_wp2
    go_ret2
    exact ⟨rfl, rfl⟩
  have H := Lib.hid (show byo c = (0, false) by simp [byo, bk, h1, h2, h3, h4])
  have e1 := byte_ne (n := 34) (by decide) h1
  have e2 := byte_ne (n := 92) (by decide) h2
  have e3 := byte_ne (n := 110) (by decide) h3
  have e4 := byte_ne (n := 116) (by decide) h4
  clear h1 h2 h3 h4
  go_enter Try.func80, Try.ntmps80
  go_wp2
  go_ret2
  rw [H.out]
  exact ⟨rfl, rfl⟩

theorem dg_lt {c : UInt8} {x : Nat} (h : dg c = some x) : x < 16 := by
  unfold dg at h
  split at h
  · simp at h; omega
  · split at h
    · simp at h; omega
    · split at h
      · simp at h; omega
      · simp at h

theorem dg_cases (c : UInt8) : (48 ≤ c.toNat ∧ c.toNat ≤ 57 ∧ dg c = some (c.toNat - 48)) ∨ (97 ≤ c.toNat ∧ c.toNat ≤ 102 ∧ dg c = some (c.toNat - 87)) ∨
    (65 ≤ c.toNat ∧ c.toNat ≤ 70 ∧ dg c = some (c.toNat - 55)) ∨ (¬ (48 ≤ c.toNat ∧ c.toNat ≤ 57) ∧ ¬ (97 ≤ c.toNat ∧ c.toNat ≤ 102) ∧ ¬ (65 ≤ c.toNat ∧ c.toNat ≤ 70) ∧ dg c = none) := by
  unfold dg
  by_cases h1 : 48 ≤ c.toNat ∧ c.toNat ≤ 57
  · exact .inl ⟨h1.1, h1.2, if_pos h1⟩
  by_cases h2 : 97 ≤ c.toNat ∧ c.toNat ≤ 102
  · exact .inr (.inl ⟨h2.1, h2.2, by rw [if_neg h1, if_pos h2]⟩)
  by_cases h3 : 65 ≤ c.toNat ∧ c.toNat ≤ 70
  · exact .inr (.inr (.inl ⟨h3.1, h3.2, by rw [if_neg h1, if_neg h2, if_pos h3]⟩))
  exact .inr (.inr (.inr ⟨h1, h2, h3, by rw [if_neg h1, if_neg h2, if_neg h3]⟩))

theorem ret_bb {a : Int} {c : UInt8 × Bool} {b : UInt8} {t : Bool} (h : c = (b, t)) (h2 : a = (b.toNat : Nat)) : Ending.returned (.tuple #[.int .u8 a, .bool t]) = .returned (.tuple #[byt c.1, .bool c.2]) := by rw [h, h2]

theorem of_nat {x : Nat} (h : x < 256) : (UInt8.ofNat x).toNat = x := UInt8.toNat_ofNat_of_lt' (by simpa using h)

theorem ret_ib {a b : Int} {t : Bool} (h : a = b) : Ending.returned (.tuple #[.int .u8 a, .bool t]) = .returned (.tuple #[.int .u8 b, .bool t]) := by rw [h]

theorem dig0 (n : Nat) (w : World) (k1 : (48 : Int) ≤ n) (k2 : (n : Int) ≤ 57) : Calls Try.prog 88 #[.int .u8 n] w fun e w' => e = .returned (.tuple #[.int .u8 ((n : Int) - 48), .bool true]) ∧ w = w' := by
  go_enter Try.func88, Try.ntmps88
  go_wp2
  go_ret2
  exact ⟨ret_ib (by omega), rfl⟩

theorem dig1 (n : Nat) (w : World) (k1 : (97 : Int) ≤ n) (k2 : (n : Int) ≤ 102) : Calls Try.prog 88 #[.int .u8 n] w fun e w' => e = .returned (.tuple #[.int .u8 ((n : Int) - 87), .bool true]) ∧ w = w' := by
  go_enter Try.func88, Try.ntmps88
  go_wp2
  go_ret2
  exact ⟨ret_ib (by omega), rfl⟩

theorem dig2 (n : Nat) (w : World) (k1 : (65 : Int) ≤ n) (k2 : (n : Int) ≤ 70) : Calls Try.prog 88 #[.int .u8 n] w fun e w' => e = .returned (.tuple #[.int .u8 ((n : Int) - 55), .bool true]) ∧ w = w' := by
  go_enter Try.func88, Try.ntmps88
  go_wp2
  go_ret2
  exact ⟨ret_ib (by omega), rfl⟩

set_option maxHeartbeats 400000 in
theorem dig3 (n : Nat) (w : World) (hn : (n : Int) < 256) (h1 : ¬ (48 ≤ n ∧ n ≤ 57)) (h2 : ¬ (97 ≤ n ∧ n ≤ 102)) (h3 : ¬ (65 ≤ n ∧ n ≤ 70)) :
    Calls Try.prog 88 #[.int .u8 n] w fun e w' => e = .returned (.tuple #[.int .u8 0, .bool false]) ∧ w = w' := by
  rcases (show (n : Int) < 48 ∨ ((57 : Int) < n ∧ (n : Int) < 65) ∨ ((70 : Int) < n ∧ (n : Int) < 97) ∨ (102 : Int) < n by omega) with h | ⟨h, h'⟩ | ⟨h, h'⟩ | h <;> clear h1 h2 h3 hn <;>
  · go_enter Try.func88, Try.ntmps88
    go_wp2
    go_ret2
    exact ⟨rfl, rfl⟩

theorem digit_any (c : UInt8) (w : World) : Calls Try.prog 88 #[byt c] w fun e w' => e = .returned (.tuple #[byt (dgo c).1, .bool (dgo c).2]) ∧ w = w' := by
  have hc : (c.toNat : Int) < 256 := by have := c.toNat_lt; omega
  rcases dg_cases c with ⟨h1, h2, h⟩ | ⟨h1, h2, h⟩ | ⟨h1, h2, h⟩ | ⟨h1, h2, h3, h⟩
  · refine (dig0 _ w (by omega) (by omega)).mono fun e w' he => ⟨he.1.trans (ret_bb (show dgo c = _ by rw [dgo, h]) ?_), he.2⟩
    rw [of_nat (by omega)]; omega
  · refine (dig1 _ w (by omega) (by omega)).mono fun e w' he => ⟨he.1.trans (ret_bb (show dgo c = _ by rw [dgo, h]) ?_), he.2⟩
    rw [of_nat (by omega)]; omega
  · refine (dig2 _ w (by omega) (by omega)).mono fun e w' he => ⟨he.1.trans (ret_bb (show dgo c = _ by rw [dgo, h]) ?_), he.2⟩
    rw [of_nat (by omega)]; omega
  · exact (dig3 _ w hc h1 h2 h3).mono fun e w' he => ⟨he.1.trans (ret_bb (show dgo c = _ by rw [dgo, h]) rfl), he.2⟩

end Go.Proofs.Ytbknflaooemigaa
