/-
  Plain facts on numbers of fewer bits. No program is spoken of. Conditions: from 1 to 64 bits.
-/
import Derived.WalkKit
import Derived.Lib.Hide
namespace Go.Proofs.Ytknnobijdojjhaa
open Go.RowKit

/-- The number of n bits that differs from a by a multiple of 2^n. -/
def rnd (a : Int) (n : Nat) : Int := (a + 2 ^ (n - 1)) % 2 ^ n - 2 ^ (n - 1)

theorem pow_split (n : Nat) (h1 : 1 ≤ n) (h2 : n ≤ 64) :
    ∃ H G : Int, (2 : Int) ^ (n - 1) = H ∧ (2 : Int) ^ n = 2 * H ∧ (2 : Int) ^ (64 - n) = G ∧ H * G = 9223372036854775808 ∧ 0 < H ∧ 0 < G ∧ H ≤ 9223372036854775808 := by
  have e1 : (2 : Int) ^ n = 2 * 2 ^ (n - 1) := by
    obtain ⟨m, rfl⟩ : ∃ m, n = m + 1 := ⟨n - 1, by omega⟩
    rw [Int.pow_succ, Int.mul_comm]; rfl
  have e2 : (2 : Int) ^ (n - 1) * 2 ^ (64 - n) = 9223372036854775808 := by
    rw [← Int.pow_add, show n - 1 + (64 - n) = 63 by omega]; rfl
  have p1 : (0 : Int) < 2 ^ (n - 1) := Int.pow_pos (by decide)
  have p2 : (0 : Int) < 2 ^ (64 - n) := Int.pow_pos (by decide)
  refine ⟨_, _, rfl, e1, rfl, e2, p1, p2, ?_⟩
  rw [← e2]
  have c := Int.mul_le_mul_of_nonneg_left (show (1 : Int) ≤ 2 ^ (64 - n) by omega) (show (0 : Int) ≤ 2 ^ (n - 1) by omega)
  rwa [Int.mul_one] at c

theorem shl_shr (a : Int) (n : Nat) (h1 : 1 ≤ n) (h2 : n ≤ 64) : wrap64 (a * 2 ^ (64 - n)) / 2 ^ (64 - n) = rnd a n := by
  obtain ⟨H, G, e1, e2, e3, e4, p1, p2, _⟩ := pow_split n h1 h2
  unfold rnd wrap64
  rw [e1, e2, e3]
  have q : a * G + 9223372036854775808 = (a + H) * G := by rw [Int.add_mul, e4]
  have m : (18446744073709551616 : Int) = 2 * H * G := by rw [Int.mul_assoc, e4]; rfl
  rw [q, m, Int.mul_comm (a + H) G, Int.mul_comm (2 * H) G, Int.mul_emod_mul_of_pos _ _ p2, Int.mul_comm G, ← e4, ← Int.sub_mul, Int.mul_ediv_cancel _ (by omega)]

theorem rnd_rnd (a : Int) (n : Nat) : rnd (rnd a n) n = rnd a n := by
  unfold rnd
  rw [Int.sub_add_cancel, Int.emod_emod]

/-- What the document's bits add up to ahead of number k. -/
def acc (u n k : Nat) : Nat := if k ≤ n then u % 2 ^ k else u % 2 ^ n + u / 2 ^ (n - 1) % 2 * (2 ^ k - 2 ^ n)
def bit (u n k : Nat) : Nat := if k < n then u / 2 ^ k % 2 else u / 2 ^ (n - 1) % 2

theorem acc_zero (u n : Nat) : acc u n 0 = 0 := by simp [acc, Nat.mod_one]
theorem acc_succ (u n k : Nat) : acc u n (k + 1) = acc u n k + bit u n k * 2 ^ k := by
  unfold acc bit
  rcases Nat.lt_trichotomy k n with h | h | h
  · rw [if_pos (by omega), if_pos (by omega), if_pos h, Nat.pow_succ, Nat.mod_mul, Nat.mul_comm (2 ^ k)]
  · subst h
    rw [if_neg (by omega), if_pos (by omega), if_neg (by omega), Nat.pow_succ, show 2 ^ k * 2 - 2 ^ k = 2 ^ k by omega]
  · rw [if_neg (by omega), if_neg (by omega), if_neg (by omega)]
    have : 2 ^ n ≤ 2 ^ k := Nat.pow_le_pow_right (by omega) (by omega)
    rw [Nat.pow_succ, show 2 ^ k * 2 - 2 ^ n = (2 ^ k - 2 ^ n) + 2 ^ k by omega, Nat.mul_add]; omega
theorem bit_le (u n k : Nat) : bit u n k ≤ 1 := by unfold bit; split <;> omega
theorem acc_lt (u n k : Nat) : acc u n k < 2 ^ k := by
  unfold acc
  split
  · exact Nat.mod_lt _ (Nat.pow_pos (by omega))
  · have h1 : u % 2 ^ n < 2 ^ n := Nat.mod_lt _ (Nat.pow_pos (by omega))
    have h2 : 2 ^ n ≤ 2 ^ k := Nat.pow_le_pow_right (by omega) (by omega)
    have h3 : u / 2 ^ (n - 1) % 2 ≤ 1 := by omega
    have h4 : u / 2 ^ (n - 1) % 2 * (2 ^ k - 2 ^ n) ≤ 1 * (2 ^ k - 2 ^ n) := Nat.mul_le_mul_right _ h3
    omega
theorem bit_bound (u n k : Nat) (hk : k < 64) : acc u n k + bit u n k * 2 ^ k ≤ 18446744073709551615 ∧ bit u n k * 2 ^ k ≤ 18446744073709551615 := by
  have h1 := acc_lt u n (k + 1)
  rw [acc_succ] at h1
  have h2 : 2 ^ (k + 1) ≤ 2 ^ 64 := Nat.pow_le_pow_right (by omega) (by omega)
  have h3 : (2 : Nat) ^ 64 = 18446744073709551616 := by decide
  omega

theorem acc_end (a : Int) (u n : Nat) (h1 : 1 ≤ n) (h2 : n ≤ 64) (hu : (u : Int) = a % 18446744073709551616) : wrap64 (acc u n 64) = rnd a n := by
  obtain ⟨H, G, e1, e2, e3, e4, p1, p2, p3⟩ := pow_split n h1 h2
  have hacc : acc u n 64 = u % 2 ^ n + u / 2 ^ (n - 1) % 2 * (2 ^ 64 - 2 ^ n) := by
    unfold acc
    split
    · have : n = 64 := by omega
      subst this; simp
    · rfl
  -- as whole numbers
  obtain ⟨h, hh⟩ : ∃ h : Nat, (2 : Nat) ^ (n - 1) = h := ⟨_, rfl⟩
  have hH : (h : Int) = H := by rw [← e1, ← hh]; push_cast; rfl
  have hn : (2 : Nat) ^ n = 2 * h := by
    have : ((2 ^ n : Nat) : Int) = ((2 * h : Nat) : Int) := by push_cast; rw [e2, hH]
    exact_mod_cast this
  have hle : 2 * h ≤ 18446744073709551616 := by omega
  rw [hacc, hn, hh]
  have m : (18446744073709551616 : Int) = 2 * H * G := by rw [Int.mul_assoc, e4]; rfl
  have hv : ((u % (2 * h) : Nat) : Int) = a % (2 * H) := by
    push_cast
    rw [hH, hu, m, Int.emod_emod_of_dvd _ (Int.dvd_mul_right _ _)]
  have hr : rnd a n = (a % (2 * H) + H) % (2 * H) - H := by
    unfold rnd; rw [e1, e2, Int.emod_add_emod]
  have ht : u % (2 * h) = u % h + h * (u / h % 2) := by rw [Nat.mul_comm 2 h, Nat.mod_mul]
  have hl : u % h < h := Nat.mod_lt _ (by omega)
  rw [hr, ← hv, ← hH]
  have ht2 : u / h % 2 = 0 ∨ u / h % 2 = 1 := by omega
  generalize u % (2 * h) = v at *
  generalize u % h = l at *
  rcases ht2 with t | t <;> rw [t] at ht ⊢
  · have : ((v : Int) + h) % (2 * h) = v + h := Int.emod_eq_of_lt (by omega) (by omega)
    rw [this]
    unfold wrap64; push_cast; omega
  · have : ((v : Int) + h) % (2 * h) = v + h - 2 * h := by
      rw [show ((v : Int) + h) = (v + h - 2 * h) + 2 * h by omega, Int.add_emod_right]
      rw [Int.emod_eq_of_lt (by omega) (by omega)]; omega
    rw [this]
    have e : ((v + 1 * (2 ^ 64 - 2 * h) : Nat) : Int) = (v : Int) + (18446744073709551616 - 2 * h) := by
      have : (2 : Nat) ^ 64 = 18446744073709551616 := by decide
      omega
    rw [e]
    unfold wrap64; omega

end Go.Proofs.Ytknnobijdojjhaa
