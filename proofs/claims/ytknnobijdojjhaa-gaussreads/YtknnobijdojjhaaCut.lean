/-
  Contract of gauss.cut. Conditions: texts of at most 100 bytes.
-/
import Derived.Test.YtknnobijdojjhaaParseD
import Derived.Test.YtknnobijdojjhaaCarry
import Derived.BigQuiet
import Derived.Deep.QuietTactic
namespace Go.Proofs.Ytknnobijdojjhaa
open Go.RowKit

abbrev nob : ByteArray := { data := #[] }
/-- What is cut, from byte k on; m: where the letter stands. -/
def cutFrom (s : ByteArray) (m : Nat) (h : m < s.size) (k : Nat) : ByteArray × ByteArray × Bool :=
  if hk : k < m then
    if ((s[k].toNat : Int) == 45) = true then (s.extract 0 k, s.extract k m, true)
    else if ((s[k].toNat : Int) == 43) = true then (s.extract 0 k, s.extract (k + 1) m, (s[k + 1].toNat : Int) != 45)
    else cutFrom s m h (k + 1)
  else (nob, nob, false)
termination_by m - k

theorem ret_tup {a b : ByteArray} {t : Bool} {R : ByteArray × ByteArray × Bool} (h : (a, b, t) = R) : Ending.returned (.tuple #[.string a, .string b, .bool t]) = .returned (.tuple #[.string R.1, .string R.2.1, .bool R.2.2]) := by
  rw [← h]

theorem below_drewN (w : World) (n : Nat) : Below w.heap.size w (w.drewN n) := ⟨rfl, rfl, rfl, Nat.le_refl _, fun _ _ => rfl⟩

set_option maxHeartbeats 400000 in
theorem cut_empty (w : World) : Calls Try.prog 35 #[.string nob] w fun e w' => e = .returned (.tuple #[.string nob, .string nob, .bool false]) ∧ w = w' := by
  go_enter Try.func35, Try.ntmps35
  go_wp2
  go_ret3
  exact ⟨rfl, rfl⟩

set_option maxHeartbeats 400000 in
theorem cut_bad (s : ByteArray) (m : Nat) (w : World) (hs : s.size ≤ 100) (hm : m < s.size) (hm2 : (s.size : Int) - 1 = m) (hi : ((s[m].toNat : Int) != 105) = true) :
    Calls Try.prog 35 #[.string s] w fun e w' => e = .returned (.tuple #[.string nob, .string nob, .bool false]) ∧ w = w' := by
  go_enter Try.func35, Try.ntmps35
  go_wp2
  go_ret3
  exact ⟨rfl, rfl⟩

set_option maxHeartbeats 1000000 in
theorem cut_good (s : ByteArray) (m : Nat) (w : World) (R : ByteArray × ByteArray × Bool) (hs : s.size ≤ 100) (hm : m < s.size) (hm2 : (s.size : Int) - 1 = m) (hi : ((s[m].toNat : Int) != 105) = false) (hR : Hid (cutFrom s m hm 1 = R)) :
    Calls Try.prog 35 #[.string s] w fun e w' => e = .returned (.tuple #[.string R.1, .string R.2.1, .bool R.2.2]) ∧ Below w.heap.size w w' := by
  have hm0 : decide ((m : Int) < 0) = false := by simp
  have hm0' : ¬ (m : Int) < 0 := by omega
  go_enter Try.func35, Try.ntmps35
  go_wp2
  go_loop [6] (fun i => ∃ k : Nat, 1 ≤ k ∧ k ≤ m + 1 ∧ i = .int .i64 k ∧ cutFrom s m hm k = R) (fun i => m + 1 - (intOf i).toNat)
  case atStart => exact ⟨1, by omega, by omega, rfl, hR.out⟩
  case round =>
    obtain ⟨k, hk1, hk2, rfl, hc⟩ := hrel
    rw [cutFrom] at hc
    by_cases hlt : k < m
    · rw [dif_pos hlt] at hc
      have hlt' : (k : Int) < m := by omega
      have hks : k < s.size := by omega
      have hks1 : k + 1 < s.size := by omega
      by_cases h1 : ((s[k].toNat : Int) == 45) = true
      · rw [if_pos h1] at hc
        have HC := Lib.hid hc
        clear hc
        go_wp2_with fail
        go_quiet (fail)
        go_wp2
        go_ret3
        exact ⟨ret_tup HC.out, below_drewN _ _⟩
      · rw [if_neg h1] at hc
        have h1' : ((s[k].toNat : Int) == 45) = false := by simpa using h1
        by_cases h2 : ((s[k].toNat : Int) == 43) = true
        · rw [if_pos h2] at hc
          obtain ⟨j, hj⟩ : ∃ j, k + 1 = j := ⟨_, rfl⟩
          have hjw : IntKind.i64.wrap ((k : Int) + 1) = (j : Int) := by rw [IntKind.wrap_i64]; omega
          have hjs : j < s.size := by omega
          have hjm : j ≤ m := by omega
          have hjm' : (j : Int) ≤ m := by omega
          have hjs' : (j : Int) < s.size := by omega
          have HC := Lib.hid (show (s.extract 0 k, s.extract j m, (s[j].toNat : Int) != 45) = R by subst hj; exact hc)
          clear hc hj
          go_wp2_with fail
          go_quiet (fail)
          go_wp2
          go_ret3
          exact ⟨ret_tup HC.out, below_drewN _ _⟩
        · rw [if_neg h2] at hc
          have h2' : ((s[k].toNat : Int) == 43) = false := by simpa using h2
          have HC := Lib.hid hc
          clear hc
          go_wp2
          go_round
          case rel => exact ⟨k + 1, by omega, by omega, by go_num, HC.out⟩
          case measure => simp [intOf]; omega
    · rw [dif_neg hlt] at hc
      have hlt' : ¬ (k : Int) < m := by omega
      have HC := Lib.hid hc
      clear hc
      go_wp2
      go_ret3
      exact ⟨ret_tup HC.out, Below.refl _ _⟩

end Go.Proofs.Ytknnobijdojjhaa
