/-
  Contract of the document's digits. Conditions: texts of at most 100 bytes.
-/
import Derived.Test.YtknnobijdojjhaaParseD
namespace Go.Proofs.Ytknnobijdojjhaa
open Go.RowKit

/-- Where digits end, from byte k on. -/
def dEnd (s : ByteArray) (k : Nat) : Nat := if h : k < s.size then (if digB s[k] = true then dEnd s (k + 1) else k) else k
termination_by s.size - k

theorem digits_any (s : ByteArray) (i m : Nat) (w : World) (hs : s.size ≤ 100) (hi : i ≤ s.size) (hm : Hid (dEnd s i = m)) :
    Calls Try.prog 38 #[.string s, .int .i64 i] w fun e w' => e = .returned (.int .i64 m) ∧ w = w' := by
  go_enter Try.func38, Try.ntmps38
  go_wp2
  go_loop [1] (fun v => ∃ k : Nat, k ≤ s.size ∧ v = .int .i64 k ∧ dEnd s k = m) (fun v => s.size - (intOf v).toNat)
  case atStart => exact ⟨i, hi, rfl, hm.out⟩
  case round =>
    obtain ⟨k, hk, rfl, hc⟩ := hrel
    rw [dEnd] at hc
    by_cases hlt : k < s.size
    · rw [dif_pos hlt] at hc
      have hlt' : (k : Int) < s.size := by omega
      by_cases hd : digB s[k] = true
      · rw [if_pos hd] at hc
        have HC := Lib.hid hc
        have hd' := hd
        unfold digB at hd'
        rw [Bool.and_eq_true, decide_eq_true_eq, decide_eq_true_eq] at hd'
        have h1 : (48 : Int) ≤ s[k].toNat := by omega
        have h2 : (s[k].toNat : Int) ≤ 57 := by omega
        clear hc hd hd'
        go_wp2
        go_round
        case rel => exact ⟨k + 1, by omega, by go_num, HC.out⟩
        case measure => simp [intOf]; omega
      · rw [if_neg hd] at hc
        obtain rfl : k = m := hc
        unfold digB at hd
        rw [Bool.and_eq_true, decide_eq_true_eq, decide_eq_true_eq] at hd
        by_cases h1 : (48 : Int) ≤ s[k].toNat
        · have h2 : ¬ (s[k].toNat : Int) ≤ 57 := by omega
          clear hd
          go_wp2
          go_ret
          exact ⟨rfl, rfl⟩
        · clear hd
          go_wp2
          go_ret
          exact ⟨rfl, rfl⟩
    · rw [dif_neg hlt] at hc
      obtain rfl : k = m := hc
      have hlt' : ¬ (k : Int) < s.size := by omega
      go_wp2
      go_ret
      exact ⟨rfl, rfl⟩

end Go.Proofs.Ytknnobijdojjhaa
