/-
  Contracts of num.Round and of the document's Round, and the walk of the law NumRounds. Conditions: where it is said, from 1 to 64 bits.
-/
import Derived.Test.YtknnobijdojjhaaMinus
import Derived.Test.YtknnobijdojjhaaRnd
import Derived.Handy
namespace Go.Proofs.Ytknnobijdojjhaa
open Go.RowKit

theorem ret_two {k : IntKind} {a b : Int} {c : Bool} (h : a = b) : Ending.returned (.tuple #[.int k a, .bool c]) = .returned (.tuple #[.int k b, .bool c]) := by rw [h]
theorem ret_one {k : IntKind} {a b : Int} (h : a = b) : Ending.returned (.int k a) = .returned (.int k b) := by rw [h]

set_option maxHeartbeats 400000 in
theorem round_in (a : Int) (n : Nat) (w : World) (h1 : 1 ≤ n) (h2 : n ≤ 64) :
    Calls Try.prog 40 #[.int .i64 a, .int .i64 n] w fun e w' => e = .returned (.tuple #[.int .i64 (rnd a n), .bool true]) ∧ w = w' := by
  have h1' : (1 : Int) ≤ n := by omega
  have h2' : (n : Int) ≤ 64 := by omega
  go_enter Try.func40, Try.ntmps40
  go_wp2
  go_ret2
  exact ⟨ret_two (shl_shr a n h1 h2), rfl⟩

set_option maxHeartbeats 400000 in
theorem round_out (a b : Int) (w : World) (h : b < 1 ∨ 64 < b) :
    Calls Try.prog 40 #[.int .i64 a, .int .i64 b] w fun e w' => e = .returned (.tuple #[.int .i64 0, .bool false]) ∧ w = w' := by
  rcases h with h | h
  · go_enter Try.func40, Try.ntmps40
    go_wp2
    go_ret2
    exact ⟨rfl, rfl⟩
  · have h' : ¬ b < 1 := by omega
    go_enter Try.func40, Try.ntmps40
    go_wp2
    go_ret2
    exact ⟨rfl, rfl⟩

set_option maxHeartbeats 400000 in
theorem rround_in (a : Int) (n : Nat) (w : World) (h1 : 1 ≤ n) (h2 : n ≤ 64) :
    Calls Try.prog 29 #[.int .i64 a, .int .i64 n] w fun e w' => e = .returned (.int .i64 (rnd a n)) ∧ w = w' := by
  have h1' : (1 : Int) ≤ n := by omega
  have h2' : (n : Int) ≤ 64 := by omega
  obtain ⟨u, hu0⟩ : ∃ u : Nat, (u : Int) = a % 18446744073709551616 := ⟨(a % 18446744073709551616).toNat, by omega⟩
  have hu : IntKind.u64.wrap a = u := by rw [IntKind.wrap_u64]; omega
  have HE := Lib.hid (acc_end a u n h1 h2 hu0)
  clear hu0
  have ht0 : ((u : Int) / 2 ^ (n - 1)).tmod 2 = (bit u n n : Nat) := by
    unfold bit; rw [if_neg (by omega)]
    push_cast; rw [Int.tmod_eq_emod_of_nonneg]
    exact Int.ediv_nonneg (by omega) (Int.le_of_lt (Int.pow_pos (by decide)))
  obtain ⟨t, hte⟩ : ∃ t, bit u n n = t := ⟨_, rfl⟩
  have ht : ((u : Int) / 2 ^ (n - 1)).tmod 2 = (t : Int) := by rw [ht0, hte]
  have HT := Lib.hid hte
  clear ht0 hte
  go_enter Try.func29, Try.ntmps29
  go_wp2
  go_loop [7, 8] (fun o i => ∃ k : Nat, k ≤ 64 ∧ i = .int .i64 k ∧ o = .int .u64 (acc u n k : Nat)) (fun _ i => 64 - (intOf i).toNat)
  case atStart => exact ⟨0, by omega, rfl, by rw [acc_zero]; rfl⟩
  case round =>
    obtain ⟨k, hk, rfl, rfl⟩ := hrel
    by_cases hlt : k < 64
    · have hbb := bit_bound u n k hlt
      have HS := Lib.hid (acc_succ u n k)
      obtain ⟨c, hc⟩ : ∃ c, acc u n k = c := ⟨_, rfl⟩
      obtain ⟨b, hb⟩ : ∃ b, bit u n k = b := ⟨_, rfl⟩
      obtain ⟨s, hs⟩ : ∃ s, b * 2 ^ k = s := ⟨_, rfl⟩
      have hsw : IntKind.u64.wrap ((b : Int) * 2 ^ k) = s := by
        rw [hb, hs] at hbb
        have e : (b : Int) * 2 ^ k = (s : Int) := by rw [← hs]; push_cast; rfl
        rw [e]
        exact IntWalk.u64_in _ (by omega)
      rw [hb, hs, hc] at hbb
      rw [hc]
      obtain ⟨b1, b2⟩ := hbb
      have HS2 : Hid (acc u n (k + 1) = c + s) := by have := HS.out; rw [hb, hs, hc] at this; exact this
      clear HS
      by_cases hn : k < n
      · have hbit : ((u : Int) / 2 ^ k).tmod 2 = (b : Int) := by
          rw [← hb]; unfold bit; rw [if_pos hn]; push_cast; rw [Int.tmod_eq_emod_of_nonneg]
          exact Int.ediv_nonneg (by omega) (Int.le_of_lt (Int.pow_pos (by decide)))
        clear hb hc hs
        go_wp2
        go_round
        case rel => exact ⟨k + 1, by omega, by go_num, by rw [HS2.out]; go_num⟩
        case measure => simp [intOf]; omega
      · have hbt : b = t := by rw [← hb, ← HT.out]; unfold bit; rw [if_neg hn, if_neg (by omega)]
        subst hbt
        clear hb hc hs
        go_wp2
        go_round
        case rel => exact ⟨k + 1, by omega, by go_num, by rw [HS2.out]; go_num⟩
        case measure => simp [intOf]; omega
    · obtain rfl : k = 64 := by omega
      go_wp2
      go_ret
      exact ⟨ret_one HE.out, rfl⟩

end Go.Proofs.Ytknnobijdojjhaa
