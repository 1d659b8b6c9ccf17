/-
  Contract of the document's Many. Conditions: none beyond a row's own.
-/
import Derived.Test.YtogpfbmkbnooeaaNd
namespace Go.Proofs.Ytogpfbmkbnooeaa
open Go.RowKit
set_option linter.unusedVariables false

/-! Many. -/
def manyTo (l : List Nd) : Nat → Nat
  | 0 => 0
  | k + 1 => manyTo l k + (1 + min (nd l k).text.size 5000)

theorem manyTo_le (l : List Nd) (k : Nat) : k ≤ manyTo l k := by
  induction k with
  | zero => exact Nat.zero_le _
  | succ k ih => rw [manyTo]; omega
theorem manyTo_mono (l : List Nd) {i k : Nat} (h : i ≤ k) : manyTo l i ≤ manyTo l k := by
  induction k with
  | zero => obtain rfl : i = 0 := by omega
            exact Nat.le_refl _
  | succ k ih =>
    by_cases e : i = k + 1
    · subst e; exact Nat.le_refl _
    · have := ih (by omega)
      rw [manyTo]; omega

theorem many_false {l : List Nd} (h : ¬ ∃ k, k ≤ l.length ∧ 4000 < manyTo l k) : l.length ≤ 4000 ∧ ∀ i, i < l.length → (nd l i).text.size ≤ 4000 := by
  have hall : manyTo l l.length ≤ 4000 := Nat.le_of_not_lt fun hh => h ⟨_, Nat.le_refl _, hh⟩
  refine ⟨Nat.le_trans (manyTo_le l _) hall, fun i hi => ?_⟩
  have := manyTo_mono l (i := i + 1) (k := l.length) hi
  rw [manyTo] at this
  omega

set_option maxHeartbeats 1000000 in
set_option maxRecDepth 100000 in
theorem many_any (a : Option Addr) (n cap : Nat) (l : List Nd) (w : World) (hn : Hid (l.length = n)) (hl : n ≤ 9223372036854775807) (hr : Hid (Row w a l)) (p : Bool) (hp : Hid ((∃ k, k ≤ n ∧ 4000 < manyTo l k) ↔ p = true)) :
    Calls Try.prog 8 #[.slice a n cap] w fun e w' => e = .returned (.bool p) ∧ w = w' := by
  go_enter Try.func8, Try.ntmps8
  go_wp2_with fail
  go_loop [3, 7] (fun s j => ∃ k : Nat, k ≤ n ∧ j = .int .i64 k ∧ s = .int .i64 (manyTo l k : Nat) ∧ manyTo l k ≤ 4000) (fun _ j => n - (intOf j).toNat)
  case atStart => exact ⟨0, Nat.zero_le _, rfl, rfl, Nat.zero_le _⟩
  case round =>
    obtain ⟨k, hk, rfl, rfl, hm⟩ := hrel
    by_cases hlt : k < n
    · obtain ⟨b, o, rfl, hat, hwf⟩ := hr.out k (by rw [hn.out]; exact hlt)
      have c5 := hat.c5
      have hst : manyTo l (k + 1) = manyTo l k + (1 + min (nd l k).text.size 5000) := rfl
      have htl := hwf.text
      unfold maxLen at htl
      obtain ⟨tx, htx⟩ : ∃ tx, (nd l k).text = tx := ⟨_, rfl⟩
      rw [htx] at c5 hst htl
      obtain ⟨M, hM⟩ : ∃ M, manyTo l k = M := ⟨_, rfl⟩
      obtain ⟨M', hM'⟩ : ∃ M', manyTo l (k + 1) = M' := ⟨_, rfl⟩
      rw [hM] at hm hst ⊢
      rw [hM'] at hst
      by_cases ht : tx.size ≤ 5000
      · have ht' : (tx.size : Int) ≤ 5000 := by omega
        by_cases hg : 4000 < M'
        · have hp' : p = true := hp.out.1 ⟨k + 1, hlt, by rw [hM']; exact hg⟩
          subst hp'
          have g1 : (4000 : Int) < (M : Int) + (1 + (tx.size : Int)) := by omega
          clear hM hM' hst hg
          go_wp2_with fail
          go_ret
          exact ⟨rfl, rfl⟩
        · have g1 : ¬ (4000 : Int) < (M : Int) + (1 + (tx.size : Int)) := by omega
          have HM := Lib.hid hM'
          have hst2 : (M : Int) + (1 + (tx.size : Int)) = (M' : Nat) := by omega
          replace hst2 := Lib.hid hst2
          clear hM hM' hst
          go_wp2_with fail
          go_round
          case rel => exact ⟨k + 1, hlt, by go_num, by rw [HM.out, ← hst2.out]; try rfl, by rw [HM.out]; omega⟩
          case measure => simp [intOf]; omega
      · have ht' : ¬ (tx.size : Int) ≤ 5000 := by omega
        have hg : 4000 < M' := by omega
        have hp' : p = true := hp.out.1 ⟨k + 1, hlt, by rw [hM']; exact hg⟩
        subst hp'
        have g1 : decide ((4000 : Int) < (M : Int) + 5001) = true := by simp; omega
        have g2 : (4000 : Int) < (M : Int) + 5001 := by omega
        clear hM hM' hst hg ht
        go_wp2_with fail
        go_ret
        exact ⟨rfl, rfl⟩
    · have hp' : p = false := by
        cases p with
        | false => rfl
        | true =>
          obtain ⟨j, hj, hj2⟩ := hp.out.2 rfl
          have := manyTo_mono l (i := j) (k := k) (by omega)
          omega
      subst hp'
      clear hm
      go_wp2_with fail
      go_ret
      exact ⟨rfl, rfl⟩

end Go.Proofs.Ytogpfbmkbnooeaa
