/-
  Contracts of the document's Skip and Place. Conditions: texts of at most 1000000 bytes.
-/
import Derived.Test.YtddeiidkmihkkaaRun
namespace Go.Proofs.Ytddeiidkmihkkaa
open Go.RowKit
set_option linter.unusedVariables false

/-- How many bytes stand between tokens. -/
def skipF (note : Bool) : List UInt8 → Nat
  | [] => 0
  | c :: t => if c = 10 then skipF false t + 1 else if note = true ∨ c = 35 then skipF true t + 1 else if c = 32 ∨ c = 9 ∨ c = 13 then skipF false t + 1 else 0

/-- The place behind bytes. -/
def plc (a b : Nat) : List UInt8 → Nat × Nat
  | [] => (a, b)
  | c :: t => if c = 10 then plc (a + 1) 1 t else plc a (b + 1) t

theorem skip_lf (n : Bool) (t : List UInt8) : skipF n (10 :: t) = skipF false t + 1 := by rw [skipF, if_pos rfl]
theorem skip_in {n : Bool} {c : UInt8} (t : List UInt8) (h : c ≠ 10) (h2 : n = true ∨ c = 35) : skipF n (c :: t) = skipF true t + 1 := by rw [skipF, if_neg h, if_pos h2]
theorem skip_blank {c : UInt8} (t : List UInt8) (h : c = 32 ∨ c = 9 ∨ c = 13) : skipF false (c :: t) = skipF false t + 1 := by
  rw [skipF, if_neg (by rcases h with rfl | rfl | rfl <;> decide), if_neg (by rcases h with rfl | rfl | rfl <;> decide), if_pos h]
theorem skip_tok {c : UInt8} (t : List UInt8) (h : ¬ isGap c) : skipF false (c :: t) = 0 := by
  unfold isGap at h
  rw [skipF, if_neg (fun e => h (.inl e)), if_neg (fun e => h (by rcases e with e | e <;> simp_all)), if_neg (fun e => h (by rcases e with e | e | e <;> simp [e]))]

theorem bt {c : UInt8} {n : Nat} (h : c = UInt8.ofNat n) (hn : n < 256) : ((c.toNat : Int) == n) = true := by rw [h, of_nat hn]; simp

set_option maxHeartbeats 1000000 in
theorem skip_any (s : ByteArray) (i : Nat) (hi : i ≤ s.size) (hs : s.size ≤ 1000000) (R : Nat) (hR : Hid (i + skipF false (s.data.toList.drop i) = R)) (w : World) :
    Calls Try.prog 19 #[.string s, .int .i64 i] w fun e w' => e = .returned (.int .i64 (R : Nat)) ∧ w = w' := by
  go_enter Try.func19, Try.ntmps19
  go_wp2
  go_loop [1, 5] (fun i n => ∃ (k : Nat) (note : Bool), k ≤ s.size ∧ i = .int .i64 k ∧ n = .bool note ∧ k + skipF note (s.data.toList.drop k) = R) (fun i _ => s.size - (intOf i).toNat)
  case atStart => exact ⟨i, false, hi, rfl, rfl, hR.out⟩
  case round =>
    clear hR
    obtain ⟨k, note, hk, rfl, rfl, hk2⟩ := hrel
    by_cases hlt : k < s.size
    case neg =>
      rw [drop_end s k (by omega)] at hk2
      have hlt2 : ¬ (k : Int) < s.size := by omega
      replace hk2 := Lib.hid (show k = R from hk2)
      go_wp2
      go_ret
      exact ⟨ret_int (by have := hk2.out; omega), rfl⟩
    rw [drop_cons s k hlt] at hk2
    by_cases h10 : s[k] = 10
    · rw [h10, skip_lf] at hk2
      have e10 : ((s[k].toNat : Int) == 10) = true := by rw [h10]; rfl
      have e35 : ((s[k].toNat : Int) == 35) = false := by rw [h10]; rfl
      have n32 : ((s[k].toNat : Int) != 32) = true := by rw [h10]; rfl
      have n9 : ((s[k].toNat : Int) != 9) = true := by rw [h10]; rfl
      have n13 : ((s[k].toNat : Int) != 13) = true := by rw [h10]; rfl
      have n10 : ((s[k].toNat : Int) != 10) = false := by rw [h10]; rfl
      replace hk2 := Lib.hid hk2
      clear h10
      go_wp2
      go_round
      case rel => exact ⟨k + 1, false, hlt, by go_num, rfl, by have := hk2.out; omega⟩
      case measure => simp [intOf]; omega
    have e10 : ((s[k].toNat : Int) == 10) = false := byte_ne (n := 10) (by decide) h10
    have n10 : ((s[k].toNat : Int) != 10) = true := b_ne (n := 10) (by decide) h10
    by_cases h35 : s[k] = 35
    · rw [skip_in _ h10 (.inr h35)] at hk2
      have e35 : ((s[k].toNat : Int) == 35) = true := by rw [h35]; rfl
      replace hk2 := Lib.hid hk2
      clear h10 h35
      go_wp2
      go_round
      case rel => exact ⟨k + 1, true, hlt, by go_num, rfl, by have := hk2.out; omega⟩
      case measure => simp [intOf]; omega
    have e35 : ((s[k].toNat : Int) == 35) = false := byte_ne (n := 35) (by decide) h35
    cases note with
    | true =>
      rw [skip_in _ h10 (.inl rfl)] at hk2
      replace hk2 := Lib.hid hk2
      clear h10 h35
      go_wp2
      go_round
      case rel => exact ⟨k + 1, true, hlt, by go_num, rfl, by have := hk2.out; omega⟩
      case measure => simp [intOf]; omega
    | false =>
      by_cases h32 : s[k] = 32
      · rw [skip_blank _ (.inl h32)] at hk2
        have n32 : ((s[k].toNat : Int) != 32) = false := by rw [h32]; rfl
        replace hk2 := Lib.hid hk2
        clear h10 h35 h32
        go_wp2
        go_round
        case rel => exact ⟨k + 1, false, hlt, by go_num, rfl, by have := hk2.out; omega⟩
        case measure => simp [intOf]; omega
      have n32 : ((s[k].toNat : Int) != 32) = true := b_ne (n := 32) (by decide) h32
      by_cases h9 : s[k] = 9
      · rw [skip_blank _ (.inr (.inl h9))] at hk2
        have n9 : ((s[k].toNat : Int) != 9) = false := by rw [h9]; rfl
        replace hk2 := Lib.hid hk2
        clear h10 h35 h32 h9
        go_wp2
        go_round
        case rel => exact ⟨k + 1, false, hlt, by go_num, rfl, by have := hk2.out; omega⟩
        case measure => simp [intOf]; omega
      have n9 : ((s[k].toNat : Int) != 9) = true := b_ne (n := 9) (by decide) h9
      by_cases h13 : s[k] = 13
      · rw [skip_blank _ (.inr (.inr h13))] at hk2
        have n13 : ((s[k].toNat : Int) != 13) = false := by rw [h13]; rfl
        replace hk2 := Lib.hid hk2
        clear h10 h35 h32 h9 h13
        go_wp2
        go_round
        case rel => exact ⟨k + 1, false, hlt, by go_num, rfl, by have := hk2.out; omega⟩
        case measure => simp [intOf]; omega
      have n13 : ((s[k].toNat : Int) != 13) = true := b_ne (n := 13) (by decide) h13
      rw [skip_tok _ (by unfold isGap; simp [h10, h32, h9, h13, h35])] at hk2
      replace hk2 := Lib.hid hk2
      clear h10 h35 h32 h9 h13
      go_wp2
      go_ret
      exact ⟨ret_int (by have := hk2.out; omega), rfl⟩

theorem ret_ii {a b : Int} {p : Nat × Nat} {x y : Nat} (h : (x, y) = p) (h1 : a = x) (h2 : b = y) : Ending.returned (.tuple #[.int .i64 a, .int .i64 b]) = .returned (.tuple #[.int .i64 (p.1 : Nat), .int .i64 (p.2 : Nat)]) := by rw [← h, h1, h2]

set_option maxHeartbeats 1000000 in
theorem place_any (s : ByteArray) (n : Nat) (hn : n ≤ s.size) (hs : s.size ≤ 1000000) (R : Nat × Nat) (hR : Hid (plc 1 1 (s.data.toList.take n) = R)) (w : World) :
    Calls Try.prog 20 #[.string s, .int .i64 n] w fun e w' => e = .returned (.tuple #[.int .i64 (R.1 : Nat), .int .i64 (R.2 : Nat)]) ∧ w = w' := by
  go_enter Try.func20, Try.ntmps20
  go_wp2
  go_loop [6, 7, 8] (fun a b i => ∃ (k x y : Nat), k ≤ n ∧ i = .int .i64 k ∧ a = .int .i64 x ∧ b = .int .i64 y ∧ x ≤ k + 1 ∧ y ≤ k + 1 ∧ plc x y ((s.data.toList.take n).drop k) = R) (fun _ _ i => n - (intOf i).toNat)
  case atStart => exact ⟨0, 1, 1, Nat.zero_le _, rfl, rfl, rfl, by omega, by omega, hR.out⟩
  case round =>
    clear hR
    obtain ⟨k, x, y, hk, rfl, rfl, rfl, hx, hy, hR⟩ := hrel
    by_cases hlt : k < n
    case neg =>
      rw [List.drop_of_length_le (by rw [List.length_take, size_list]; omega)] at hR
      have hlt2 : ¬ (k : Int) < n := by omega
      replace hR := Lib.hid (show (x, y) = R from hR)
      go_wp2
      go_ret2
      exact ⟨ret_ii hR.out rfl rfl, rfl⟩
    have hks : k < s.size := by omega
    have hd : (s.data.toList.take n).drop k = s[k] :: (s.data.toList.take n).drop (k + 1) := by
      rw [List.drop_take, List.drop_take, drop_cons s k hks, show n - k = (n - (k + 1)) + 1 by omega, List.take_succ_cons]
    rw [hd, plc] at hR
    have hlt2 : (k : Int) < n := by omega
    by_cases h10 : s[k] = 10
    · rw [if_pos h10] at hR
      have e10 : ((s[k].toNat : Int) == 10) = true := by rw [h10]; rfl
      replace hR := Lib.hid hR
      clear h10 hd
      go_wp2
      go_round
      case rel => exact ⟨k + 1, x + 1, 1, hlt, by go_num, by go_num, rfl, by omega, by omega, hR.out⟩
      case measure => simp [intOf]; omega
    · rw [if_neg h10] at hR
      have e10 : ((s[k].toNat : Int) == 10) = false := byte_ne (n := 10) (by decide) h10
      replace hR := Lib.hid hR
      clear h10 hd
      go_wp2
      go_round
      case rel => exact ⟨k + 1, x, y + 1, hlt, by go_num, rfl, by go_num, by omega, by omega, hR.out⟩
      case measure => simp [intOf]; omega

end Go.Proofs.Ytddeiidkmihkkaa
