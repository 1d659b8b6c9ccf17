/-
 Contracts of the document's small functions (packages hindcastref03 and hindcastref04): what a byte is, its value as a digit, words, what stands between tokens, places. Conditions: as said.
-/
import Derived.Test.YtbknflaooemigaaGreatLxa
namespace Go.Proofs.YtbknflaooemigaaGreat
open Go.RowKit Go.Sort
set_option linter.unusedVariables false
set_option linter.unusedSimpArgs false

theorem val0 (n : Nat) (w : World) (k1 : (48 : Int) ≤ n) (k2 : (n : Int) ≤ 57) : Calls Tryz.prog 56 #[.int .u8 n] w fun e w' => e = .returned (.int .i64 ((n : Int) - 48)) ∧ w = w' := by
 go_enter Tryz.func56, Tryz.ntmps56
 go_wp2
 go_ret
 exact ⟨ret_int (by omega), rfl⟩

theorem val1 (n : Nat) (w : World) (k1 : (97 : Int) ≤ n) (k2 : (n : Int) ≤ 102) : Calls Tryz.prog 56 #[.int .u8 n] w fun e w' => e = .returned (.int .i64 ((n : Int) - 87)) ∧ w = w' := by
 go_enter Tryz.func56, Tryz.ntmps56
 go_wp2
 go_ret
 exact ⟨ret_int (by omega), rfl⟩

theorem val2 (n : Nat) (w : World) (k1 : (65 : Int) ≤ n) (k2 : (n : Int) ≤ 70) : Calls Tryz.prog 56 #[.int .u8 n] w fun e w' => e = .returned (.int .i64 ((n : Int) - 55)) ∧ w = w' := by
 go_enter Tryz.func56, Tryz.ntmps56
 go_wp2
 go_ret
 exact ⟨ret_int (by omega), rfl⟩

set_option maxHeartbeats 400000 in
theorem val3 (n : Nat) (w : World) (hn : (n : Int) < 256) (h1 : ¬ (48 ≤ n ∧ n ≤ 57)) (h2 : ¬ (97 ≤ n ∧ n ≤ 102)) (h3 : ¬ (65 ≤ n ∧ n ≤ 70)) :
  Calls Tryz.prog 56 #[.int .u8 n] w fun e w' => e = .returned (.int .i64 (-1)) ∧ w = w' := by
 rcases (show (n : Int) < 48 ∨ ((57 : Int) < n ∧ (n : Int) < 65) ∨ ((70 : Int) < n ∧ (n : Int) < 97) ∨ (102 : Int) < n by omega) with h | ⟨h, h'⟩ | ⟨h, h'⟩ | h <;> clear h1 h2 h3 hn <;>
 ·go_enter Tryz.func56, Tryz.ntmps56
  go_wp2
  go_ret
  exact ⟨rfl, rfl⟩

theorem value_any (c : UInt8) (w : World) : Calls Tryz.prog 56 #[byt c] w fun e w' => e = .returned (.int .i64 (vlo c)) ∧ w = w' := by
 have hc : (c.toNat : Int) < 256 := by have := c.toNat_lt; omega
 rcases dg_cases c with ⟨h1, h2, h⟩ | ⟨h1, h2, h⟩ | ⟨h1, h2, h⟩ | ⟨h1, h2, h3, h⟩
 ·refine (val0 _ w (by omega) (by omega)).mono fun e w' he => ⟨he.1.trans (ret_int ?_), he.2⟩
  rw [vlo, h]; simp only; omega
 ·refine (val1 _ w (by omega) (by omega)).mono fun e w' he => ⟨he.1.trans (ret_int ?_), he.2⟩
  rw [vlo, h]; simp only; omega
 ·refine (val2 _ w (by omega) (by omega)).mono fun e w' he => ⟨he.1.trans (ret_int ?_), he.2⟩
  rw [vlo, h]; simp only; omega
 ·exact (val3 _ w hc h1 h2 h3).mono fun e w' he => ⟨he.1.trans (ret_int (by rw [vlo, h])), he.2⟩

theorem rkind_any (c : UInt8) (w : World) : Calls Tryz.prog 38 #[byt c] w fun e w' => e = .returned (.int .i64 (kdN c : Nat)) ∧ w = w' := by
 by_cases h95 : c = 95
 ·subst h95
  go_enter Tryz.func38, Tryz.ntmps38
  go_wp2
  go_ret
  exact ⟨rfl, rfl⟩
 have e95 : ((c.toNat : Int) == 95) = false := byte_ne (n := 95) (by decide) h95
 have hn : (c.toNat : Int) ≤ 255 := by have := c.toNat_lt; omega
 rcases (show (122 : Int) < c.toNat ∨ ((97 : Int) ≤ c.toNat ∧ (c.toNat : Int) ≤ 122) ∨ ((90 : Int) < c.toNat ∧ (c.toNat : Int) < 97) ∨ ((65 : Int) ≤ c.toNat ∧ (c.toNat : Int) ≤ 90) ∨
   ((57 : Int) < c.toNat ∧ (c.toNat : Int) < 65) ∨ ((48 : Int) ≤ c.toNat ∧ (c.toNat : Int) ≤ 57) ∨ (c.toNat : Int) < 48 by omega) with h | ⟨h, h'⟩ | ⟨h, h'⟩ | ⟨h, h'⟩ | ⟨h, h'⟩ | ⟨h, h'⟩ | h
 ·have H := Lib.hid (show kdN c = 0 by
   have a : sml c = false := by simp [sml, h95]; omega
   have b : grt c = false := by simp [grt]; omega
   have d : dgt c = false := by simp [dgt]; omega
   rw [kdN, a, b, d]; rfl)
  clear h95 hn
  go_enter Tryz.func38, Tryz.ntmps38
  go_wp2
  go_ret
  exact ⟨ret_kd H.out rfl, rfl⟩
 ·have H := Lib.hid (show kdN c = 1 by
   have a : sml c = true := by simp [sml, h95]; omega
   have b : grt c = false := by simp [grt]; omega
   have d : dgt c = false := by simp [dgt]; omega
   rw [kdN, a]; rfl)
  clear h95 hn
  go_enter Tryz.func38, Tryz.ntmps38
  go_wp2
  go_ret
  exact ⟨ret_kd H.out rfl, rfl⟩
 ·have H := Lib.hid (show kdN c = 0 by
   have a : sml c = false := by simp [sml, h95]; omega
   have b : grt c = false := by simp [grt]; omega
   have d : dgt c = false := by simp [dgt]; omega
   rw [kdN, a, b, d]; rfl)
  clear h95 hn
  go_enter Tryz.func38, Tryz.ntmps38
  go_wp2
  go_ret
  exact ⟨ret_kd H.out rfl, rfl⟩
 ·have H := Lib.hid (show kdN c = 2 by
   have a : sml c = false := by simp [sml, h95]; omega
   have b : grt c = true := by simp [grt]; omega
   have d : dgt c = false := by simp [dgt]; omega
   rw [kdN, a, b]; rfl)
  clear h95 hn
  go_enter Tryz.func38, Tryz.ntmps38
  go_wp2
  go_ret
  exact ⟨ret_kd H.out rfl, rfl⟩
 ·have H := Lib.hid (show kdN c = 0 by
   have a : sml c = false := by simp [sml, h95]; omega
   have b : grt c = false := by simp [grt]; omega
   have d : dgt c = false := by simp [dgt]; omega
   rw [kdN, a, b, d]; rfl)
  clear h95 hn
  go_enter Tryz.func38, Tryz.ntmps38
  go_wp2
  go_ret
  exact ⟨ret_kd H.out rfl, rfl⟩
 ·have H := Lib.hid (show kdN c = 3 by
   have a : sml c = false := by simp [sml, h95]; omega
   have b : grt c = false := by simp [grt]; omega
   have d : dgt c = true := by simp [dgt]; omega
   rw [kdN, a, b, d]; rfl)
  clear h95 hn
  go_enter Tryz.func38, Tryz.ntmps38
  go_wp2
  go_ret
  exact ⟨ret_kd H.out rfl, rfl⟩
 ·have H := Lib.hid (show kdN c = 0 by
   have a : sml c = false := by simp [sml, h95]; omega
   have b : grt c = false := by simp [grt]; omega
   have d : dgt c = false := by simp [dgt]; omega
   rw [kdN, a, b, d]; rfl)
  clear h95 hn
  go_enter Tryz.func38, Tryz.ntmps38
  go_wp2
  go_ret
  exact ⟨ret_kd H.out rfl, rfl⟩

set_option maxHeartbeats 400000 in
theorem inner_any (s : ByteArray) (i : Nat) (hi : i ≤ s.size) (hs : s.size ≤ 1000000) (R : Nat) (hR : Hid (i + runL nam (s.data.toList.drop i) = R)) (w : World) :
  Calls Tryz.prog 39 #[.string s, .int .i64 i] w fun e w' => e = .returned (.int .i64 (R : Nat)) ∧ w = w' := by
 go_enter Tryz.func39, Tryz.ntmps39
 go_wp2
 go_loop [1] (fun i => ∃ k : Nat, k ≤ s.size ∧ i = .int .i64 k ∧ k + runL nam (s.data.toList.drop k) = R) (fun i => s.size - (intOf i).toNat)
 case atStart => exact ⟨i, hi, rfl, hR.out⟩
 case round =>
  clear hR
  obtain ⟨k, hk, rfl, hk2⟩ := hrel
  by_cases hlt : k < s.size
  ·rw [drop_cons s k hlt] at hk2
   have HP := Lib.hid (fun w => rkind_any s[k] w)
   obtain ⟨n, hn⟩ : ∃ n, kdN s[k] = n := ⟨_, rfl⟩
   rw [hn] at HP
   have hpos := kd_pos s[k]
   rw [hn] at hpos
   cases hp : nam s[k] with
   | true =>
    have h0 : 0 < n := hpos.2 hp
    have h0' : (0 : Int) < n := by omega
    rw [runL_cons hp] at hk2
    replace hk2 := Lib.hid hk2
    clear hp hpos hn
    go_wp2_with fail
    refine (HP.out _).mono ?_
    rintro e w' ⟨rfl, rfl⟩
    go_wp2
    go_round
    case rel => exact ⟨k + 1, hlt, by go_num, by have := hk2.out; omega⟩
    case measure => simp [intOf]; omega
   | false =>
    obtain rfl : n = 0 := by
     have : ¬ 0 < n := fun h => by have := hpos.1 h; rw [hp] at this; cases this
     omega
    rw [runL_none hp] at hk2
    replace hk2 := Lib.hid hk2
    clear hp hpos hn
    go_wp2_with fail
    refine (HP.out _).mono ?_
    rintro e w' ⟨rfl, rfl⟩
    go_wp2
    go_ret
    exact ⟨ret_int (by have := hk2.out; omega), rfl⟩
  ·rw [drop_end s k (by omega)] at hk2
   have hlt2 : ¬ (k : Int) < s.size := by omega
   replace hk2 := Lib.hid (show k = R from hk2)
   go_wp2
   go_ret
   exact ⟨ret_int (by have := hk2.out; omega), rfl⟩

set_option maxHeartbeats 400000 in
theorem rword_core (s : ByteArray) (w : World) (b : Bool) (hb : Hid (isWord s.data.toList = b)) : Calls Tryz.prog 40 #[.string s] w fun e w' => e = .returned (.bool b) ∧ Below w.heap.size w w' := by
 have hb0 := Lib.hid (below_alloc w (Obj.cells #[Value.string { data := #[114, 101, 99] }, Value.string { data := #[102, 110] }, Value.string { data := #[118, 97, 114] }, Value.string { data := #[105, 102] }, Value.string { data := #[101, 108, 115, 101] }, Value.string { data := #[119, 104, 105, 108, 101] }, Value.string { data := #[114, 101, 116, 117, 114, 110] }, Value.string { data := #[112, 114, 105, 110, 116] }, Value.string { data := #[116, 114, 117, 101] }, Value.string { data := #[102, 97, 108, 115, 101] }, Value.string { data := #[110, 105, 108] }, Value.string { data := #[109, 97, 107, 101] }, Value.string { data := #[105, 110, 116] }, Value.string { data := #[98, 111, 111, 108] }, Value.string { data := #[115, 116, 114] }, Value.string { data := #[99, 111, 109, 112] }] 9))
 have hc0 := Lib.hid (wcells w)
 go_enter Tryz.func40, Tryz.ntmps40
 go_wp2
 obtain ⟨W, hW⟩ : ∃ W, W = w.alloc (Obj.cells #[Value.string { data := #[114, 101, 99] }, Value.string { data := #[102, 110] }, Value.string { data := #[118, 97, 114] }, Value.string { data := #[105, 102] }, Value.string { data := #[101, 108, 115, 101] }, Value.string { data := #[119, 104, 105, 108, 101] }, Value.string { data := #[114, 101, 116, 117, 114, 110] }, Value.string { data := #[112, 114, 105, 110, 116] }, Value.string { data := #[116, 114, 117, 101] }, Value.string { data := #[102, 97, 108, 115, 101] }, Value.string { data := #[110, 105, 108] }, Value.string { data := #[109, 97, 107, 101] }, Value.string { data := #[105, 110, 116] }, Value.string { data := #[98, 111, 111, 108] }, Value.string { data := #[115, 116, 114] }, Value.string { data := #[99, 111, 109, 112] }] 9) := ⟨_, rfl⟩
 rw [← hW]
 rw [← hW] at hb0 hc0
 clear hW
 go_loop [8] (fun i => ∃ k : Nat, k ≤ 16 ∧ i = .int .i64 k ∧ ∀ j, j < k → words[j]? ≠ some s.data.toList) (fun i => 16 - (intOf i).toNat)
 case atStart => exact ⟨0, Nat.zero_le _, rfl, by simp⟩
 case round =>
  obtain ⟨k, hk, rfl, hno⟩ := hrel
  by_cases hlt : k < 16
  ·have hcell := hc0.out k hlt
   by_cases heq : s.data.toList = words[k]'hlt
   ·have hb2 : b = true := by
     rw [← hb.out, isWord, decide_eq_true_eq, heq]; exact List.getElem_mem _
    subst hb2
    have e1 : ((bs (words[k]'hlt)).toList == s.toList) = true := by rw [ByteArray.toList_eq, ByteArray.toList_eq, bs_list, heq]; simp
    generalize bs (words[k]'hlt) = x at hcell e1
    clear hno heq
    go_wp2
    go_ret
    exact ⟨rfl, hb0.out⟩
   ·have e1 : ((bs (words[k]'hlt)).toList == s.toList) = false := by rw [ByteArray.toList_eq, ByteArray.toList_eq, bs_list]; simpa using fun e => heq e.symm
    have hno2 := Lib.hid (show ∀ j, j < k + 1 → words[j]? ≠ some s.data.toList from fun j hj => by
     by_cases hjk : j = k
     ·subst hjk; rw [List.getElem?_eq_getElem hlt]; simpa using fun e => heq e.symm
     ·exact hno j (by omega))
    generalize bs (words[k]'hlt) = x at hcell e1
    clear hno heq
    go_wp2
    go_round
    case rel => exact ⟨k + 1, hlt, by go_num, hno2.out⟩
    case measure => simp [intOf]; omega
  ·have hk16 : k = 16 := by omega
   have hb2 : b = false := by
    rw [← hb.out, isWord, decide_eq_false_iff_not]
    intro hm
    obtain ⟨j, hj, he⟩ := List.getElem_of_mem hm
    have hj16 : j < 16 := hj
    exact hno j (by omega) (by rw [List.getElem?_eq_getElem hj, he])
   subst hb2
   clear hno
   go_wp2
   go_ret
   exact ⟨rfl, hb0.out⟩

theorem rword_at (s : ByteArray) (b : Bool) (h : isWord s.data.toList = b) (w : World) : Calls Tryz.prog 40 #[.string s] w fun e w' => e = .returned (.bool b) ∧ Below w.heap.size w w' := rword_core s w b (Lib.hid h)

set_option maxHeartbeats 1000000 in
theorem skip_any (s : ByteArray) (i : Nat) (hi : i ≤ s.size) (hs : s.size ≤ 1000000) (R : Nat) (hR : Hid (i + skipF false (s.data.toList.drop i) = R)) (w : World) :
  Calls Tryz.prog 18 #[.string s, .int .i64 i] w fun e w' => e = .returned (.int .i64 (R : Nat)) ∧ w = w' := by
 go_enter Tryz.func18, Tryz.ntmps18
 go_wp2
 go_loop [1, 5] (fun i n => ∃ (k : Nat) (note : Bool), k ≤ s.size ∧ i = .int .i64 k ∧ n = .bool note ∧ k + skipF note (s.data.toList.drop k) = R) (fun i _ => s.size - (intOf i).toNat)
 case atStart => exact ⟨i, false, hi, rfl, rfl, hR.out⟩
 case round =>
  clear hR
  obtain ⟨k, note, hk, rfl, rfl, hk2⟩ := hrel
  by_cases hlt : k < s.size
  case neg =>
   rw [drop_end s k (by omega)] at hk2
   have hlt2 : ¬ (k : Int) < s.size := by omega
   replace hk2 := Lib.hid (show k = R from hk2)
   go_wp2
   go_ret
   exact ⟨ret_int (by have := hk2.out; omega), rfl⟩
  rw [drop_cons s k hlt] at hk2
  by_cases h10 : s[k] = 10
  ·rw [h10, skip_lf] at hk2
   have e10 : ((s[k].toNat : Int) == 10) = true := by rw [h10]; rfl
   have e35 : ((s[k].toNat : Int) == 35) = false := by rw [h10]; rfl
   have n32 : ((s[k].toNat : Int) != 32) = true := by rw [h10]; rfl
   have n9 : ((s[k].toNat : Int) != 9) = true := by rw [h10]; rfl
   have n13 : ((s[k].toNat : Int) != 13) = true := by rw [h10]; rfl
   have n10 : ((s[k].toNat : Int) != 10) = false := by rw [h10]; rfl
   replace hk2 := Lib.hid hk2
   clear h10
   go_wp2
   go_round
   case rel => exact ⟨k + 1, false, hlt, by go_num, rfl, by have := hk2.out; omega⟩
   case measure => simp [intOf]; omega
  have e10 : ((s[k].toNat : Int) == 10) = false := byte_ne (n := 10) (by decide) h10
  have n10 : ((s[k].toNat : Int) != 10) = true := b_ne (n := 10) (by decide) h10
  by_cases h35 : s[k] = 35
  ·rw [skip_in _ h10 (.inr h35)] at hk2
   have e35 : ((s[k].toNat : Int) == 35) = true := by rw [h35]; rfl
   replace hk2 := Lib.hid hk2
   clear h10 h35
   go_wp2
   go_round
   case rel => exact ⟨k + 1, true, hlt, by go_num, rfl, by have := hk2.out; omega⟩
   case measure => simp [intOf]; omega
  have e35 : ((s[k].toNat : Int) == 35) = false := byte_ne (n := 35) (by decide) h35
  cases note with
  | true =>
   rw [skip_in _ h10 (.inl rfl)] at hk2
   replace hk2 := Lib.hid hk2
   clear h10 h35
   go_wp2
   go_round
   case rel => exact ⟨k + 1, true, hlt, by go_num, rfl, by have := hk2.out; omega⟩
   case measure => simp [intOf]; omega
  | false =>
   by_cases h32 : s[k] = 32
   ·rw [skip_blank _ (.inl h32)] at hk2
    have n32 : ((s[k].toNat : Int) != 32) = false := by rw [h32]; rfl
    replace hk2 := Lib.hid hk2
    clear h10 h35 h32
    go_wp2
    go_round
    case rel => exact ⟨k + 1, false, hlt, by go_num, rfl, by have := hk2.out; omega⟩
    case measure => simp [intOf]; omega
   have n32 : ((s[k].toNat : Int) != 32) = true := b_ne (n := 32) (by decide) h32
   by_cases h9 : s[k] = 9
   ·rw [skip_blank _ (.inr (.inl h9))] at hk2
    have n9 : ((s[k].toNat : Int) != 9) = false := by rw [h9]; rfl
    replace hk2 := Lib.hid hk2
    clear h10 h35 h32 h9
    go_wp2
    go_round
    case rel => exact ⟨k + 1, false, hlt, by go_num, rfl, by have := hk2.out; omega⟩
    case measure => simp [intOf]; omega
   have n9 : ((s[k].toNat : Int) != 9) = true := b_ne (n := 9) (by decide) h9
   by_cases h13 : s[k] = 13
   ·rw [skip_blank _ (.inr (.inr h13))] at hk2
    have n13 : ((s[k].toNat : Int) != 13) = false := by rw [h13]; rfl
    replace hk2 := Lib.hid hk2
    clear h10 h35 h32 h9 h13
    go_wp2
    go_round
    case rel => exact ⟨k + 1, false, hlt, by go_num, rfl, by have := hk2.out; omega⟩
    case measure => simp [intOf]; omega
   have n13 : ((s[k].toNat : Int) != 13) = true := b_ne (n := 13) (by decide) h13
   rw [skip_tok _ (by unfold isGap; simp [h10, h32, h9, h13, h35])] at hk2
   replace hk2 := Lib.hid hk2
   clear h10 h35 h32 h9 h13
   go_wp2
   go_ret
   exact ⟨ret_int (by have := hk2.out; omega), rfl⟩

set_option maxHeartbeats 1000000 in
theorem place_any (s : ByteArray) (n : Nat) (hn : n ≤ s.size) (hs : s.size ≤ 1000000) (R : Nat × Nat) (hR : Hid (plc 1 1 (s.data.toList.take n) = R)) (w : World) :
  Calls Tryz.prog 19 #[.string s, .int .i64 n] w fun e w' => e = .returned (.tuple #[.int .i64 (R.1 : Nat), .int .i64 (R.2 : Nat)]) ∧ w = w' := by
 go_enter Tryz.func19, Tryz.ntmps19
 go_wp2
 go_loop [6, 7, 8] (fun a b i => ∃ (k x y : Nat), k ≤ n ∧ i = .int .i64 k ∧ a = .int .i64 x ∧ b = .int .i64 y ∧ x ≤ k + 1 ∧ y ≤ k + 1 ∧ plc x y ((s.data.toList.take n).drop k) = R) (fun _ _ i => n - (intOf i).toNat)
 case atStart => exact ⟨0, 1, 1, Nat.zero_le _, rfl, rfl, rfl, by omega, by omega, hR.out⟩
 case round =>
  clear hR
  obtain ⟨k, x, y, hk, rfl, rfl, rfl, hx, hy, hR⟩ := hrel
  by_cases hlt : k < n
  case neg =>
   rw [List.drop_of_length_le (by rw [List.length_take, size_list]; omega)] at hR
   have hlt2 : ¬ (k : Int) < n := by omega
   replace hR := Lib.hid (show (x, y) = R from hR)
   go_wp2
   go_ret2
   exact ⟨ret_ii hR.out rfl rfl, rfl⟩
  have hks : k < s.size := by omega
  have hd : (s.data.toList.take n).drop k = s[k] :: (s.data.toList.take n).drop (k + 1) := by
   rw [List.drop_take, List.drop_take, drop_cons s k hks, show n - k = (n - (k + 1)) + 1 by omega, List.take_succ_cons]
  rw [hd, plc] at hR
  have hlt2 : (k : Int) < n := by omega
  by_cases h10 : s[k] = 10
  ·rw [if_pos h10] at hR
   have e10 : ((s[k].toNat : Int) == 10) = true := by rw [h10]; rfl
   replace hR := Lib.hid hR
   clear h10 hd
   go_wp2
   go_round
   case rel => exact ⟨k + 1, x + 1, 1, hlt, by go_num, by go_num, rfl, by omega, by omega, hR.out⟩
   case measure => simp [intOf]; omega
  ·rw [if_neg h10] at hR
   have e10 : ((s[k].toNat : Int) == 10) = false := byte_ne (n := 10) (by decide) h10
   replace hR := Lib.hid hR
   clear h10 hd
   go_wp2
   go_round
   case rel => exact ⟨k + 1, x, y + 1, hlt, by go_num, rfl, by go_num, by omega, by omega, hR.out⟩
   case measure => simp [intOf]; omega

end Go.Proofs.YtbknflaooemigaaGreat
