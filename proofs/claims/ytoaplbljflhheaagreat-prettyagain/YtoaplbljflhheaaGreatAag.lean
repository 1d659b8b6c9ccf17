/-
 Contracts and plain facts on the way to PrettyAgain. Conditions: as each says.
-/
import Derived.Handy
import Derived.OwnWalk
import Derived.Test.YtoaplbljflhheaaGreatAaa
import Derived.Test.YtoaplbljflhheaaGreatAac
set_option maxHeartbeats 40000000
set_option maxRecDepth 100000
set_option linter.unusedVariables false
set_option linter.unusedSimpArgs false
namespace Go.Proofs.YtoaplbljflhheaaGreat.Nm
open _root_.Go.Proofs.Tryz
open Go.RowKit
theorem a0n (n : Nat) (w : World) (hn : Hid (n ≤ 18446744073709551615)) :
  Calls prog 199 #[.int .u64 n] w fun e w' => e = .returned (.int .i64 (dec n).length) ∧ w = w' := by
 go_enter func199, ntmps199;go_wp2
 go_loop [0, 3] (fun v c => ∃ m k : Nat, m ≤ n ∧ v = .int .u64 m ∧ c = .int .i64 k ∧ 1 ≤ k ∧ k + (dec m).length = (dec n).length + 1) (fun v _ => (intOf v).toNat)
 case atStart => exact ⟨n, 1, Nat.le_refl _, rfl, rfl, Nat.le_refl _, by omega⟩
 case round =>
  obtain ⟨m, k, hm, rfl, rfl, hk1, hk⟩ := hrel;have hl := dec_len_le n hn.out;have hl1 := W9 m;have hkb : k ≤ 20 := by omega
  by_cases hlt : m < 10
  ·have hd : (dec m).length = 1 := by rw [dec_small hlt]; rfl
   have HK := zz (show (k : Int) = (dec n).length by omega);clear hk hd;go_wp2;go_ret;exact ⟨Fu HK.out, rfl⟩
  ·have hd : (dec m).length = (dec (m / 10)).length + 1 := by rw [Ls hlt]; simp
   have HK := zz (show k + 1 + (dec (m / 10)).length = (dec n).length + 1 by omega);clear hk hd hl hl1;have hlt2 : ¬ (m : Int) < 10 := by omega
   have hmb : (m : Int) ≤ 18446744073709551615 := by have := hn.out; omega
   go_wp2
   go_round
   case rel => exact ⟨m / 10, k + 1, by omega, by go_num, by go_num, by omega, HK.out⟩
   case measure => simp [intOf]; omega
theorem b3e (n c k : Nat) (h : k < c) (z : Value) :
  (List.replicate (c - k) z ++ (Td n k).map (Value.int .u8)).set (c - 1 - k) (.int .u8 ((48 + n / 10 ^ k % 10 : Nat) : Int)) = List.replicate (c - (k + 1)) z ++ (Td n (k + 1)).map (Value.int .u8) := by
 have e : c - k = (c - (k + 1)) + 1 := by omega
 rw [show c - 1 - k = c - (k + 1) by omega, e, List.replicate_succ'];simp [Td]
theorem Tryz.info5 : (Tryz.prog.info? 5).map (fun i => (i.zero, i.size, i.bytes)) = some (some (.int .u8 0), 1, 1) := by kernel_rfl
def c2e (n c : Nat) (w : World) (v i : Value) (wr : World) : Prop :=
 ∃ k : Nat, k ≤ c ∧ i = .int .i64 k ∧ v = .int .u64 (n / 10 ^ k : Nat) ∧
  wr.ownsRow w.heap.size 5 1 (.slice (some ⟨w.heap.size, 0, none⟩) c c) c (List.replicate (c - k) (.int .u8 0) ++ (Td n k).map (Value.int .u8)) ∧ Below w.heap.size w wr
theorem Vr (n : Nat) : (madeCells (Value.int .u8 0).cells (n * 1)).toList = List.replicate n (.int .u8 0) := by
 rw [Nat.mul_one]; exact toList_madeCells_one _ n
theorem N1 (n : Nat) (w : World) (hn : Hid (n ≤ 18446744073709551615)) :
  Calls prog 182 #[.int .u64 n] w fun e w' => e = .returned (.string (bs (dec n))) ∧ Below w.heap.size w w' := by
 obtain ⟨c, hc⟩ : ∃ c, (dec n).length = c := ⟨_, rfl⟩;have hc20 : c ≤ 20 := by rw [← hc]; exact dec_len_le n hn.out
 have hc1 : 1 ≤ c := by rw [← hc]; exact W9 n
 have H := zz (fun w => hc ▸ a0n n w hn);have HC := zz hc;clear hc;obtain ⟨i0, hi0, hz0, hz1, hz2⟩ := info_parts Tryz.info5;have I0 := zz hi0;have Z0 := zz hz0;have Z1 := zz hz1;have Z2 := zz hz2;clear hi0 hz0 hz1 hz2;go_enter func182, ntmps182;go_wp2_with fail;refine (H.out _).mono ?_;rintro e w' ⟨rfl, rfl⟩
 go_wp2_with (first
  | (at_make; refine wpList_make_full _ rfl _ _ 58 rfl w.heap.size 5 i0 (.int .u8 0) 1 underlying58 I0.out Z0.out Z1.out .i64 .i64 c c c rfl rfl rfl rfl (by rw [Z2.out]; omega) (by unfold maxLen; omega) (Nat.le_refl _) ?_; intro w1 hown hgr))
 have W1 := zz (show c2e n c w (.int .u64 n) (.int .i64 0) w1 from ⟨0, by omega, rfl, by rw [Nat.pow_zero, Nat.div_one], by rw [Vr] at hown; simpa [Td] using hown, (Below.refl _ _).grown hgr (Nat.le_refl _) (fun _ h => by cases h)⟩);clear hown hgr
 go_loopw [0, 11] (fun v i wr => c2e n c w v i wr) (fun _ i _ => c - (intOf i).toNat)
 case atStart => exact W1.out
 case round =>
  obtain ⟨k, hk, rfl, rfl, hown, hbel⟩ := hrel;by_cases hlt : k < c
  ·have hcell : wr.cell? ⟨w.heap.size, c - 1 - k, none⟩ = some (.int .u8 0) := by
    rw [hown.cellAt _ (by omega), List.getElem?_append_left (by simp; omega), List.getElem?_replicate, if_pos (by omega)]
   have hfz := hown.frozenAt (c - 1 - k);have HO := zz hown;have HB := zz hbel;have hd : n / 10 ^ (k + 1) = n / 10 ^ k / 10 := by rw [Nat.pow_succ, Nat.div_div_eq_div_mul]
   have HD := zz hd;have hS := zz (b3e n c k hlt (.int .u8 0));have hmle : n / 10 ^ k ≤ n := Nat.div_le_self _ _;clear hown hbel hd;obtain ⟨m, hm⟩ : ∃ m, n / 10 ^ k = m := ⟨_, rfl⟩;rw [hm] at HD hS hmle;rw [hm];have hmb : (m : Int) ≤ 18446744073709551615 := by have := hn.out; omega
   clear hm;go_wp2
   go_roundw
   case rel =>
    refine ⟨k + 1, by omega, by go_num, by rw [HD.out]; go_num, ?_, ?_⟩
    ·rw [← hS.out]; exact (HO.out.stored _ _).1
    ·exact HB.out.setCell (Nat.le_refl _) _
   case measure => simp [intOf]; omega
  ·obtain rfl : k = c := by omega
   have hcv := run_convert_bytes_arg (P := prog) wr 58 5 underlying58 underlying5 w.heap.size 0 k k (Td n k) (Yg n k) (fun i hi => by
    rw [Nat.zero_add, hown.cellAt _ (by omega)]
    simp [List.getD, List.getElem?_map, List.getElem?_eq_getElem (show i < (Td n k).length by rw [Yg]; exact hi)]) 9 underlying9
   have e : strOfNums (Td n k) = bs (dec n) := by rw [← HC.out]; exact Zx n
   rw [e] at hcv;have HB := zz hbel;clear hown hbel e;go_wp2;go_ret;exact ⟨rfl, HB.out⟩
end Go.Proofs.YtoaplbljflhheaaGreat.Nm
