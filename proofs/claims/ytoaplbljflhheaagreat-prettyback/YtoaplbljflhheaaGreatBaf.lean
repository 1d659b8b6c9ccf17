/-
 Contracts and plain facts on the way to PrettyBack. Conditions: as each says.
-/
import Derived.Handy
import Derived.OwnWalk
import Derived.Test.YtoaplbljflhheaaGreatBaa
import Derived.Test.YtoaplbljflhheaaGreatBac
import Derived.Below
set_option maxHeartbeats 40000000
set_option maxRecDepth 100000
set_option linter.unusedVariables false
set_option linter.unusedSimpArgs false
namespace Go.Proofs.YtoaplbljflhheaaGreat.Nm
open _root_.Go.Proofs.Tryz
open Go.RowKit
theorem a03 (n : Nat) (w : World) (hn : Hid (n <= 18446744073709551615)) :
  Calls prog 199 #[.int .u64 n] w fun e w' => e = .returned (.int .i64 (dec n).length) ∧ w = w' := by
 go_enter func199, ntmps199;go_wp2
 go_loop [0, 3] (fun v c => ∃ m k : Nat, m <= n ∧ v = .int .u64 m ∧ c = .int .i64 k ∧ 1 <= k ∧ k + (dec m).length = (dec n).length + 1) (fun v _ => (intOf v).toNat)
 case atStart => exact ⟨n, 1, Nat.le_refl _, rfl, rfl, Nat.le_refl _, by omega⟩
 case round =>
  obtain ⟨m, k, hm, rfl, rfl, hk1, hk⟩ := hrel;have hl := dec_len_le n hn.out;have hl1 := X0 m;have hkb : k <= 20 := by omega
  by_cases hlt : m < 10
  ·have hd : (dec m).length = 1 := by rw [dec_small hlt]; rfl
   have HK := zz (show (k : Int) = (dec n).length by omega);clear hk hd;go_wp2;go_ret;exact ⟨Cs HK.out, rfl⟩
  ·have hd : (dec m).length = (dec (m / 10)).length + 1 := by rw [L2 hlt]; simp
   have HK := zz (show k + 1 + (dec (m / 10)).length = (dec n).length + 1 by omega);clear hk hd hl hl1;have hlt2 : ¬ (m : Int) < 10 := by omega
   have hmb : (m : Int) <= 18446744073709551615 := by have := hn.out; omega
   go_wp2
   go_round
   case rel => exact ⟨m / 10, k + 1, by omega, by go_num, by go_num, by omega, HK.out⟩
   case measure => simp [intOf]; omega
theorem b3v (n c k : Nat) (h : k < c) (z : Value) :
  (List.replicate (c - k) z ++ (Tl n k).map (Value.int .u8)).set (c - 1 - k) (.int .u8 ((48 + n / 10 ^ k % 10 : Nat) : Int)) = List.replicate (c - (k + 1)) z ++ (Tl n (k + 1)).map (Value.int .u8) := by
 have e : c - k = (c - (k + 1)) + 1 := by omega
 rw [show c - 1 - k = c - (k + 1) by omega, e, List.replicate_succ'];simp [Tl]
theorem Tryz.info5 : (Tryz.prog.info? 5).map (fun i => (i.zero, i.size, i.bytes)) = some (some (.int .u8 0), 1, 1) := by kernel_rfl
def c3i (n c : Nat) (w : World) (v i : Value) (wr : World) : Prop :=
 ∃ k : Nat, k <= c ∧ i = .int .i64 k ∧ v = .int .u64 (n / 10 ^ k : Nat) ∧
  wr.ownsRow w.heap.size 5 1 (.slice (some ⟨w.heap.size, 0, none⟩) c c) c (List.replicate (c - k) (.int .u8 0) ++ (Tl n k).map (Value.int .u8)) ∧ Below w.heap.size w wr
theorem Wj (n : Nat) : (madeCells (Value.int .u8 0).cells (n * 1)).toList = List.replicate n (.int .u8 0) := by
 rw [Nat.mul_one]; exact toList_madeCells_one _ n
theorem Nz (n : Nat) (w : World) (hn : Hid (n <= 18446744073709551615)) :
  Calls prog 182 #[.int .u64 n] w fun e w' => e = .returned (.string (bs (dec n))) ∧ Below w.heap.size w w' := by
 obtain ⟨c, hc⟩ : ∃ c, (dec n).length = c := ⟨_, rfl⟩;have hc20 : c <= 20 := by rw [<- hc]; exact dec_len_le n hn.out
 have hc1 : 1 <= c := by rw [<- hc]; exact X0 n
 have H := zz (fun w => hc ▸ a03 n w hn);have HC := zz hc;clear hc;obtain ⟨i0, hi0, hz0, hz1, hz2⟩ := info_parts Tryz.info5;have I0 := zz hi0;have Z0 := zz hz0;have Z1 := zz hz1;have Z2 := zz hz2;clear hi0 hz0 hz1 hz2;go_enter func182, ntmps182;go_wp2_with fail;refine (H.out _).mono ?_;rintro e w' ⟨rfl, rfl⟩
 go_wp2_with (first
  | (at_make; refine wpList_make_full _ rfl _ _ 58 rfl w.heap.size 5 i0 (.int .u8 0) 1 underlying58 I0.out Z0.out Z1.out .i64 .i64 c c c rfl rfl rfl rfl (by rw [Z2.out]; omega) (by unfold maxLen; omega) (Nat.le_refl _) ?_; intro w1 hown hgr))
 have W1 := zz (show c3i n c w (.int .u64 n) (.int .i64 0) w1 from ⟨0, by omega, rfl, by rw [Nat.pow_zero, Nat.div_one], by rw [Wj] at hown; simpa [Tl] using hown, (Below.refl _ _).grown hgr (Nat.le_refl _) (fun _ h => by cases h)⟩);clear hown hgr
 go_loopw [0, 11] (fun v i wr => c3i n c w v i wr) (fun _ i _ => c - (intOf i).toNat)
 case atStart => exact W1.out
 case round =>
  obtain ⟨k, hk, rfl, rfl, hown, hbel⟩ := hrel;by_cases hlt : k < c
  ·have hcell : wr.cell? ⟨w.heap.size, c - 1 - k, none⟩ = some (.int .u8 0) := by
    rw [hown.cellAt _ (by omega), List.getElem?_append_left (by simp; omega), List.getElem?_replicate, if_pos (by omega)]
   have hfz := hown.frozenAt (c - 1 - k);have HO := zz hown;have HB := zz hbel;have hd : n / 10 ^ (k + 1) = n / 10 ^ k / 10 := by rw [Nat.pow_succ, Nat.div_div_eq_div_mul]
   have HD := zz hd;have hS := zz (b3v n c k hlt (.int .u8 0));have hmle : n / 10 ^ k <= n := Nat.div_le_self _ _;clear hown hbel hd;obtain ⟨m, hm⟩ : ∃ m, n / 10 ^ k = m := ⟨_, rfl⟩;rw [hm] at HD hS hmle;rw [hm];have hmb : (m : Int) <= 18446744073709551615 := by have := hn.out; omega
   clear hm;go_wp2
   go_roundw
   case rel =>
    refine ⟨k + 1, by omega, by go_num, by rw [HD.out]; go_num, ?_, ?_⟩
    ·rw [<- hS.out]; exact (HO.out.stored _ _).1
    ·exact HB.out.setCell (Nat.le_refl _) _
   case measure => simp [intOf]; omega
  ·obtain rfl : k = c := by omega
   have hcv := run_convert_bytes_arg (P := prog) wr 58 5 underlying58 underlying5 w.heap.size 0 k k (Tl n k) (Za n k) (fun i hi => by
    rw [Nat.zero_add, hown.cellAt _ (by omega)]
    simp [List.getD, List.getElem?_map, List.getElem?_eq_getElem (show i < (Tl n k).length by rw [Za]; exact hi)]) 9 underlying9
   have e : strOfNums (Tl n k) = bs (dec n) := by rw [<- HC.out]; exact a0b n
   rw [e] at hcv;have HB := zz hbel;clear hown hbel e;go_wp2;go_ret;exact ⟨rfl, HB.out⟩
end Go.Proofs.YtoaplbljflhheaaGreat.Nm
namespace Go.Proofs.YtoaplbljflhheaaGreat.Nm
open _root_.Go.Proofs.Tryz
open Go.RowKit
theorem a6i (x d0 d1 d2 d3 d4 d5 d6 d7 : Int) (w : World) (hd : Ql x d0 d1 d2 d3 d4 d5 d6 d7) :
  Calls prog 91 #[dv d0 d1 d2 d3 d4 d5 d6 d7] w fun e w' => e = .returned (.bool (b1t x)) ∧ Below w.heap.size w w' := by
 have H := zz hd;clear hd;go_enter func91, ntmps91;go_wp2;go_ret;refine ⟨Yr ?_, by go_grown⟩;have := H.out;unfold Ql at this;unfold b1t;rw [decide_eq_decide]; omega
theorem Zv (x : Int) (b : Bool) (a0 a1 a2 a3 a4 a5 a6 a7 : Int) (w : World) (ha : Ql x a0 a1 a2 a3 a4 a5 a6 a7) (hb : b1t x = b) :
  Calls prog 91 #[dv a0 a1 a2 a3 a4 a5 a6 a7] w fun e w' => e = .returned (.bool b) ∧ Below w.heap.size w w' := hb ▸ a6i x a0 a1 a2 a3 a4 a5 a6 a7 w ha
theorem a77 (a u z n s : Int) (w : World) (hu : Hid (IntKind.u64.wrap a = u)) (hB : Hid (b1t u = true))
  (hz : Hid ((18446744073709551616 - u) % 18446744073709551616 = z)) (hn : Hid (wrap64 z = n)) (hs : IntKind.u64.wrap n = s) :
  Calls prog 59 #[.int .i64 a] w fun e w' => e = .returned (.int .u64 s) ∧ Below w.heap.size w w' := by
 go_enter func59, ntmps59;go_wp2_with fail;refine (b8w a u _ hu.out).mono ?_;rintro e w1 ⟨d0, d1, d2, d3, d4, d5, d6, d7, hD, rfl, hb1⟩;have HD := zz hD;clear hD;go_wp2_with fail;refine (Zv u true _ _ _ _ _ _ _ _ _ HD.out hB.out).mono ?_;rintro e w2 ⟨rfl, hb2⟩;obtain ⟨hc2, hf2⟩ := Cr hb2;simp only [World.size_alloc] at hc2 hf2;go_wp2_with fail;refine (a9n u z _ _ _ _ _ _ _ _ _ HD.out hz.out).mono ?_;rintro e w3 ⟨m0, m1, m2, m3, m4, m5, m6, m7, hM, rfl, hb3⟩;have HM := zz hM;clear hM;have hz2 := hb2.size;simp only [World.size_alloc] at hz2;have hc3 : ∀ o, w3.cell? ⟨w1.heap.size, o, none⟩ = w2.cell? ⟨w1.heap.size, o, none⟩ := fun o => hb3.cell (p := ⟨w1.heap.size, o, none⟩) (show w1.heap.size < w2.heap.size by omega)
 have hf3 : ∀ o, w3.frozen? ⟨w1.heap.size, o, none⟩ = w2.frozen? ⟨w1.heap.size, o, none⟩ := fun o => hb3.frozen (p := ⟨w1.heap.size, o, none⟩) (show w1.heap.size < w2.heap.size by omega)
 go_wp2_with fail;refine (Uw z n _ _ _ _ _ _ _ _ _ HM.out hn.out).mono ?_;rintro e w4 ⟨rfl, hb4⟩;go_wp2;go_ret;refine ⟨rfl, Ab ?_ hb4⟩;have B3 := Ab (Ab (hb1.alloc hb1.size _) hb2) hb3;have hq := hb1.size;clear hc2 hf2 hc3 hf3 hb2 hb3 hb4;go_grown
theorem a74 (a u n s : Int) (w : World) (hu : Hid (IntKind.u64.wrap a = u)) (hB : Hid (b1t u = false))
  (hn : Hid (wrap64 u = n)) (hs : IntKind.u64.wrap n = s) :
  Calls prog 59 #[.int .i64 a] w fun e w' => e = .returned (.int .u64 s) ∧ Below w.heap.size w w' := by
 go_enter func59, ntmps59;go_wp2_with fail;refine (b8w a u _ hu.out).mono ?_;rintro e w1 ⟨d0, d1, d2, d3, d4, d5, d6, d7, hD, rfl, hb1⟩;have HD := zz hD;clear hD;go_wp2_with fail;refine (Zv u false _ _ _ _ _ _ _ _ _ HD.out hB.out).mono ?_;rintro e w2 ⟨rfl, hb2⟩;obtain ⟨hc2, hf2⟩ := Cr hb2;simp only [World.size_alloc] at hc2 hf2;go_wp2_with fail;refine (Uw u n _ _ _ _ _ _ _ _ _ HD.out hn.out).mono ?_;rintro e w4 ⟨rfl, hb4⟩;go_wp2;go_ret;exact ⟨rfl, Ab (Ab (hb1.alloc hb1.size _) hb2) hb4⟩
theorem Yh (a : Int) (w : World) (h0 : -9223372036854775808 <= a) (h1 : a <= 9223372036854775807) :
  Calls prog 59 #[.int .i64 a] w fun e w' => e = .returned (.int .u64 a.natAbs) ∧ Below w.heap.size w w' := by
 by_cases h : a < 0
 ·refine a77 a (a + 18446744073709551616) (-a) (wrap64 (-a)) a.natAbs w ?_ ?_ ?_ rfl ?_
  ·show IntKind.u64.wrap a = _;rw [IntKind.wrap_u64]; omega
  ·show b1t _ = true;unfold b1t; rw [decide_eq_true_eq]; omega
  ·show _ = _;omega
  ·rw [IntKind.wrap_u64]; unfold wrap64; omega
 ·refine a74 a a (wrap64 a) a.natAbs w ?_ ?_ rfl ?_
  ·show IntKind.u64.wrap a = _;rw [IntKind.wrap_u64]; omega
  ·show b1t _ = false;unfold b1t; rw [decide_eq_false_iff_not]; omega
  ·rw [IntKind.wrap_u64]; unfold wrap64; omega
end Go.Proofs.YtoaplbljflhheaaGreat.Nm
