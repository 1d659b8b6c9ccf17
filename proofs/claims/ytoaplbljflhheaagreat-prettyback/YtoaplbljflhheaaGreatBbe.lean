/-
 Contracts and plain facts on the way to PrettyBack. Conditions: as each says.
-/
import Derived.Test.YtoaplbljflhheaaGreatBba
set_option maxHeartbeats 40000000
set_option maxRecDepth 100000
set_option linter.unusedVariables false
set_option linter.unusedSimpArgs false
namespace Go.Proofs.YtoaplbljflhheaaGreat
open _root_.Go.Proofs.Tryz
section
open Go.RowKit Go.Sort
theorem a5p (K : Int) (hK : K = 2 ∨ K = 19) (ln cl sz num : Int) (tx : ByteArray) (w : World) (hnum : Bg num) (htx : tx.size <= 100000) (q : Bool) (hq : (Ew tx.data.toList && (num == 0)) = q) : Calls prog 26 #[.agg #[.int .u8 K, .int .i64 ln, .int .i64 cl, .int .i64 sz, .int .i64 num, .string tx]] w fun e w' => e = .returned (.bool q) ∧ Below w.heap.size w w' := by
 have hA := zz (Aa w (.cells #[.int .u8 K, .int .i64 ln, .int .i64 cl, .int .i64 sz, .int .i64 num, .string tx] 37));have H := zz (fun w => a0q tx w htx);rcases hK with rfl | rfl
 all_goals
  cases h1 : Ew tx.data.toList with
  | false =>
   rw [h1, Bool.false_and] at hq;subst hq;replace h1 := zz h1;go_enter func26, ntmps26;go_wp2_with fail;refine (H.out _ false h1.out).mono ?_;rintro e w1 ⟨rfl, hb⟩;replace hb := zz (Ab hA.out hb);go_wp2_with fail;go_ret
   exact ⟨rfl, hb.out⟩
  | true =>
   rw [h1, Bool.true_and] at hq;replace h1 := zz h1;go_enter func26, ntmps26;go_wp2_with fail;refine (H.out _ true h1.out).mono ?_;rintro e w1 ⟨rfl, hb⟩;have d4 : w1.cell? ⟨w.heap.size, 4, none⟩ = some (.int .i64 num) := Ac hb (by simp [go_sem]);replace hb := zz (Ab hA.out hb);go_wp2_with fail;go_ret;exact ⟨rfl, hb.out⟩
theorem Nb (K : Int) (hK : K = 3 ∨ K = 5 ∨ K = 7 ∨ K = 26 ∨ K = 27 ∨ K = 29) (ln cl sz num : Int) (tx : ByteArray) (w : World) (hnum : Bg num) (htx : tx.size <= 100000) (q : Bool) (hq : (Ed tx.data.toList && (num == 0)) = q) : Calls prog 26 #[.agg #[.int .u8 K, .int .i64 ln, .int .i64 cl, .int .i64 sz, .int .i64 num, .string tx]] w fun e w' => e = .returned (.bool q) ∧ Below w.heap.size w w' := by
 have hA := zz (Aa w (.cells #[.int .u8 K, .int .i64 ln, .int .i64 cl, .int .i64 sz, .int .i64 num, .string tx] 37));have H := zz (fun w => Ue tx w htx);rcases hK with rfl | rfl | rfl | rfl | rfl | rfl
 all_goals
  cases h1 : Ed tx.data.toList with
  | false =>
   rw [h1, Bool.false_and] at hq;subst hq;replace h1 := zz h1;go_enter func26, ntmps26;go_wp2_with fail;refine (H.out _ false h1.out).mono ?_;rintro e w1 ⟨rfl, hb⟩;replace hb := zz (Ab hA.out hb);go_wp2_with fail;go_ret
   exact ⟨rfl, hb.out⟩
  | true =>
   rw [h1, Bool.true_and] at hq;replace h1 := zz h1;go_enter func26, ntmps26;go_wp2_with fail;refine (H.out _ true h1.out).mono ?_;rintro e w1 ⟨rfl, hb⟩;have d4 : w1.cell? ⟨w.heap.size, 4, none⟩ = some (.int .i64 num) := Ac hb (by simp [go_sem]);replace hb := zz (Ab hA.out hb);go_wp2_with fail;go_ret;exact ⟨rfl, hb.out⟩
theorem Ij {tx : ByteArray} (hz : 0 < tx.size) : tx.data.toList.isEmpty = false := by
 rw [List.isEmpty_eq_false_iff];intro e;rw [<- Ad, e] at hz;simp at hz
theorem P6 (K : Int) (hK : K = 21 ∨ K = 22 ∨ K = 24 ∨ K = 30 ∨ K = 31) (ln cl sz num : Int) (tx : ByteArray) (w : World) (hnum : Bg num) (hz : 0 < tx.size) : Calls prog 26 #[.agg #[.int .u8 K, .int .i64 ln, .int .i64 cl, .int .i64 sz, .int .i64 num, .string tx]] w fun e w' => e = .returned (.bool false) ∧ Below w.heap.size w w' := by
 have hA := zz (Aa w (.cells #[.int .u8 K, .int .i64 ln, .int .i64 cl, .int .i64 sz, .int .i64 num, .string tx] 37));have e1 := Ij hz
 have e2 : (tx.toList == []) = false := by rw [ByteArray.toList_eq]; cases h : tx.data.toList with
  | nil => rw [h] at e1; cases e1
  | cons => rfl
 have e3 : (tx.toList != []) = true := by rw [bne, e2]; rfl
 have e4 : tx.toList.isEmpty = false := by rw [ByteArray.toList_eq]; exact e1
 clear e1;rcases hK with rfl | rfl | rfl | rfl | rfl
 all_goals
  go_enter func26, ntmps26;go_wp2_with fail;go_ret;exact ⟨rfl, hA.out⟩
theorem b5g (ln cl sz num : Int) (tx : ByteArray) (w : World) (hnum : Bg num) (htx : tx.size <= 100000) (q : Bool) (hq : (Bc 4 tx.data.toList && Bk 4 num) = q) : Calls prog 26 #[.agg #[.int .u8 4, .int .i64 ln, .int .i64 cl, .int .i64 sz, .int .i64 num, .string tx]] w fun e w' => e = .returned (.bool q) ∧ Below w.heap.size w w' := by
 have hA := zz (Aa w (.cells #[.int .u8 4, .int .i64 ln, .int .i64 cl, .int .i64 sz, .int .i64 num, .string tx] 37));have hq' : Ed tx.data.toList = q := by rw [<- hq]; simp [Bk, Bc]
 have H := zz (fun w => Ue tx w htx q hq');clear hq hq';go_enter func26, ntmps26;go_wp2_with fail;refine (H.out _).mono ?_;rintro e w1 ⟨rfl, hb⟩;replace hb := zz (Ab hA.out hb);go_wp2_with fail;go_ret;exact ⟨rfl, hb.out⟩
theorem b0p (ln cl sz num : Int) (tx : ByteArray) (w : World) (hnum : Bg num) (htx : tx.size <= 100000) (q : Bool) (hq : (Bc 23 tx.data.toList && Bk 23 num) = q) : Calls prog 26 #[.agg #[.int .u8 23, .int .i64 ln, .int .i64 cl, .int .i64 sz, .int .i64 num, .string tx]] w fun e w' => e = .returned (.bool q) ∧ Below w.heap.size w w' := by
 have hA := zz (Aa w (.cells #[.int .u8 23, .int .i64 ln, .int .i64 cl, .int .i64 sz, .int .i64 num, .string tx] 37));have hq' : (num == 0) = q := by rw [<- hq]; simp [Bk, Bc]; rfl
 clear hq;go_enter func26, ntmps26;go_wp2_with fail;go_ret;exact ⟨rfl, hA.out⟩
theorem b0r (ln cl sz num : Int) (tx : ByteArray) (w : World) (hnum : Bg num) (htx : tx.size <= 100000) (q : Bool) (hq : (Bc 21 tx.data.toList && Bk 21 num) = q) : Calls prog 26 #[.agg #[.int .u8 21, .int .i64 ln, .int .i64 cl, .int .i64 sz, .int .i64 num, .string tx]] w fun e w' => e = .returned (.bool q) ∧ Below w.heap.size w w' := by
 have hA := zz (Aa w (.cells #[.int .u8 21, .int .i64 ln, .int .i64 cl, .int .i64 sz, .int .i64 num, .string tx] 37));have ht : Bc 21 tx.data.toList = tx.data.toList.isEmpty := by simp [Bc]
 rw [ht] at hq;clear ht;by_cases hz : 0 < tx.size
 ·rw [Ij hz, Bool.false_and] at hq;subst hq;exact P6 21 (.inl rfl) ln cl sz num tx w hnum hz
 ·have := Dz tx hz;subst this;clear hz;rw [show (({ data := #[] } : ByteArray).data.toList.isEmpty) = true from rfl, Bool.true_and] at hq;by_cases a1 : 0 <= num
  ·obtain rfl : q = true := by rw [<- hq]; simp [Bk]; omega
   clear hq;go_enter func26, ntmps26;go_wp2_with fail;go_ret;exact ⟨rfl, hA.out⟩
  ·have g1 : decide (0 <= num) = false := by simpa using a1
   obtain rfl : q = false := by rw [<- hq]; simp [Bk]; omega
   clear hq;go_enter func26, ntmps26;go_wp2_with fail;go_ret;exact ⟨rfl, hA.out⟩
theorem b0q (ln cl sz num : Int) (tx : ByteArray) (w : World) (hnum : Bg num) (htx : tx.size <= 100000) (q : Bool) (hq : (Bc 22 tx.data.toList && Bk 22 num) = q) : Calls prog 26 #[.agg #[.int .u8 22, .int .i64 ln, .int .i64 cl, .int .i64 sz, .int .i64 num, .string tx]] w fun e w' => e = .returned (.bool q) ∧ Below w.heap.size w w' := by
 have hA := zz (Aa w (.cells #[.int .u8 22, .int .i64 ln, .int .i64 cl, .int .i64 sz, .int .i64 num, .string tx] 37));have ht : Bc 22 tx.data.toList = tx.data.toList.isEmpty := by simp [Bc]
 rw [ht] at hq;clear ht;by_cases hz : 0 < tx.size
 ·rw [Ij hz, Bool.false_and] at hq;subst hq;exact P6 22 (.inr (.inl rfl)) ln cl sz num tx w hnum hz
 ·have := Dz tx hz;subst this;clear hz;rw [show (({ data := #[] } : ByteArray).data.toList.isEmpty) = true from rfl, Bool.true_and] at hq;by_cases a1 : 0 <= num
  ·by_cases a2 : num < 8388608
   ·obtain rfl : q = true := by rw [<- hq]; simp [Bk]; omega
    clear hq;go_enter func26, ntmps26;go_wp2_with fail;go_ret;exact ⟨rfl, hA.out⟩
   ·have g1 : decide (num < 8388608) = false := by simpa using a2
    obtain rfl : q = false := by rw [<- hq]; simp [Bk]; omega
    clear hq;go_enter func26, ntmps26;go_wp2_with fail;go_ret;exact ⟨rfl, hA.out⟩
  ·have g1 : decide (0 <= num) = false := by simpa using a1
   obtain rfl : q = false := by rw [<- hq]; simp [Bk]; omega
   clear hq;go_enter func26, ntmps26;go_wp2_with fail;go_ret;exact ⟨rfl, hA.out⟩
theorem b0o (ln cl sz num : Int) (tx : ByteArray) (w : World) (hnum : Bg num) (htx : tx.size <= 100000) (q : Bool) (hq : (Bc 24 tx.data.toList && Bk 24 num) = q) : Calls prog 26 #[.agg #[.int .u8 24, .int .i64 ln, .int .i64 cl, .int .i64 sz, .int .i64 num, .string tx]] w fun e w' => e = .returned (.bool q) ∧ Below w.heap.size w w' := by
 have hA := zz (Aa w (.cells #[.int .u8 24, .int .i64 ln, .int .i64 cl, .int .i64 sz, .int .i64 num, .string tx] 37));have ht : Bc 24 tx.data.toList = tx.data.toList.isEmpty := by simp [Bc]
 rw [ht] at hq;clear ht;by_cases hz : 0 < tx.size
 ·rw [Ij hz, Bool.false_and] at hq;subst hq;exact P6 24 (.inr (.inr (.inl rfl))) ln cl sz num tx w hnum hz
 ·have := Dz tx hz;subst this;clear hz;rw [show (({ data := #[] } : ByteArray).data.toList.isEmpty) = true from rfl, Bool.true_and] at hq;by_cases a1 : num = 0
  ·have g1 : (num == 0) = true := by rw [a1]; rfl
   obtain rfl : q = true := by rw [<- hq]; simp [Bk]; try omega
   clear hq a1;go_enter func26, ntmps26;go_wp2_with fail;go_ret;exact ⟨rfl, hA.out⟩
  ·have g1 : (num == 0) = false := by rw [beq_eq_false_iff_ne]; exact a1
   by_cases a2 : num = 1
   ·have g2 : (num == 1) = true := by rw [a2]; rfl
    obtain rfl : q = true := by rw [<- hq]; simp [Bk]; try omega
    clear hq a2;go_enter func26, ntmps26;go_wp2_with fail;go_ret;exact ⟨rfl, hA.out⟩
   ·have g2 : (num == 1) = false := by rw [beq_eq_false_iff_ne]; exact a2
    obtain rfl : q = false := by rw [<- hq]; simp [Bk]; omega
    clear hq a1 a2;go_enter func26, ntmps26;go_wp2_with fail;go_ret;exact ⟨rfl, hA.out⟩
theorem b0n (ln cl sz num : Int) (tx : ByteArray) (w : World) (hnum : Bg num) (htx : tx.size <= 100000) (q : Bool) (hq : (Bc 30 tx.data.toList && Bk 30 num) = q) : Calls prog 26 #[.agg #[.int .u8 30, .int .i64 ln, .int .i64 cl, .int .i64 sz, .int .i64 num, .string tx]] w fun e w' => e = .returned (.bool q) ∧ Below w.heap.size w w' := by
 have hA := zz (Aa w (.cells #[.int .u8 30, .int .i64 ln, .int .i64 cl, .int .i64 sz, .int .i64 num, .string tx] 37));have ht : Bc 30 tx.data.toList = tx.data.toList.isEmpty := by simp [Bc]
 rw [ht] at hq;clear ht;by_cases hz : 0 < tx.size
 ·rw [Ij hz, Bool.false_and] at hq;subst hq;exact P6 30 (.inr (.inr (.inr (.inl rfl)))) ln cl sz num tx w hnum hz
 ·have := Dz tx hz;subst this;clear hz;rw [show (({ data := #[] } : ByteArray).data.toList.isEmpty) = true from rfl, Bool.true_and] at hq;by_cases a1 : num = 12
  ·have g1 : (num == 12) = true := by rw [a1]; rfl
   obtain rfl : q = true := by rw [<- hq]; simp [Bk]; try omega
   clear hq a1;go_enter func26, ntmps26;go_wp2_with fail;go_ret;exact ⟨rfl, hA.out⟩
  ·have g1 : (num == 12) = false := by rw [beq_eq_false_iff_ne]; exact a1
   by_cases a2 : num = 13
   ·have g2 : (num == 13) = true := by rw [a2]; rfl
    obtain rfl : q = true := by rw [<- hq]; simp [Bk]; try omega
    clear hq a2;go_enter func26, ntmps26;go_wp2_with fail;go_ret;exact ⟨rfl, hA.out⟩
   ·have g2 : (num == 13) = false := by rw [beq_eq_false_iff_ne]; exact a2
    obtain rfl : q = false := by rw [<- hq]; simp [Bk]; omega
    clear hq a1 a2;go_enter func26, ntmps26;go_wp2_with fail;go_ret;exact ⟨rfl, hA.out⟩
theorem b0m (ln cl sz num : Int) (tx : ByteArray) (w : World) (hnum : Bg num) (htx : tx.size <= 100000) (q : Bool) (hq : (Bc 31 tx.data.toList && Bk 31 num) = q) : Calls prog 26 #[.agg #[.int .u8 31, .int .i64 ln, .int .i64 cl, .int .i64 sz, .int .i64 num, .string tx]] w fun e w' => e = .returned (.bool q) ∧ Below w.heap.size w w' := by
 have hA := zz (Aa w (.cells #[.int .u8 31, .int .i64 ln, .int .i64 cl, .int .i64 sz, .int .i64 num, .string tx] 37));have ht : Bc 31 tx.data.toList = tx.data.toList.isEmpty := by simp [Bc]
 rw [ht] at hq;clear ht;by_cases hz : 0 < tx.size
 ·rw [Ij hz, Bool.false_and] at hq;subst hq;exact P6 31 (.inr (.inr (.inr (.inr rfl)))) ln cl sz num tx w hnum hz
 ·have := Dz tx hz;subst this;clear hz;rw [show (({ data := #[] } : ByteArray).data.toList.isEmpty) = true from rfl, Bool.true_and] at hq;by_cases a1 : 1 <= num
  ·by_cases a2 : num <= 11
   ·obtain rfl : q = true := by rw [<- hq]; simp [Bk]; omega
    clear hq;go_enter func26, ntmps26;go_wp2_with fail;go_ret;exact ⟨rfl, hA.out⟩
   ·have g2 : decide (num <= 11) = false := by simpa using a2
    by_cases b1 : num = 14
    ·have g3 : (num == 14) = true := by rw [b1]; rfl
     obtain rfl : q = true := by rw [<- hq]; simp [Bk]; omega
     clear hq b1;go_enter func26, ntmps26;go_wp2_with fail;go_ret;exact ⟨rfl, hA.out⟩
    ·have g3 : (num == 14) = false := by rw [beq_eq_false_iff_ne]; exact b1
     by_cases b2 : num = 15
     ·have g4 : (num == 15) = true := by rw [b2]; rfl
      obtain rfl : q = true := by rw [<- hq]; simp [Bk]; omega
      clear hq b2;go_enter func26, ntmps26;go_wp2_with fail;go_ret;exact ⟨rfl, hA.out⟩
     ·have g4 : (num == 15) = false := by rw [beq_eq_false_iff_ne]; exact b2
      obtain rfl : q = false := by rw [<- hq]; simp [Bk]; omega
      clear hq b1 b2;go_enter func26, ntmps26;go_wp2_with fail;go_ret;exact ⟨rfl, hA.out⟩
  ·have g1 : decide (1 <= num) = false := by simpa using a1
   by_cases b1 : num = 14
   ·have g3 : (num == 14) = true := by rw [b1]; rfl
    obtain rfl : q = true := by rw [<- hq]; simp [Bk]; omega
    clear hq b1;go_enter func26, ntmps26;go_wp2_with fail;go_ret;exact ⟨rfl, hA.out⟩
   ·have g3 : (num == 14) = false := by rw [beq_eq_false_iff_ne]; exact b1
    by_cases b2 : num = 15
    ·have g4 : (num == 15) = true := by rw [b2]; rfl
     obtain rfl : q = true := by rw [<- hq]; simp [Bk]; omega
     clear hq b2;go_enter func26, ntmps26;go_wp2_with fail;go_ret;exact ⟨rfl, hA.out⟩
    ·have g4 : (num == 15) = false := by rw [beq_eq_false_iff_ne]; exact b2
     obtain rfl : q = false := by rw [<- hq]; simp [Bk]; omega
     clear hq b1 b2;go_enter func26, ntmps26;go_wp2_with fail;go_ret;exact ⟨rfl, hA.out⟩
theorem a1d (k : Nat) (hk : k ≠ 2 ∧ k ≠ 19 ∧ k ≠ 3 ∧ k ≠ 5 ∧ k ≠ 7 ∧ k ≠ 26 ∧ k ≠ 27 ∧ k ≠ 29 ∧ k ≠ 4 ∧ k ≠ 23 ∧ k ≠ 21 ∧ k ≠ 22 ∧ k ≠ 24 ∧ k ≠ 30 ∧ k ≠ 31) (ln cl sz num : Int) (tx : ByteArray) (w : World) (hnum : Bg num) (htx : tx.size <= 100000) (q : Bool) (hq : (Bc k tx.data.toList && Bk k num) = q) : Calls prog 26 #[.agg #[.int .u8 (k : Nat), .int .i64 ln, .int .i64 cl, .int .i64 sz, .int .i64 num, .string tx]] w fun e w' => e = .returned (.bool q) ∧ Below w.heap.size w w' := by
 have hA := zz (Aa w (.cells #[.int .u8 (k : Nat), .int .i64 ln, .int .i64 cl, .int .i64 sz, .int .i64 num, .string tx] 37));have e2 : ((k : Int) == 2) = false := by rw [beq_eq_false_iff_ne]; omega
 have e19 : ((k : Int) == 19) = false := by rw [beq_eq_false_iff_ne]; omega
 have e3 : ((k : Int) == 3) = false := by rw [beq_eq_false_iff_ne]; omega
 have e5 : ((k : Int) == 5) = false := by rw [beq_eq_false_iff_ne]; omega
 have e7 : ((k : Int) == 7) = false := by rw [beq_eq_false_iff_ne]; omega
 have e26 : ((k : Int) == 26) = false := by rw [beq_eq_false_iff_ne]; omega
 have e27 : ((k : Int) == 27) = false := by rw [beq_eq_false_iff_ne]; omega
 have e29 : ((k : Int) == 29) = false := by rw [beq_eq_false_iff_ne]; omega
 have e4 : ((k : Int) == 4) = false := by rw [beq_eq_false_iff_ne]; omega
 have e23 : ((k : Int) == 23) = false := by rw [beq_eq_false_iff_ne]; omega
 have e21 : ((k : Int) == 21) = false := by rw [beq_eq_false_iff_ne]; omega
 have e22 : ((k : Int) == 22) = false := by rw [beq_eq_false_iff_ne]; omega
 have e24 : ((k : Int) == 24) = false := by rw [beq_eq_false_iff_ne]; omega
 have e30 : ((k : Int) == 30) = false := by rw [beq_eq_false_iff_ne]; omega
 have e31 : ((k : Int) == 31) = false := by rw [beq_eq_false_iff_ne]; omega
 have hnb : Bk k num = (num == 0) := by
  obtain ⟨h2, h19, h3, h5, h7, h26, h27, h29, h4, h23, h21, h22, h24, h30, h31⟩ := hk;simp [Bk, h4, h21, h22, h24, h30, h31]; rfl
 have ht : Bc k tx.data.toList = tx.data.toList.isEmpty := by obtain ⟨h2, h19, h3, h5, h7, h26, h27, h29, h4, h23, h21, h22, h24, h30, h31⟩ := hk; simp [Bc, h2, h19, h3, h5, h4, h7, h26, h27, h29, h23]
 rw [ht] at hq;clear ht;by_cases hz : 0 < tx.size
 ·have e1 : tx.data.toList.isEmpty = false := by
   rw [List.isEmpty_eq_false_iff];intro e;rw [<- Ad, e] at hz;simp at hz
  rw [e1, Bool.false_and] at hq;subst hq;clear hk hnb
  have e2 : (tx.toList == []) = false := by rw [ByteArray.toList_eq]; cases h : tx.data.toList with
   | nil => rw [h] at e1; cases e1
   | cons => rfl
  have e3 : (tx.toList != []) = true := by rw [bne, e2]; rfl
  have e4 : tx.toList.isEmpty = false := by rw [ByteArray.toList_eq]; exact e1
  clear e1;go_enter func26, ntmps26;go_wp2_with fail;go_ret;exact ⟨rfl, hA.out⟩
 ·have := Dz tx hz;subst this;clear hz;rw [show (({ data := #[] } : ByteArray).data.toList.isEmpty) = true from rfl, Bool.true_and] at hq;rw [hnb] at hq;clear hk hnb;go_enter func26, ntmps26;go_wp2_with fail;go_ret;exact ⟨rfl, hA.out⟩
theorem a5q (n : Nd) (hn : n.wf) (htx : n.text.size <= 100000) (w : World) (q : Bool) (hq : (Bc n.kind n.text.data.toList && Bk n.kind n.num) = q) : Calls prog 26 #[ndV n] w fun e w' => e = .returned (.bool q) ∧ Below w.heap.size w w' := by
 obtain ⟨k, ln, cl, sz, num, tx⟩ := n;have hnum : Bg num := hn.num;clear hn;simp only [ndV] at hq htx ⊢;by_cases h2 : k = 2
 ·subst h2;exact a5p 2 (.inl rfl) ln cl sz num tx w hnum htx q (by rw [<- hq]; simp [Bc, Bk]; try rfl)
 by_cases h19 : k = 19
 ·subst h19;exact a5p 19 (.inr rfl) ln cl sz num tx w hnum htx q (by rw [<- hq]; simp [Bc, Bk]; try rfl)
 by_cases h3 : k = 3
 ·subst h3;exact Nb 3 (.inl rfl) ln cl sz num tx w hnum htx q (by rw [<- hq]; simp [Bc, Bk]; try rfl)
 by_cases h5 : k = 5
 ·subst h5;exact Nb 5 (.inr (.inl rfl)) ln cl sz num tx w hnum htx q (by rw [<- hq]; simp [Bc, Bk]; try rfl)
 by_cases h7 : k = 7
 ·subst h7;exact Nb 7 (.inr (.inr (.inl rfl))) ln cl sz num tx w hnum htx q (by rw [<- hq]; simp [Bc, Bk]; try rfl)
 by_cases h26 : k = 26
 ·subst h26;exact Nb 26 (.inr (.inr (.inr (.inl rfl)))) ln cl sz num tx w hnum htx q (by rw [<- hq]; simp [Bc, Bk]; try rfl)
 by_cases h27 : k = 27
 ·subst h27;exact Nb 27 (.inr (.inr (.inr (.inr (.inl rfl))))) ln cl sz num tx w hnum htx q (by rw [<- hq]; simp [Bc, Bk]; try rfl)
 by_cases h29 : k = 29
 ·subst h29;exact Nb 29 (.inr (.inr (.inr (.inr (.inr rfl))))) ln cl sz num tx w hnum htx q (by rw [<- hq]; simp [Bc, Bk]; try rfl)
 by_cases h4 : k = 4
 ·subst h4;exact b5g ln cl sz num tx w hnum htx q hq
 by_cases h23 : k = 23
 ·subst h23;exact b0p ln cl sz num tx w hnum htx q hq
 by_cases h21 : k = 21
 ·subst h21;exact b0r ln cl sz num tx w hnum htx q hq
 by_cases h22 : k = 22
 ·subst h22;exact b0q ln cl sz num tx w hnum htx q hq
 by_cases h24 : k = 24
 ·subst h24;exact b0o ln cl sz num tx w hnum htx q hq
 by_cases h30 : k = 30
 ·subst h30;exact b0n ln cl sz num tx w hnum htx q hq
 by_cases h31 : k = 31
 ·subst h31;exact b0m ln cl sz num tx w hnum htx q hq
 exact a1d k ⟨h2, h19, h3, h5, h7, h26, h27, h29, h4, h23, h21, h22, h24, h30, h31⟩ ln cl sz num tx w hnum htx q hq
end
end Go.Proofs.YtoaplbljflhheaaGreat
