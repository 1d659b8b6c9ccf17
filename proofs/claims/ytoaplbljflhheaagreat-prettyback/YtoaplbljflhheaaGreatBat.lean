/-
 Contracts and plain facts on the way to PrettyBack. Conditions: as each says.
-/
import Derived.Test.YtoaplbljflhheaaGreatBaq
import Derived.Test.YtoaplbljflhheaaGreatBap
set_option maxHeartbeats 40000000
set_option maxRecDepth 100000
set_option linter.unusedVariables false
set_option linter.unusedSimpArgs false
namespace Go.Proofs.YtoaplbljflhheaaGreat
open _root_.Go.Proofs.Tryz
section
open Go.RowKit Go.Sort
def Bc (k : Nat) (t : List UInt8) : Bool :=
 if k = 2 ∨ k = 19 then Ew t else if k = 3 ∨ k = 5 ∨ k = 4 ∨ k = 7 ∨ k = 26 ∨ k = 27 ∨ k = 29 then Ed t else if k = 23 then true else t.isEmpty
def Bk (k : Nat) (z : Int) : Bool :=
 if k = 4 then true else if k = 21 then decide (0 <= z) else if k = 22 then decide (0 <= z ∧ z < 8388608) else if k = 24 then decide (z = 0 ∨ z = 1) else if k = 30 then decide (z = 12 ∨ z = 13)
 else if k = 31 then decide ((1 <= z ∧ z <= 11) ∨ z = 14 ∨ z = 15) else decide (z = 0)
theorem b7j (ln cl sz num : Int) (tx : ByteArray) (w : World) (hnum : Bg num) (q : Bool) (hq : Ew tx.data.toList = q) : Calls prog 41 #[.agg #[.int .u8 2, .int .i64 ln, .int .i64 cl, .int .i64 sz, .int .i64 num, .string tx]] w fun e w' => e = .returned (.bool q) ∧ Below w.heap.size w w' := by
 have hA := zz (Aa w (.cells #[.int .u8 2, .int .i64 ln, .int .i64 cl, .int .i64 sz, .int .i64 num, .string tx] 37));have H := zz (fun w => Q9 tx w q hq);clear hq;go_enter func41, ntmps41;go_wp2_with fail;refine (H.out _).mono ?_;rintro e w1 ⟨rfl, hb⟩;replace hb := zz (Ab hA.out hb);go_wp2_with fail;go_ret;exact ⟨rfl, hb.out⟩
theorem b3d (ln cl sz num : Int) (tx : ByteArray) (w : World) (hnum : Bg num) (q : Bool) (hq : Ew tx.data.toList = q) : Calls prog 41 #[.agg #[.int .u8 19, .int .i64 ln, .int .i64 cl, .int .i64 sz, .int .i64 num, .string tx]] w fun e w' => e = .returned (.bool q) ∧ Below w.heap.size w w' := by
 have hA := zz (Aa w (.cells #[.int .u8 19, .int .i64 ln, .int .i64 cl, .int .i64 sz, .int .i64 num, .string tx] 37));have H := zz (fun w => Q9 tx w q hq);clear hq;go_enter func41, ntmps41;go_wp2_with fail;refine (H.out _).mono ?_;rintro e w1 ⟨rfl, hb⟩;replace hb := zz (Ab hA.out hb);go_wp2_with fail;go_ret;exact ⟨rfl, hb.out⟩
theorem b7i (ln cl sz num : Int) (tx : ByteArray) (w : World) (hnum : Bg num) (q : Bool) (hq : Ed tx.data.toList = q) : Calls prog 41 #[.agg #[.int .u8 3, .int .i64 ln, .int .i64 cl, .int .i64 sz, .int .i64 num, .string tx]] w fun e w' => e = .returned (.bool q) ∧ Below w.heap.size w w' := by
 have hA := zz (Aa w (.cells #[.int .u8 3, .int .i64 ln, .int .i64 cl, .int .i64 sz, .int .i64 num, .string tx] 37));have H := zz (fun w => G8 tx w q hq);clear hq;go_enter func41, ntmps41;go_wp2_with fail;refine (H.out _).mono ?_;rintro e w1 ⟨rfl, hb⟩;replace hb := zz (Ab hA.out hb);go_wp2_with fail;go_ret;exact ⟨rfl, hb.out⟩
theorem b7g (ln cl sz num : Int) (tx : ByteArray) (w : World) (hnum : Bg num) (q : Bool) (hq : Ed tx.data.toList = q) : Calls prog 41 #[.agg #[.int .u8 5, .int .i64 ln, .int .i64 cl, .int .i64 sz, .int .i64 num, .string tx]] w fun e w' => e = .returned (.bool q) ∧ Below w.heap.size w w' := by
 have hA := zz (Aa w (.cells #[.int .u8 5, .int .i64 ln, .int .i64 cl, .int .i64 sz, .int .i64 num, .string tx] 37));have H := zz (fun w => G8 tx w q hq);clear hq;go_enter func41, ntmps41;go_wp2_with fail;refine (H.out _).mono ?_;rintro e w1 ⟨rfl, hb⟩;replace hb := zz (Ab hA.out hb);go_wp2_with fail;go_ret;exact ⟨rfl, hb.out⟩
theorem b7h (ln cl sz num : Int) (tx : ByteArray) (w : World) (hnum : Bg num) (q : Bool) (hq : Ed tx.data.toList = q) : Calls prog 41 #[.agg #[.int .u8 4, .int .i64 ln, .int .i64 cl, .int .i64 sz, .int .i64 num, .string tx]] w fun e w' => e = .returned (.bool q) ∧ Below w.heap.size w w' := by
 have hA := zz (Aa w (.cells #[.int .u8 4, .int .i64 ln, .int .i64 cl, .int .i64 sz, .int .i64 num, .string tx] 37));have H := zz (fun w => G8 tx w q hq);clear hq;go_enter func41, ntmps41;go_wp2_with fail;refine (H.out _).mono ?_;rintro e w1 ⟨rfl, hb⟩;replace hb := zz (Ab hA.out hb);go_wp2_with fail;go_ret;exact ⟨rfl, hb.out⟩
theorem b7f (ln cl sz num : Int) (tx : ByteArray) (w : World) (hnum : Bg num) (q : Bool) (hq : Ed tx.data.toList = q) : Calls prog 41 #[.agg #[.int .u8 7, .int .i64 ln, .int .i64 cl, .int .i64 sz, .int .i64 num, .string tx]] w fun e w' => e = .returned (.bool q) ∧ Below w.heap.size w w' := by
 have hA := zz (Aa w (.cells #[.int .u8 7, .int .i64 ln, .int .i64 cl, .int .i64 sz, .int .i64 num, .string tx] 37));have H := zz (fun w => G8 tx w q hq);clear hq;go_enter func41, ntmps41;go_wp2_with fail;refine (H.out _).mono ?_;rintro e w1 ⟨rfl, hb⟩;replace hb := zz (Ab hA.out hb);go_wp2_with fail;go_ret;exact ⟨rfl, hb.out⟩
theorem b3b (ln cl sz num : Int) (tx : ByteArray) (w : World) (hnum : Bg num) (q : Bool) (hq : Ed tx.data.toList = q) : Calls prog 41 #[.agg #[.int .u8 26, .int .i64 ln, .int .i64 cl, .int .i64 sz, .int .i64 num, .string tx]] w fun e w' => e = .returned (.bool q) ∧ Below w.heap.size w w' := by
 have hA := zz (Aa w (.cells #[.int .u8 26, .int .i64 ln, .int .i64 cl, .int .i64 sz, .int .i64 num, .string tx] 37));have H := zz (fun w => G8 tx w q hq);clear hq;go_enter func41, ntmps41;go_wp2_with fail;refine (H.out _).mono ?_;rintro e w1 ⟨rfl, hb⟩;replace hb := zz (Ab hA.out hb);go_wp2_with fail;go_ret;exact ⟨rfl, hb.out⟩
theorem b3a (ln cl sz num : Int) (tx : ByteArray) (w : World) (hnum : Bg num) (q : Bool) (hq : Ed tx.data.toList = q) : Calls prog 41 #[.agg #[.int .u8 27, .int .i64 ln, .int .i64 cl, .int .i64 sz, .int .i64 num, .string tx]] w fun e w' => e = .returned (.bool q) ∧ Below w.heap.size w w' := by
 have hA := zz (Aa w (.cells #[.int .u8 27, .int .i64 ln, .int .i64 cl, .int .i64 sz, .int .i64 num, .string tx] 37));have H := zz (fun w => G8 tx w q hq);clear hq;go_enter func41, ntmps41;go_wp2_with fail;refine (H.out _).mono ?_;rintro e w1 ⟨rfl, hb⟩;replace hb := zz (Ab hA.out hb);go_wp2_with fail;go_ret;exact ⟨rfl, hb.out⟩
theorem b29 (ln cl sz num : Int) (tx : ByteArray) (w : World) (hnum : Bg num) (q : Bool) (hq : Ed tx.data.toList = q) : Calls prog 41 #[.agg #[.int .u8 29, .int .i64 ln, .int .i64 cl, .int .i64 sz, .int .i64 num, .string tx]] w fun e w' => e = .returned (.bool q) ∧ Below w.heap.size w w' := by
 have hA := zz (Aa w (.cells #[.int .u8 29, .int .i64 ln, .int .i64 cl, .int .i64 sz, .int .i64 num, .string tx] 37));have H := zz (fun w => G8 tx w q hq);clear hq;go_enter func41, ntmps41;go_wp2_with fail;refine (H.out _).mono ?_;rintro e w1 ⟨rfl, hb⟩;replace hb := zz (Ab hA.out hb);go_wp2_with fail;go_ret;exact ⟨rfl, hb.out⟩
theorem b3c (ln cl sz num : Int) (tx : ByteArray) (w : World) (hnum : Bg num) (q : Bool) (hq : true = q) : Calls prog 41 #[.agg #[.int .u8 23, .int .i64 ln, .int .i64 cl, .int .i64 sz, .int .i64 num, .string tx]] w fun e w' => e = .returned (.bool q) ∧ Below w.heap.size w w' := by
 subst hq;have hA := zz (Aa w (.cells #[.int .u8 23, .int .i64 ln, .int .i64 cl, .int .i64 sz, .int .i64 num, .string tx] 37));go_enter func41, ntmps41;go_wp2_with fail;go_ret;exact ⟨rfl, hA.out⟩
theorem a2e (k : Nat) (hk : k ≠ 2 ∧ k ≠ 19 ∧ k ≠ 3 ∧ k ≠ 5 ∧ k ≠ 4 ∧ k ≠ 7 ∧ k ≠ 26 ∧ k ≠ 27 ∧ k ≠ 29 ∧ k ≠ 23) (ln cl sz num : Int) (tx : ByteArray) (w : World) (hnum : Bg num) (q : Bool) (hq : tx.data.toList.isEmpty = q) : Calls prog 41 #[.agg #[.int .u8 (k : Nat), .int .i64 ln, .int .i64 cl, .int .i64 sz, .int .i64 num, .string tx]] w fun e w' => e = .returned (.bool q) ∧ Below w.heap.size w w' := by
 have e2 : ((k : Int) == 2) = false := by rw [beq_eq_false_iff_ne]; omega
 have e19 : ((k : Int) == 19) = false := by rw [beq_eq_false_iff_ne]; omega
 have e3 : ((k : Int) == 3) = false := by rw [beq_eq_false_iff_ne]; omega
 have e5 : ((k : Int) == 5) = false := by rw [beq_eq_false_iff_ne]; omega
 have e4 : ((k : Int) == 4) = false := by rw [beq_eq_false_iff_ne]; omega
 have e7 : ((k : Int) == 7) = false := by rw [beq_eq_false_iff_ne]; omega
 have e26 : ((k : Int) == 26) = false := by rw [beq_eq_false_iff_ne]; omega
 have e27 : ((k : Int) == 27) = false := by rw [beq_eq_false_iff_ne]; omega
 have e29 : ((k : Int) == 29) = false := by rw [beq_eq_false_iff_ne]; omega
 have e23 : ((k : Int) == 23) = false := by rw [beq_eq_false_iff_ne]; omega
 clear hk;have hA := zz (Aa w (.cells #[.int .u8 (k : Nat), .int .i64 ln, .int .i64 cl, .int .i64 sz, .int .i64 num, .string tx] 37));have e1 : (tx.toList == []) = q := by rw [ByteArray.toList_eq, <- hq]; cases tx.data.toList <;> rfl
 have e3 : tx.toList.isEmpty = q := by rw [ByteArray.toList_eq, <- hq]
 clear hq;go_enter func41, ntmps41;go_wp2_with fail;go_ret;exact ⟨rfl, hA.out⟩
theorem c2b (ln cl sz num : Int) (tx : ByteArray) (w : World) (hnum : Bg num) (q : Bool) (hq : Bk 4 num = q) : Calls prog 42 #[.agg #[.int .u8 4, .int .i64 ln, .int .i64 cl, .int .i64 sz, .int .i64 num, .string tx]] w fun e w' => e = .returned (.bool q) ∧ Below w.heap.size w w' := by
 have hA := zz (Aa w (.cells #[.int .u8 4, .int .i64 ln, .int .i64 cl, .int .i64 sz, .int .i64 num, .string tx] 37));obtain rfl : q = true := by rw [<- hq]; rfl
 clear hq;go_enter func42, ntmps42;go_wp2_with fail;go_ret;exact ⟨rfl, hA.out⟩
theorem b9e (ln cl sz num : Int) (tx : ByteArray) (w : World) (hnum : Bg num) (q : Bool) (hq : Bk 21 num = q) : Calls prog 42 #[.agg #[.int .u8 21, .int .i64 ln, .int .i64 cl, .int .i64 sz, .int .i64 num, .string tx]] w fun e w' => e = .returned (.bool q) ∧ Below w.heap.size w w' := by
 have hA := zz (Aa w (.cells #[.int .u8 21, .int .i64 ln, .int .i64 cl, .int .i64 sz, .int .i64 num, .string tx] 37));by_cases a1 : 0 <= num
 ·obtain rfl : q = true := by rw [<- hq]; simp [Bk]; omega
  clear hq;go_enter func42, ntmps42;go_wp2_with fail;go_ret;exact ⟨rfl, hA.out⟩
 ·have g1 : decide (0 <= num) = false := by simpa using a1
  obtain rfl : q = false := by rw [<- hq]; simp [Bk]; omega
  clear hq;go_enter func42, ntmps42;go_wp2_with fail;go_ret;exact ⟨rfl, hA.out⟩
theorem b9d (ln cl sz num : Int) (tx : ByteArray) (w : World) (hnum : Bg num) (q : Bool) (hq : Bk 22 num = q) : Calls prog 42 #[.agg #[.int .u8 22, .int .i64 ln, .int .i64 cl, .int .i64 sz, .int .i64 num, .string tx]] w fun e w' => e = .returned (.bool q) ∧ Below w.heap.size w w' := by
 have hA := zz (Aa w (.cells #[.int .u8 22, .int .i64 ln, .int .i64 cl, .int .i64 sz, .int .i64 num, .string tx] 37));by_cases a1 : 0 <= num
 ·by_cases a2 : num < 8388608
  ·obtain rfl : q = true := by rw [<- hq]; simp [Bk]; omega
   clear hq;go_enter func42, ntmps42;go_wp2_with fail;go_ret;exact ⟨rfl, hA.out⟩
  ·have g1 : decide (num < 8388608) = false := by simpa using a2
   obtain rfl : q = false := by rw [<- hq]; simp [Bk]; omega
   clear hq;go_enter func42, ntmps42;go_wp2_with fail;go_ret;exact ⟨rfl, hA.out⟩
 ·have g1 : decide (0 <= num) = false := by simpa using a1
  obtain rfl : q = false := by rw [<- hq]; simp [Bk]; omega
  clear hq;go_enter func42, ntmps42;go_wp2_with fail;go_ret;exact ⟨rfl, hA.out⟩
theorem b9c (ln cl sz num : Int) (tx : ByteArray) (w : World) (hnum : Bg num) (q : Bool) (hq : Bk 24 num = q) : Calls prog 42 #[.agg #[.int .u8 24, .int .i64 ln, .int .i64 cl, .int .i64 sz, .int .i64 num, .string tx]] w fun e w' => e = .returned (.bool q) ∧ Below w.heap.size w w' := by
 have hA := zz (Aa w (.cells #[.int .u8 24, .int .i64 ln, .int .i64 cl, .int .i64 sz, .int .i64 num, .string tx] 37));by_cases a1 : num = 0
 ·have g1 : (num == 0) = true := by rw [a1]; rfl
  obtain rfl : q = true := by rw [<- hq]; simp [Bk]; try omega
  clear hq a1;go_enter func42, ntmps42;go_wp2_with fail;go_ret;exact ⟨rfl, hA.out⟩
 ·have g1 : (num == 0) = false := by rw [beq_eq_false_iff_ne]; exact a1
  by_cases a2 : num = 1
  ·have g2 : (num == 1) = true := by rw [a2]; rfl
   obtain rfl : q = true := by rw [<- hq]; simp [Bk]; try omega
   clear hq a2;go_enter func42, ntmps42;go_wp2_with fail;go_ret;exact ⟨rfl, hA.out⟩
  ·have g2 : (num == 1) = false := by rw [beq_eq_false_iff_ne]; exact a2
   obtain rfl : q = false := by rw [<- hq]; simp [Bk]; omega
   clear hq a1 a2;go_enter func42, ntmps42;go_wp2_with fail;go_ret;exact ⟨rfl, hA.out⟩
theorem b9b (ln cl sz num : Int) (tx : ByteArray) (w : World) (hnum : Bg num) (q : Bool) (hq : Bk 30 num = q) : Calls prog 42 #[.agg #[.int .u8 30, .int .i64 ln, .int .i64 cl, .int .i64 sz, .int .i64 num, .string tx]] w fun e w' => e = .returned (.bool q) ∧ Below w.heap.size w w' := by
 have hA := zz (Aa w (.cells #[.int .u8 30, .int .i64 ln, .int .i64 cl, .int .i64 sz, .int .i64 num, .string tx] 37));by_cases a1 : num = 12
 ·have g1 : (num == 12) = true := by rw [a1]; rfl
  obtain rfl : q = true := by rw [<- hq]; simp [Bk]; try omega
  clear hq a1;go_enter func42, ntmps42;go_wp2_with fail;go_ret;exact ⟨rfl, hA.out⟩
 ·have g1 : (num == 12) = false := by rw [beq_eq_false_iff_ne]; exact a1
  by_cases a2 : num = 13
  ·have g2 : (num == 13) = true := by rw [a2]; rfl
   obtain rfl : q = true := by rw [<- hq]; simp [Bk]; try omega
   clear hq a2;go_enter func42, ntmps42;go_wp2_with fail;go_ret;exact ⟨rfl, hA.out⟩
  ·have g2 : (num == 13) = false := by rw [beq_eq_false_iff_ne]; exact a2
   obtain rfl : q = false := by rw [<- hq]; simp [Bk]; omega
   clear hq a1 a2;go_enter func42, ntmps42;go_wp2_with fail;go_ret;exact ⟨rfl, hA.out⟩
theorem b9a (ln cl sz num : Int) (tx : ByteArray) (w : World) (hnum : Bg num) (q : Bool) (hq : Bk 31 num = q) : Calls prog 42 #[.agg #[.int .u8 31, .int .i64 ln, .int .i64 cl, .int .i64 sz, .int .i64 num, .string tx]] w fun e w' => e = .returned (.bool q) ∧ Below w.heap.size w w' := by
 have hA := zz (Aa w (.cells #[.int .u8 31, .int .i64 ln, .int .i64 cl, .int .i64 sz, .int .i64 num, .string tx] 37));by_cases a1 : 1 <= num
 ·by_cases a2 : num <= 11
  ·obtain rfl : q = true := by rw [<- hq]; simp [Bk]; omega
   clear hq;go_enter func42, ntmps42;go_wp2_with fail;go_ret;exact ⟨rfl, hA.out⟩
  ·have g2 : decide (num <= 11) = false := by simpa using a2
   by_cases b1 : num = 14
   ·have g3 : (num == 14) = true := by rw [b1]; rfl
    obtain rfl : q = true := by rw [<- hq]; simp [Bk]; omega
    clear hq b1;go_enter func42, ntmps42;go_wp2_with fail;go_ret;exact ⟨rfl, hA.out⟩
   ·have g3 : (num == 14) = false := by rw [beq_eq_false_iff_ne]; exact b1
    by_cases b2 : num = 15
    ·have g4 : (num == 15) = true := by rw [b2]; rfl
     obtain rfl : q = true := by rw [<- hq]; simp [Bk]; omega
     clear hq b2;go_enter func42, ntmps42;go_wp2_with fail;go_ret;exact ⟨rfl, hA.out⟩
    ·have g4 : (num == 15) = false := by rw [beq_eq_false_iff_ne]; exact b2
     obtain rfl : q = false := by rw [<- hq]; simp [Bk]; omega
     clear hq b1 b2;go_enter func42, ntmps42;go_wp2_with fail;go_ret;exact ⟨rfl, hA.out⟩
 ·have g1 : decide (1 <= num) = false := by simpa using a1
  by_cases b1 : num = 14
  ·have g3 : (num == 14) = true := by rw [b1]; rfl
   obtain rfl : q = true := by rw [<- hq]; simp [Bk]; omega
   clear hq b1;go_enter func42, ntmps42;go_wp2_with fail;go_ret;exact ⟨rfl, hA.out⟩
  ·have g3 : (num == 14) = false := by rw [beq_eq_false_iff_ne]; exact b1
   by_cases b2 : num = 15
   ·have g4 : (num == 15) = true := by rw [b2]; rfl
    obtain rfl : q = true := by rw [<- hq]; simp [Bk]; omega
    clear hq b2;go_enter func42, ntmps42;go_wp2_with fail;go_ret;exact ⟨rfl, hA.out⟩
   ·have g4 : (num == 15) = false := by rw [beq_eq_false_iff_ne]; exact b2
    obtain rfl : q = false := by rw [<- hq]; simp [Bk]; omega
    clear hq b1 b2;go_enter func42, ntmps42;go_wp2_with fail;go_ret;exact ⟨rfl, hA.out⟩
theorem a9a (k : Nat) (hk : k ≠ 4 ∧ k ≠ 21 ∧ k ≠ 22 ∧ k ≠ 24 ∧ k ≠ 30 ∧ k ≠ 31) (ln cl sz num : Int) (tx : ByteArray) (w : World) (hnum : Bg num) (q : Bool) (hq : (num == 0) = q) : Calls prog 42 #[.agg #[.int .u8 (k : Nat), .int .i64 ln, .int .i64 cl, .int .i64 sz, .int .i64 num, .string tx]] w fun e w' => e = .returned (.bool q) ∧ Below w.heap.size w w' := by
 have e4 : ((k : Int) == 4) = false := by rw [beq_eq_false_iff_ne]; omega
 have e21 : ((k : Int) == 21) = false := by rw [beq_eq_false_iff_ne]; omega
 have e22 : ((k : Int) == 22) = false := by rw [beq_eq_false_iff_ne]; omega
 have e24 : ((k : Int) == 24) = false := by rw [beq_eq_false_iff_ne]; omega
 have e30 : ((k : Int) == 30) = false := by rw [beq_eq_false_iff_ne]; omega
 have e31 : ((k : Int) == 31) = false := by rw [beq_eq_false_iff_ne]; omega
 clear hk;have hA := zz (Aa w (.cells #[.int .u8 (k : Nat), .int .i64 ln, .int .i64 cl, .int .i64 sz, .int .i64 num, .string tx] 37));go_enter func42, ntmps42;go_wp2_with fail;go_ret;exact ⟨rfl, hA.out⟩
theorem Lq (n : Nd) (hn : n.wf) (w : World) (q : Bool) (hq : Bc n.kind n.text.data.toList = q) : Calls prog 41 #[ndV n] w fun e w' => e = .returned (.bool q) ∧ Below w.heap.size w w' := by
 obtain ⟨k, ln, cl, sz, num, tx⟩ := n;have hnum : Bg num := hn.num;clear hn;simp only [ndV] at hq ⊢;by_cases h2 : k = 2
 ·subst h2;exact b7j ln cl sz num tx w hnum q hq
 by_cases h19 : k = 19
 ·subst h19;exact b3d ln cl sz num tx w hnum q hq
 by_cases h3 : k = 3
 ·subst h3;exact b7i ln cl sz num tx w hnum q hq
 by_cases h5 : k = 5
 ·subst h5;exact b7g ln cl sz num tx w hnum q hq
 by_cases h4 : k = 4
 ·subst h4;exact b7h ln cl sz num tx w hnum q hq
 by_cases h7 : k = 7
 ·subst h7;exact b7f ln cl sz num tx w hnum q hq
 by_cases h26 : k = 26
 ·subst h26;exact b3b ln cl sz num tx w hnum q hq
 by_cases h27 : k = 27
 ·subst h27;exact b3a ln cl sz num tx w hnum q hq
 by_cases h29 : k = 29
 ·subst h29;exact b29 ln cl sz num tx w hnum q hq
 by_cases h23 : k = 23
 ·subst h23;exact b3c ln cl sz num tx w hnum q hq
 unfold Bc at hq;rw [if_neg (by omega), if_neg (by omega), if_neg (by omega)] at hq;exact a2e k ⟨h2, h19, h3, h5, h4, h7, h26, h27, h29, h23⟩ ln cl sz num tx w hnum q hq
theorem Rn (n : Nd) (hn : n.wf) (w : World) (q : Bool) (hq : Bk n.kind n.num = q) : Calls prog 42 #[ndV n] w fun e w' => e = .returned (.bool q) ∧ Below w.heap.size w w' := by
 obtain ⟨k, ln, cl, sz, num, tx⟩ := n;have hnum : Bg num := hn.num;clear hn;simp only [ndV] at hq ⊢;by_cases h4 : k = 4
 ·subst h4;exact c2b ln cl sz num tx w hnum q hq
 by_cases h21 : k = 21
 ·subst h21;exact b9e ln cl sz num tx w hnum q hq
 by_cases h22 : k = 22
 ·subst h22;exact b9d ln cl sz num tx w hnum q hq
 by_cases h24 : k = 24
 ·subst h24;exact b9c ln cl sz num tx w hnum q hq
 by_cases h30 : k = 30
 ·subst h30;exact b9b ln cl sz num tx w hnum q hq
 by_cases h31 : k = 31
 ·subst h31;exact b9a ln cl sz num tx w hnum q hq
 exact a9a k ⟨h4, h21, h22, h24, h30, h31⟩ ln cl sz num tx w hnum q (by rw [<- hq]; simp [Bk, h4, h21, h22, h24, h30, h31]; rfl)
theorem a6p (n : Nd) (hn : n.wf) (w : World) : Calls prog 44 #[ndV n] w (c2z w (Hl n.kind n.num)) := by
 obtain ⟨k, ln, cl, sz, num, tx⟩ := n;have hnum : Bg num := hn.num;clear hn;simp only [ndV];by_cases hk : (k : Int) = 1 ∨ (k : Int) = 2 ∨ (k : Int) = 3 ∨ (k : Int) = 5 ∨ (k : Int) = 20 ∨ (k : Int) = 4 ∨ (k : Int) = 6 ∨ (k : Int) = 7 ∨ (k : Int) = 8 ∨ (k : Int) = 9 ∨ (k : Int) = 10 ∨ (k : Int) = 11 ∨ (k : Int) = 13 ∨ (k : Int) = 27 ∨ (k : Int) = 12 ∨ (k : Int) = 29 ∨ (k : Int) = 30 ∨ (k : Int) = 28 ∨ (k : Int) = 31 ∨ (k : Int) = 32
 ·have := a6o k hk ln cl sz num tx w hnum
  rwa [Int.toNat_natCast] at this
 have e : Hl k num = Ak [] := by
  unfold Hl;split <;> first | rfl | omega
 rw [e];exact a1o k (by omega) ln cl sz num tx w hnum
end
section
def Qy (k : Nat) (num : Int) (j c : Nat) : Prop := 2 <= c ∧ c <= 32 ∧ (¬ (k = 4 ∧ j = num.toNat ∧ c = 14) -> c ≠ 14)
theorem S2 {k : Nat} {num : Int} {j c : Nat} (h1 : 2 <= c) (h2 : c <= 32) (h3 : c ≠ 14) : Qy k num j c := ⟨h1, h2, fun _ => h3⟩
theorem Ex {k : Nat} {num : Int} {j c : Nat} (h : Ck c = true) : Qy k num j c := by
 simp [Ck] at h;exact S2 (by omega) (by omega) (by omega)
theorem Dy {k : Nat} {num : Int} {j c : Nat} (h : Am c = true) : Qy k num j c := by
 simp [Am] at h;exact S2 (by omega) (by omega) (by omega)
theorem a5e {k : Nat} {num : Int} {j c : Nat} (h : Dt c = true) : Qy k num j c := by
 simp [Dt] at h;exact S2 (by omega) (by omega) (by omega)
theorem Ey {k : Nat} {num : Int} {j c : Nat} {l : List Nat} (hl : (l.all fun c => decide (2 <= c) && decide (c <= 32) && decide (c ≠ 14)) = true) (h : l.contains c = true) : Qy k num j c := by
 have := List.all_eq_true.1 hl c (by simpa using h);simp at this;exact S2 (by omega) (by omega) (by omega)
theorem Cb {p : List (Nat -> Bool)} {ks : List Nat} (h : Ak p ks = true) {i : Nat} (hi : i < p.length) : (p.getD i fun _ => false) (ks.getD i 0) = true := by
 rw [Ak, Bool.and_eq_true] at h;exact List.all_eq_true.1 h.2 i (List.mem_range.2 hi)
theorem Dr {p : List (Nat -> Bool)} {ks : List Nat} (h : Ak p ks = true) : ks.length = p.length := by
 rw [Ak, Bool.and_eq_true, decide_eq_true_eq] at h;exact h.1
theorem Qi {f : Nat -> Bool} {ks : List Nat} (h : ks.all f = true) {j : Nat} (hj : j < ks.length) : f (ks.getD j 0) = true := by
 rw [List.getD_eq_getElem?_getD, List.getElem?_eq_getElem hj];exact List.all_eq_true.1 h _ (List.getElem_mem hj)
theorem Br {k : Nat} {num : Int} {p : List (Nat -> Bool)} {ks : List Nat} (h : Ak p ks = true) {j : Nat} (hj : j < ks.length) (hp : ∀ f ∈ p, ∀ c, f c = true -> Qy k num j c) : Qy k num j (ks.getD j 0) := by
 have hl := Dr h;have hjp : j < p.length := by omega
 have := Cb h hjp;rw [List.getD_eq_getElem?_getD, List.getElem?_eq_getElem hjp] at this;exact hp _ (List.getElem_mem hjp) _ this
theorem b1n {k : Nat} {num : Int} {ks : List Nat} (h : Hl k num ks = true) {j : Nat} (hj : j < ks.length) : Qy k num j (ks.getD j 0) := by
 unfold Hl at h;split at h
 ·exact Ey (by decide) (Qi h hj)
 ·exact Ey (by decide) (Qi h hj)
 ·exact Br h hj (by simp only [List.mem_cons, List.not_mem_nil, or_false]; rintro f rfl c; exact Ex)
 ·exact Br h hj (by simp only [List.mem_cons, List.not_mem_nil, or_false]; rintro f rfl c; exact Ex)
 ·exact Br h hj (by simp only [List.mem_cons, List.not_mem_nil, or_false]; rintro f rfl c; exact Ex)
 ·rw [Iu, Bool.and_eq_true, Bool.and_eq_true, decide_eq_true_eq] at h;obtain ⟨h1, h2, h3⟩ := h;have hl := Dr h3;rw [List.length_drop] at hl;simp only [List.length_cons, List.length_nil] at hl;by_cases hn : j < num.toNat
  ·have := Qi (ks := ks.take num.toNat) h2 (j := j) (by rw [List.length_take]; omega);rw [List.getD_eq_getElem?_getD, List.getElem?_take_of_lt hn, <- List.getD_eq_getElem?_getD] at this;exact Ey (by decide) this
  ·have e : ∀ i, (ks.drop num.toNat).getD i 0 = ks.getD (num.toNat + i) 0 := fun i => by rw [List.getD_eq_getElem?_getD, List.getElem?_drop, <- List.getD_eq_getElem?_getD]
   by_cases hn2 : j = num.toNat
   ·have := Cb h3 (i := 0) (by simp);rw [e, Nat.add_zero, <- hn2] at this;have this : Fi (ks.getD j 0) = true := this;simp [Fi] at this;simp only [List.getD_eq_getElem?_getD] at this ⊢;exact ⟨by omega, by omega, fun hh hc => hh ⟨rfl, hn2, hc⟩⟩
   ·have := Cb h3 (i := 1) (by simp);rw [e, show num.toNat + 1 = j by omega] at this;exact Ey (l := [6]) (by decide) this
 ·exact a5e (Qi h hj)
 ·exact Br h hj (by simp only [List.mem_cons, List.not_mem_nil, or_false]; rintro f (rfl | rfl) c <;> first | exact Ex | exact Dy | exact Ey (by decide))
 ·exact Br h hj (by simp only [List.mem_cons, List.not_mem_nil, or_false]; rintro f (rfl | rfl) c <;> first | exact Ex | exact Dy | exact Ey (by decide))
 ·rw [Bool.or_eq_true] at h;rcases h with h | h
  ·exact Br h hj (by simp only [List.mem_cons, List.not_mem_nil, or_false]; rintro f (rfl | rfl) c <;> first | exact Ex | exact Dy | exact Ey (by decide))
  ·exact Br h hj (by simp only [List.mem_cons, List.not_mem_nil, or_false]; rintro f (rfl | rfl | rfl) c <;> first | exact Ex | exact Dy | exact Ey (by decide))
 ·exact Br h hj (by simp only [List.mem_cons, List.not_mem_nil, or_false]; rintro f (rfl | rfl) c <;> first | exact Ex | exact Dy | exact Ey (by decide))
 ·rw [Bool.or_eq_true] at h;rcases h with h | h
  ·exact Br h hj (by intro f hf; cases hf)
  ·exact Br h hj (by simp only [List.mem_cons, List.not_mem_nil, or_false]; rintro f rfl c; exact Dy)
 ·exact Br h hj (by simp only [List.mem_cons, List.not_mem_nil, or_false]; rintro f rfl c; exact Ey (by decide))
 ·exact Dy (Qi h hj)
 ·exact Br h hj (by simp only [List.mem_cons, List.not_mem_nil, or_false]; rintro f rfl c; exact Dy)
 ·exact Br h hj (by simp only [List.mem_cons, List.not_mem_nil, or_false]; rintro f rfl c; exact Dy)
 ·exact Br h hj (by simp only [List.mem_cons, List.not_mem_nil, or_false]; rintro f rfl c; exact Dy)
 ·exact Br h hj (by simp only [List.mem_cons, List.not_mem_nil, or_false]; rintro f (rfl | rfl) c <;> first | exact Ex | exact Dy | exact Ey (by decide))
 ·exact Br h hj (by simp only [List.mem_cons, List.not_mem_nil, or_false]; rintro f (rfl | rfl) c <;> first | exact Ex | exact Dy | exact Ey (by decide))
 ·rw [Bool.or_eq_true] at h;rcases h with h | h
  ·exact Br h hj (by simp only [List.mem_cons, List.not_mem_nil, or_false]; rintro f rfl c; exact Ey (by decide))
  ·exact Br h hj (by simp only [List.mem_cons, List.not_mem_nil, or_false]; rintro f (rfl | rfl) c <;> first | exact Ex | exact Dy | exact Ey (by decide))
 ·exact Br h hj (by intro f hf; cases hf)
end
end Go.Proofs.YtoaplbljflhheaaGreat
