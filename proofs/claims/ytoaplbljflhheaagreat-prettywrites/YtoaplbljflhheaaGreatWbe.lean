/-
 Contracts and plain facts on the way to PrettyWrites. Conditions: as each says.
-/
import Derived.Test.YtoaplbljflhheaaGreatWba
set_option maxHeartbeats 40000000
set_option maxRecDepth 100000
set_option linter.unusedVariables false
set_option linter.unusedSimpArgs false
namespace Go.Proofs.YtoaplbljflhheaaGreat
open Go.RowKit Go.Sort
theorem a7z (ln cl sz num : Int) (tx : ByteArray) (w : World) (hnum : Ax num) (htx : tx.size ≤ 100000) (q : Bool) (hq : (Bg 2 tx.data.toList && Bp 2 num) = q) : Calls Tryz.prog 26 #[.agg #[.int .u8 2, .int .i64 ln, .int .i64 cl, .int .i64 sz, .int .i64 num, .string tx]] w fun e w' => e = .returned (.bool q) ∧ Below w.heap.size w w' := by
 have hA := zz (Aa w (.cells #[.int .u8 2, .int .i64 ln, .int .i64 cl, .int .i64 sz, .int .i64 num, .string tx] 37))
 have hn : Bp 2 num = (num == 0) := by simp [Bp]; rfl
 have ht : Bg 2 tx.data.toList = Gc tx.data.toList := by simp [Bg]
 rw [hn, ht] at hq
 have H := zz (fun w => L6 tx w htx)
 cases h1 : Gc tx.data.toList with
 | false =>
  rw [h1, Bool.false_and] at hq
  subst hq
  replace h1 := zz h1
  clear hn ht
  go_enter Tryz.func26, Tryz.ntmps26
  go_wp2_with fail
  refine (H.out _ false h1.out).mono ?_
  rintro e w1 ⟨rfl, hb⟩
  replace hb := zz (Ab hA.out hb)
  go_wp2_with fail
  go_ret
  exact ⟨rfl, hb.out⟩
 | true =>
  rw [h1, Bool.true_and] at hq
  replace h1 := zz h1
  clear hn ht
  go_enter Tryz.func26, Tryz.ntmps26
  go_wp2_with fail
  refine (H.out _ true h1.out).mono ?_
  rintro e w1 ⟨rfl, hb⟩
  have d4 : w1.cell? ⟨w.heap.size, 4, none⟩ = some (.int .i64 num) := Ad hb (by simp [go_sem])
  replace hb := zz (Ab hA.out hb)
  go_wp2_with fail
  go_ret
  exact ⟨rfl, hb.out⟩
theorem a3o (ln cl sz num : Int) (tx : ByteArray) (w : World) (hnum : Ax num) (htx : tx.size ≤ 100000) (q : Bool) (hq : (Bg 19 tx.data.toList && Bp 19 num) = q) : Calls Tryz.prog 26 #[.agg #[.int .u8 19, .int .i64 ln, .int .i64 cl, .int .i64 sz, .int .i64 num, .string tx]] w fun e w' => e = .returned (.bool q) ∧ Below w.heap.size w w' := by
 have hA := zz (Aa w (.cells #[.int .u8 19, .int .i64 ln, .int .i64 cl, .int .i64 sz, .int .i64 num, .string tx] 37))
 have hn : Bp 19 num = (num == 0) := by simp [Bp]; rfl
 have ht : Bg 19 tx.data.toList = Gc tx.data.toList := by simp [Bg]
 rw [hn, ht] at hq
 have H := zz (fun w => L6 tx w htx)
 cases h1 : Gc tx.data.toList with
 | false =>
  rw [h1, Bool.false_and] at hq
  subst hq
  replace h1 := zz h1
  clear hn ht
  go_enter Tryz.func26, Tryz.ntmps26
  go_wp2_with fail
  refine (H.out _ false h1.out).mono ?_
  rintro e w1 ⟨rfl, hb⟩
  replace hb := zz (Ab hA.out hb)
  go_wp2_with fail
  go_ret
  exact ⟨rfl, hb.out⟩
 | true =>
  rw [h1, Bool.true_and] at hq
  replace h1 := zz h1
  clear hn ht
  go_enter Tryz.func26, Tryz.ntmps26
  go_wp2_with fail
  refine (H.out _ true h1.out).mono ?_
  rintro e w1 ⟨rfl, hb⟩
  have d4 : w1.cell? ⟨w.heap.size, 4, none⟩ = some (.int .i64 num) := Ad hb (by simp [go_sem])
  replace hb := zz (Ab hA.out hb)
  go_wp2_with fail
  go_ret
  exact ⟨rfl, hb.out⟩
theorem a7y (ln cl sz num : Int) (tx : ByteArray) (w : World) (hnum : Ax num) (htx : tx.size ≤ 100000) (q : Bool) (hq : (Bg 3 tx.data.toList && Bp 3 num) = q) : Calls Tryz.prog 26 #[.agg #[.int .u8 3, .int .i64 ln, .int .i64 cl, .int .i64 sz, .int .i64 num, .string tx]] w fun e w' => e = .returned (.bool q) ∧ Below w.heap.size w w' := by
 have hA := zz (Aa w (.cells #[.int .u8 3, .int .i64 ln, .int .i64 cl, .int .i64 sz, .int .i64 num, .string tx] 37))
 have hn : Bp 3 num = (num == 0) := by simp [Bp]; rfl
 have ht : Bg 3 tx.data.toList = Dm tx.data.toList := by simp [Bg]
 rw [hn, ht] at hq
 have H := zz (fun w => Eb tx w htx)
 cases h1 : Dm tx.data.toList with
 | false =>
  rw [h1, Bool.false_and] at hq
  subst hq
  replace h1 := zz h1
  clear hn ht
  go_enter Tryz.func26, Tryz.ntmps26
  go_wp2_with fail
  refine (H.out _ false h1.out).mono ?_
  rintro e w1 ⟨rfl, hb⟩
  replace hb := zz (Ab hA.out hb)
  go_wp2_with fail
  go_ret
  exact ⟨rfl, hb.out⟩
 | true =>
  rw [h1, Bool.true_and] at hq
  replace h1 := zz h1
  clear hn ht
  go_enter Tryz.func26, Tryz.ntmps26
  go_wp2_with fail
  refine (H.out _ true h1.out).mono ?_
  rintro e w1 ⟨rfl, hb⟩
  have d4 : w1.cell? ⟨w.heap.size, 4, none⟩ = some (.int .i64 num) := Ad hb (by simp [go_sem])
  replace hb := zz (Ab hA.out hb)
  go_wp2_with fail
  go_ret
  exact ⟨rfl, hb.out⟩
theorem a7w (ln cl sz num : Int) (tx : ByteArray) (w : World) (hnum : Ax num) (htx : tx.size ≤ 100000) (q : Bool) (hq : (Bg 5 tx.data.toList && Bp 5 num) = q) : Calls Tryz.prog 26 #[.agg #[.int .u8 5, .int .i64 ln, .int .i64 cl, .int .i64 sz, .int .i64 num, .string tx]] w fun e w' => e = .returned (.bool q) ∧ Below w.heap.size w w' := by
 have hA := zz (Aa w (.cells #[.int .u8 5, .int .i64 ln, .int .i64 cl, .int .i64 sz, .int .i64 num, .string tx] 37))
 have hn : Bp 5 num = (num == 0) := by simp [Bp]; rfl
 have ht : Bg 5 tx.data.toList = Dm tx.data.toList := by simp [Bg]
 rw [hn, ht] at hq
 have H := zz (fun w => Eb tx w htx)
 cases h1 : Dm tx.data.toList with
 | false =>
  rw [h1, Bool.false_and] at hq
  subst hq
  replace h1 := zz h1
  clear hn ht
  go_enter Tryz.func26, Tryz.ntmps26
  go_wp2_with fail
  refine (H.out _ false h1.out).mono ?_
  rintro e w1 ⟨rfl, hb⟩
  replace hb := zz (Ab hA.out hb)
  go_wp2_with fail
  go_ret
  exact ⟨rfl, hb.out⟩
 | true =>
  rw [h1, Bool.true_and] at hq
  replace h1 := zz h1
  clear hn ht
  go_enter Tryz.func26, Tryz.ntmps26
  go_wp2_with fail
  refine (H.out _ true h1.out).mono ?_
  rintro e w1 ⟨rfl, hb⟩
  have d4 : w1.cell? ⟨w.heap.size, 4, none⟩ = some (.int .i64 num) := Ad hb (by simp [go_sem])
  replace hb := zz (Ab hA.out hb)
  go_wp2_with fail
  go_ret
  exact ⟨rfl, hb.out⟩
theorem a7v (ln cl sz num : Int) (tx : ByteArray) (w : World) (hnum : Ax num) (htx : tx.size ≤ 100000) (q : Bool) (hq : (Bg 7 tx.data.toList && Bp 7 num) = q) : Calls Tryz.prog 26 #[.agg #[.int .u8 7, .int .i64 ln, .int .i64 cl, .int .i64 sz, .int .i64 num, .string tx]] w fun e w' => e = .returned (.bool q) ∧ Below w.heap.size w w' := by
 have hA := zz (Aa w (.cells #[.int .u8 7, .int .i64 ln, .int .i64 cl, .int .i64 sz, .int .i64 num, .string tx] 37))
 have hn : Bp 7 num = (num == 0) := by simp [Bp]; rfl
 have ht : Bg 7 tx.data.toList = Dm tx.data.toList := by simp [Bg]
 rw [hn, ht] at hq
 have H := zz (fun w => Eb tx w htx)
 cases h1 : Dm tx.data.toList with
 | false =>
  rw [h1, Bool.false_and] at hq
  subst hq
  replace h1 := zz h1
  clear hn ht
  go_enter Tryz.func26, Tryz.ntmps26
  go_wp2_with fail
  refine (H.out _ false h1.out).mono ?_
  rintro e w1 ⟨rfl, hb⟩
  replace hb := zz (Ab hA.out hb)
  go_wp2_with fail
  go_ret
  exact ⟨rfl, hb.out⟩
 | true =>
  rw [h1, Bool.true_and] at hq
  replace h1 := zz h1
  clear hn ht
  go_enter Tryz.func26, Tryz.ntmps26
  go_wp2_with fail
  refine (H.out _ true h1.out).mono ?_
  rintro e w1 ⟨rfl, hb⟩
  have d4 : w1.cell? ⟨w.heap.size, 4, none⟩ = some (.int .i64 num) := Ad hb (by simp [go_sem])
  replace hb := zz (Ab hA.out hb)
  go_wp2_with fail
  go_ret
  exact ⟨rfl, hb.out⟩
theorem a3j (ln cl sz num : Int) (tx : ByteArray) (w : World) (hnum : Ax num) (htx : tx.size ≤ 100000) (q : Bool) (hq : (Bg 26 tx.data.toList && Bp 26 num) = q) : Calls Tryz.prog 26 #[.agg #[.int .u8 26, .int .i64 ln, .int .i64 cl, .int .i64 sz, .int .i64 num, .string tx]] w fun e w' => e = .returned (.bool q) ∧ Below w.heap.size w w' := by
 have hA := zz (Aa w (.cells #[.int .u8 26, .int .i64 ln, .int .i64 cl, .int .i64 sz, .int .i64 num, .string tx] 37))
 have hn : Bp 26 num = (num == 0) := by simp [Bp]; rfl
 have ht : Bg 26 tx.data.toList = Dm tx.data.toList := by simp [Bg]
 rw [hn, ht] at hq
 have H := zz (fun w => Eb tx w htx)
 cases h1 : Dm tx.data.toList with
 | false =>
  rw [h1, Bool.false_and] at hq
  subst hq
  replace h1 := zz h1
  clear hn ht
  go_enter Tryz.func26, Tryz.ntmps26
  go_wp2_with fail
  refine (H.out _ false h1.out).mono ?_
  rintro e w1 ⟨rfl, hb⟩
  replace hb := zz (Ab hA.out hb)
  go_wp2_with fail
  go_ret
  exact ⟨rfl, hb.out⟩
 | true =>
  rw [h1, Bool.true_and] at hq
  replace h1 := zz h1
  clear hn ht
  go_enter Tryz.func26, Tryz.ntmps26
  go_wp2_with fail
  refine (H.out _ true h1.out).mono ?_
  rintro e w1 ⟨rfl, hb⟩
  have d4 : w1.cell? ⟨w.heap.size, 4, none⟩ = some (.int .i64 num) := Ad hb (by simp [go_sem])
  replace hb := zz (Ab hA.out hb)
  go_wp2_with fail
  go_ret
  exact ⟨rfl, hb.out⟩
theorem a3i (ln cl sz num : Int) (tx : ByteArray) (w : World) (hnum : Ax num) (htx : tx.size ≤ 100000) (q : Bool) (hq : (Bg 27 tx.data.toList && Bp 27 num) = q) : Calls Tryz.prog 26 #[.agg #[.int .u8 27, .int .i64 ln, .int .i64 cl, .int .i64 sz, .int .i64 num, .string tx]] w fun e w' => e = .returned (.bool q) ∧ Below w.heap.size w w' := by
 have hA := zz (Aa w (.cells #[.int .u8 27, .int .i64 ln, .int .i64 cl, .int .i64 sz, .int .i64 num, .string tx] 37))
 have hn : Bp 27 num = (num == 0) := by simp [Bp]; rfl
 have ht : Bg 27 tx.data.toList = Dm tx.data.toList := by simp [Bg]
 rw [hn, ht] at hq
 have H := zz (fun w => Eb tx w htx)
 cases h1 : Dm tx.data.toList with
 | false =>
  rw [h1, Bool.false_and] at hq
  subst hq
  replace h1 := zz h1
  clear hn ht
  go_enter Tryz.func26, Tryz.ntmps26
  go_wp2_with fail
  refine (H.out _ false h1.out).mono ?_
  rintro e w1 ⟨rfl, hb⟩
  replace hb := zz (Ab hA.out hb)
  go_wp2_with fail
  go_ret
  exact ⟨rfl, hb.out⟩
 | true =>
  rw [h1, Bool.true_and] at hq
  replace h1 := zz h1
  clear hn ht
  go_enter Tryz.func26, Tryz.ntmps26
  go_wp2_with fail
  refine (H.out _ true h1.out).mono ?_
  rintro e w1 ⟨rfl, hb⟩
  have d4 : w1.cell? ⟨w.heap.size, 4, none⟩ = some (.int .i64 num) := Ad hb (by simp [go_sem])
  replace hb := zz (Ab hA.out hb)
  go_wp2_with fail
  go_ret
  exact ⟨rfl, hb.out⟩
theorem a3h (ln cl sz num : Int) (tx : ByteArray) (w : World) (hnum : Ax num) (htx : tx.size ≤ 100000) (q : Bool) (hq : (Bg 29 tx.data.toList && Bp 29 num) = q) : Calls Tryz.prog 26 #[.agg #[.int .u8 29, .int .i64 ln, .int .i64 cl, .int .i64 sz, .int .i64 num, .string tx]] w fun e w' => e = .returned (.bool q) ∧ Below w.heap.size w w' := by
 have hA := zz (Aa w (.cells #[.int .u8 29, .int .i64 ln, .int .i64 cl, .int .i64 sz, .int .i64 num, .string tx] 37))
 have hn : Bp 29 num = (num == 0) := by simp [Bp]; rfl
 have ht : Bg 29 tx.data.toList = Dm tx.data.toList := by simp [Bg]
 rw [hn, ht] at hq
 have H := zz (fun w => Eb tx w htx)
 cases h1 : Dm tx.data.toList with
 | false =>
  rw [h1, Bool.false_and] at hq
  subst hq
  replace h1 := zz h1
  clear hn ht
  go_enter Tryz.func26, Tryz.ntmps26
  go_wp2_with fail
  refine (H.out _ false h1.out).mono ?_
  rintro e w1 ⟨rfl, hb⟩
  replace hb := zz (Ab hA.out hb)
  go_wp2_with fail
  go_ret
  exact ⟨rfl, hb.out⟩
 | true =>
  rw [h1, Bool.true_and] at hq
  replace h1 := zz h1
  clear hn ht
  go_enter Tryz.func26, Tryz.ntmps26
  go_wp2_with fail
  refine (H.out _ true h1.out).mono ?_
  rintro e w1 ⟨rfl, hb⟩
  have d4 : w1.cell? ⟨w.heap.size, 4, none⟩ = some (.int .i64 num) := Ad hb (by simp [go_sem])
  replace hb := zz (Ab hA.out hb)
  go_wp2_with fail
  go_ret
  exact ⟨rfl, hb.out⟩
theorem a7x (ln cl sz num : Int) (tx : ByteArray) (w : World) (hnum : Ax num) (htx : tx.size ≤ 100000) (q : Bool) (hq : (Bg 4 tx.data.toList && Bp 4 num) = q) : Calls Tryz.prog 26 #[.agg #[.int .u8 4, .int .i64 ln, .int .i64 cl, .int .i64 sz, .int .i64 num, .string tx]] w fun e w' => e = .returned (.bool q) ∧ Below w.heap.size w w' := by
 have hA := zz (Aa w (.cells #[.int .u8 4, .int .i64 ln, .int .i64 cl, .int .i64 sz, .int .i64 num, .string tx] 37))
 have hq' : Dm tx.data.toList = q := by rw [← hq]; simp [Bp, Bg]
 have H := zz (fun w => Eb tx w htx q hq')
 clear hq hq'
 go_enter Tryz.func26, Tryz.ntmps26
 go_wp2_with fail
 refine (H.out _).mono ?_
 rintro e w1 ⟨rfl, hb⟩
 replace hb := zz (Ab hA.out hb)
 go_wp2_with fail
 go_ret
 exact ⟨rfl, hb.out⟩
theorem a3l (ln cl sz num : Int) (tx : ByteArray) (w : World) (hnum : Ax num) (htx : tx.size ≤ 100000) (q : Bool) (hq : (Bg 23 tx.data.toList && Bp 23 num) = q) : Calls Tryz.prog 26 #[.agg #[.int .u8 23, .int .i64 ln, .int .i64 cl, .int .i64 sz, .int .i64 num, .string tx]] w fun e w' => e = .returned (.bool q) ∧ Below w.heap.size w w' := by
 have hA := zz (Aa w (.cells #[.int .u8 23, .int .i64 ln, .int .i64 cl, .int .i64 sz, .int .i64 num, .string tx] 37))
 have hq' : (num == 0) = q := by rw [← hq]; simp [Bp, Bg]; rfl
 clear hq
 go_enter Tryz.func26, Tryz.ntmps26
 go_wp2_with fail
 go_ret
 exact ⟨rfl, hA.out⟩
theorem a3n (ln cl sz num : Int) (tx : ByteArray) (w : World) (hnum : Ax num) (htx : tx.size ≤ 100000) (q : Bool) (hq : (Bg 21 tx.data.toList && Bp 21 num) = q) : Calls Tryz.prog 26 #[.agg #[.int .u8 21, .int .i64 ln, .int .i64 cl, .int .i64 sz, .int .i64 num, .string tx]] w fun e w' => e = .returned (.bool q) ∧ Below w.heap.size w w' := by
 have hA := zz (Aa w (.cells #[.int .u8 21, .int .i64 ln, .int .i64 cl, .int .i64 sz, .int .i64 num, .string tx] 37))
 have ht : Bg 21 tx.data.toList = tx.data.toList.isEmpty := by simp [Bg]
 rw [ht] at hq
 clear ht
 by_cases hz : 0 < tx.size
 ·have e1 : tx.data.toList.isEmpty = false := by
   rw [List.isEmpty_eq_false_iff]
   intro e
   rw [← Ae, e] at hz
   simp at hz
  rw [e1, Bool.false_and] at hq
  subst hq
  have e2 : (tx.toList == []) = false := by rw [ByteArray.toList_eq]; cases h : tx.data.toList with
   | nil => rw [h] at e1; cases e1
   | cons => rfl
  have e3 : (tx.toList != []) = true := by rw [bne, e2]; rfl
  have e4 : tx.toList.isEmpty = false := by rw [ByteArray.toList_eq]; exact e1
  clear e1
  go_enter Tryz.func26, Tryz.ntmps26
  go_wp2_with fail
  go_ret
  exact ⟨rfl, hA.out⟩
 ·have := Co tx hz
  subst this
  clear hz
  rw [show (({ data := #[] } : ByteArray).data.toList.isEmpty) = true from rfl, Bool.true_and] at hq
  by_cases a1 : 0 ≤ num
  ·obtain rfl : q = true := by rw [← hq]; simp [Bp]; omega
   clear hq
   go_enter Tryz.func26, Tryz.ntmps26
   go_wp2_with fail
   go_ret
   exact ⟨rfl, hA.out⟩
  ·have g1 : decide (0 ≤ num) = false := by simpa using a1
   obtain rfl : q = false := by rw [← hq]; simp [Bp]; omega
   clear hq
   go_enter Tryz.func26, Tryz.ntmps26
   go_wp2_with fail
   go_ret
   exact ⟨rfl, hA.out⟩
theorem a3m (ln cl sz num : Int) (tx : ByteArray) (w : World) (hnum : Ax num) (htx : tx.size ≤ 100000) (q : Bool) (hq : (Bg 22 tx.data.toList && Bp 22 num) = q) : Calls Tryz.prog 26 #[.agg #[.int .u8 22, .int .i64 ln, .int .i64 cl, .int .i64 sz, .int .i64 num, .string tx]] w fun e w' => e = .returned (.bool q) ∧ Below w.heap.size w w' := by
 have hA := zz (Aa w (.cells #[.int .u8 22, .int .i64 ln, .int .i64 cl, .int .i64 sz, .int .i64 num, .string tx] 37))
 have ht : Bg 22 tx.data.toList = tx.data.toList.isEmpty := by simp [Bg]
 rw [ht] at hq
 clear ht
 by_cases hz : 0 < tx.size
 ·have e1 : tx.data.toList.isEmpty = false := by
   rw [List.isEmpty_eq_false_iff]
   intro e
   rw [← Ae, e] at hz
   simp at hz
  rw [e1, Bool.false_and] at hq
  subst hq
  have e2 : (tx.toList == []) = false := by rw [ByteArray.toList_eq]; cases h : tx.data.toList with
   | nil => rw [h] at e1; cases e1
   | cons => rfl
  have e3 : (tx.toList != []) = true := by rw [bne, e2]; rfl
  have e4 : tx.toList.isEmpty = false := by rw [ByteArray.toList_eq]; exact e1
  clear e1
  go_enter Tryz.func26, Tryz.ntmps26
  go_wp2_with fail
  go_ret
  exact ⟨rfl, hA.out⟩
 ·have := Co tx hz
  subst this
  clear hz
  rw [show (({ data := #[] } : ByteArray).data.toList.isEmpty) = true from rfl, Bool.true_and] at hq
  by_cases a1 : 0 ≤ num
  ·by_cases a2 : num < 8388608
   ·obtain rfl : q = true := by rw [← hq]; simp [Bp]; omega
    clear hq
    go_enter Tryz.func26, Tryz.ntmps26
    go_wp2_with fail
    go_ret
    exact ⟨rfl, hA.out⟩
   ·have g1 : decide (num < 8388608) = false := by simpa using a2
    obtain rfl : q = false := by rw [← hq]; simp [Bp]; omega
    clear hq
    go_enter Tryz.func26, Tryz.ntmps26
    go_wp2_with fail
    go_ret
    exact ⟨rfl, hA.out⟩
  ·have g1 : decide (0 ≤ num) = false := by simpa using a1
   obtain rfl : q = false := by rw [← hq]; simp [Bp]; omega
   clear hq
   go_enter Tryz.func26, Tryz.ntmps26
   go_wp2_with fail
   go_ret
   exact ⟨rfl, hA.out⟩
theorem a3k (ln cl sz num : Int) (tx : ByteArray) (w : World) (hnum : Ax num) (htx : tx.size ≤ 100000) (q : Bool) (hq : (Bg 24 tx.data.toList && Bp 24 num) = q) : Calls Tryz.prog 26 #[.agg #[.int .u8 24, .int .i64 ln, .int .i64 cl, .int .i64 sz, .int .i64 num, .string tx]] w fun e w' => e = .returned (.bool q) ∧ Below w.heap.size w w' := by
 have hA := zz (Aa w (.cells #[.int .u8 24, .int .i64 ln, .int .i64 cl, .int .i64 sz, .int .i64 num, .string tx] 37))
 have ht : Bg 24 tx.data.toList = tx.data.toList.isEmpty := by simp [Bg]
 rw [ht] at hq
 clear ht
 by_cases hz : 0 < tx.size
 ·have e1 : tx.data.toList.isEmpty = false := by
   rw [List.isEmpty_eq_false_iff]
   intro e
   rw [← Ae, e] at hz
   simp at hz
  rw [e1, Bool.false_and] at hq
  subst hq
  have e2 : (tx.toList == []) = false := by rw [ByteArray.toList_eq]; cases h : tx.data.toList with
   | nil => rw [h] at e1; cases e1
   | cons => rfl
  have e3 : (tx.toList != []) = true := by rw [bne, e2]; rfl
  have e4 : tx.toList.isEmpty = false := by rw [ByteArray.toList_eq]; exact e1
  clear e1
  go_enter Tryz.func26, Tryz.ntmps26
  go_wp2_with fail
  go_ret
  exact ⟨rfl, hA.out⟩
 ·have := Co tx hz
  subst this
  clear hz
  rw [show (({ data := #[] } : ByteArray).data.toList.isEmpty) = true from rfl, Bool.true_and] at hq
  by_cases a1 : num = 0
  ·have g1 : (num == 0) = true := by rw [a1]; rfl
   obtain rfl : q = true := by rw [← hq]; simp [Bp]; try omega
   clear hq a1
   go_enter Tryz.func26, Tryz.ntmps26
   go_wp2_with fail
   go_ret
   exact ⟨rfl, hA.out⟩
  ·have g1 : (num == 0) = false := by rw [beq_eq_false_iff_ne]; exact a1
   by_cases a2 : num = 1
   ·have g2 : (num == 1) = true := by rw [a2]; rfl
    obtain rfl : q = true := by rw [← hq]; simp [Bp]; try omega
    clear hq a2
    go_enter Tryz.func26, Tryz.ntmps26
    go_wp2_with fail
    go_ret
    exact ⟨rfl, hA.out⟩
   ·have g2 : (num == 1) = false := by rw [beq_eq_false_iff_ne]; exact a2
    obtain rfl : q = false := by rw [← hq]; simp [Bp]; omega
    clear hq a1 a2
    go_enter Tryz.func26, Tryz.ntmps26
    go_wp2_with fail
    go_ret
    exact ⟨rfl, hA.out⟩
theorem a3g (ln cl sz num : Int) (tx : ByteArray) (w : World) (hnum : Ax num) (htx : tx.size ≤ 100000) (q : Bool) (hq : (Bg 30 tx.data.toList && Bp 30 num) = q) : Calls Tryz.prog 26 #[.agg #[.int .u8 30, .int .i64 ln, .int .i64 cl, .int .i64 sz, .int .i64 num, .string tx]] w fun e w' => e = .returned (.bool q) ∧ Below w.heap.size w w' := by
 have hA := zz (Aa w (.cells #[.int .u8 30, .int .i64 ln, .int .i64 cl, .int .i64 sz, .int .i64 num, .string tx] 37))
 have ht : Bg 30 tx.data.toList = tx.data.toList.isEmpty := by simp [Bg]
 rw [ht] at hq
 clear ht
 by_cases hz : 0 < tx.size
 ·have e1 : tx.data.toList.isEmpty = false := by
   rw [List.isEmpty_eq_false_iff]
   intro e
   rw [← Ae, e] at hz
   simp at hz
  rw [e1, Bool.false_and] at hq
  subst hq
  have e2 : (tx.toList == []) = false := by rw [ByteArray.toList_eq]; cases h : tx.data.toList with
   | nil => rw [h] at e1; cases e1
   | cons => rfl
  have e3 : (tx.toList != []) = true := by rw [bne, e2]; rfl
  have e4 : tx.toList.isEmpty = false := by rw [ByteArray.toList_eq]; exact e1
  clear e1
  go_enter Tryz.func26, Tryz.ntmps26
  go_wp2_with fail
  go_ret
  exact ⟨rfl, hA.out⟩
 ·have := Co tx hz
  subst this
  clear hz
  rw [show (({ data := #[] } : ByteArray).data.toList.isEmpty) = true from rfl, Bool.true_and] at hq
  by_cases a1 : num = 12
  ·have g1 : (num == 12) = true := by rw [a1]; rfl
   obtain rfl : q = true := by rw [← hq]; simp [Bp]; try omega
   clear hq a1
   go_enter Tryz.func26, Tryz.ntmps26
   go_wp2_with fail
   go_ret
   exact ⟨rfl, hA.out⟩
  ·have g1 : (num == 12) = false := by rw [beq_eq_false_iff_ne]; exact a1
   by_cases a2 : num = 13
   ·have g2 : (num == 13) = true := by rw [a2]; rfl
    obtain rfl : q = true := by rw [← hq]; simp [Bp]; try omega
    clear hq a2
    go_enter Tryz.func26, Tryz.ntmps26
    go_wp2_with fail
    go_ret
    exact ⟨rfl, hA.out⟩
   ·have g2 : (num == 13) = false := by rw [beq_eq_false_iff_ne]; exact a2
    obtain rfl : q = false := by rw [← hq]; simp [Bp]; omega
    clear hq a1 a2
    go_enter Tryz.func26, Tryz.ntmps26
    go_wp2_with fail
    go_ret
    exact ⟨rfl, hA.out⟩
theorem a3f (ln cl sz num : Int) (tx : ByteArray) (w : World) (hnum : Ax num) (htx : tx.size ≤ 100000) (q : Bool) (hq : (Bg 31 tx.data.toList && Bp 31 num) = q) : Calls Tryz.prog 26 #[.agg #[.int .u8 31, .int .i64 ln, .int .i64 cl, .int .i64 sz, .int .i64 num, .string tx]] w fun e w' => e = .returned (.bool q) ∧ Below w.heap.size w w' := by
 have hA := zz (Aa w (.cells #[.int .u8 31, .int .i64 ln, .int .i64 cl, .int .i64 sz, .int .i64 num, .string tx] 37))
 have ht : Bg 31 tx.data.toList = tx.data.toList.isEmpty := by simp [Bg]
 rw [ht] at hq
 clear ht
 by_cases hz : 0 < tx.size
 ·have e1 : tx.data.toList.isEmpty = false := by
   rw [List.isEmpty_eq_false_iff]
   intro e
   rw [← Ae, e] at hz
   simp at hz
  rw [e1, Bool.false_and] at hq
  subst hq
  have e2 : (tx.toList == []) = false := by rw [ByteArray.toList_eq]; cases h : tx.data.toList with
   | nil => rw [h] at e1; cases e1
   | cons => rfl
  have e3 : (tx.toList != []) = true := by rw [bne, e2]; rfl
  have e4 : tx.toList.isEmpty = false := by rw [ByteArray.toList_eq]; exact e1
  clear e1
  go_enter Tryz.func26, Tryz.ntmps26
  go_wp2_with fail
  go_ret
  exact ⟨rfl, hA.out⟩
 ·have := Co tx hz
  subst this
  clear hz
  rw [show (({ data := #[] } : ByteArray).data.toList.isEmpty) = true from rfl, Bool.true_and] at hq
  by_cases a1 : 1 ≤ num
  ·by_cases a2 : num ≤ 11
   ·obtain rfl : q = true := by rw [← hq]; simp [Bp]; omega
    clear hq
    go_enter Tryz.func26, Tryz.ntmps26
    go_wp2_with fail
    go_ret
    exact ⟨rfl, hA.out⟩
   ·have g2 : decide (num ≤ 11) = false := by simpa using a2
    by_cases b1 : num = 14
    ·have g3 : (num == 14) = true := by rw [b1]; rfl
     obtain rfl : q = true := by rw [← hq]; simp [Bp]; omega
     clear hq b1
     go_enter Tryz.func26, Tryz.ntmps26
     go_wp2_with fail
     go_ret
     exact ⟨rfl, hA.out⟩
    ·have g3 : (num == 14) = false := by rw [beq_eq_false_iff_ne]; exact b1
     by_cases b2 : num = 15
     ·have g4 : (num == 15) = true := by rw [b2]; rfl
      obtain rfl : q = true := by rw [← hq]; simp [Bp]; omega
      clear hq b2
      go_enter Tryz.func26, Tryz.ntmps26
      go_wp2_with fail
      go_ret
      exact ⟨rfl, hA.out⟩
     ·have g4 : (num == 15) = false := by rw [beq_eq_false_iff_ne]; exact b2
      obtain rfl : q = false := by rw [← hq]; simp [Bp]; omega
      clear hq b1 b2
      go_enter Tryz.func26, Tryz.ntmps26
      go_wp2_with fail
      go_ret
      exact ⟨rfl, hA.out⟩
  ·have g1 : decide (1 ≤ num) = false := by simpa using a1
   by_cases b1 : num = 14
   ·have g3 : (num == 14) = true := by rw [b1]; rfl
    obtain rfl : q = true := by rw [← hq]; simp [Bp]; omega
    clear hq b1
    go_enter Tryz.func26, Tryz.ntmps26
    go_wp2_with fail
    go_ret
    exact ⟨rfl, hA.out⟩
   ·have g3 : (num == 14) = false := by rw [beq_eq_false_iff_ne]; exact b1
    by_cases b2 : num = 15
    ·have g4 : (num == 15) = true := by rw [b2]; rfl
     obtain rfl : q = true := by rw [← hq]; simp [Bp]; omega
     clear hq b2
     go_enter Tryz.func26, Tryz.ntmps26
     go_wp2_with fail
     go_ret
     exact ⟨rfl, hA.out⟩
    ·have g4 : (num == 15) = false := by rw [beq_eq_false_iff_ne]; exact b2
     obtain rfl : q = false := by rw [← hq]; simp [Bp]; omega
     clear hq b1 b2
     go_enter Tryz.func26, Tryz.ntmps26
     go_wp2_with fail
     go_ret
     exact ⟨rfl, hA.out⟩
theorem Vi (k : Nat) (hk : k ≠ 2 ∧ k ≠ 19 ∧ k ≠ 3 ∧ k ≠ 5 ∧ k ≠ 7 ∧ k ≠ 26 ∧ k ≠ 27 ∧ k ≠ 29 ∧ k ≠ 4 ∧ k ≠ 23 ∧ k ≠ 21 ∧ k ≠ 22 ∧ k ≠ 24 ∧ k ≠ 30 ∧ k ≠ 31) (ln cl sz num : Int) (tx : ByteArray) (w : World) (hnum : Ax num) (htx : tx.size ≤ 100000) (q : Bool) (hq : (Bg k tx.data.toList && Bp k num) = q) : Calls Tryz.prog 26 #[.agg #[.int .u8 (k : Nat), .int .i64 ln, .int .i64 cl, .int .i64 sz, .int .i64 num, .string tx]] w fun e w' => e = .returned (.bool q) ∧ Below w.heap.size w w' := by
 have hA := zz (Aa w (.cells #[.int .u8 (k : Nat), .int .i64 ln, .int .i64 cl, .int .i64 sz, .int .i64 num, .string tx] 37))
 have e2 : ((k : Int) == 2) = false := by rw [beq_eq_false_iff_ne]; omega
 have e19 : ((k : Int) == 19) = false := by rw [beq_eq_false_iff_ne]; omega
 have e3 : ((k : Int) == 3) = false := by rw [beq_eq_false_iff_ne]; omega
 have e5 : ((k : Int) == 5) = false := by rw [beq_eq_false_iff_ne]; omega
 have e7 : ((k : Int) == 7) = false := by rw [beq_eq_false_iff_ne]; omega
 have e26 : ((k : Int) == 26) = false := by rw [beq_eq_false_iff_ne]; omega
 have e27 : ((k : Int) == 27) = false := by rw [beq_eq_false_iff_ne]; omega
 have e29 : ((k : Int) == 29) = false := by rw [beq_eq_false_iff_ne]; omega
 have e4 : ((k : Int) == 4) = false := by rw [beq_eq_false_iff_ne]; omega
 have e23 : ((k : Int) == 23) = false := by rw [beq_eq_false_iff_ne]; omega
 have e21 : ((k : Int) == 21) = false := by rw [beq_eq_false_iff_ne]; omega
 have e22 : ((k : Int) == 22) = false := by rw [beq_eq_false_iff_ne]; omega
 have e24 : ((k : Int) == 24) = false := by rw [beq_eq_false_iff_ne]; omega
 have e30 : ((k : Int) == 30) = false := by rw [beq_eq_false_iff_ne]; omega
 have e31 : ((k : Int) == 31) = false := by rw [beq_eq_false_iff_ne]; omega
 have hnb : Bp k num = (num == 0) := by
  obtain ⟨h2, h19, h3, h5, h7, h26, h27, h29, h4, h23, h21, h22, h24, h30, h31⟩ := hk
  simp [Bp, h4, h21, h22, h24, h30, h31]; rfl
 have ht : Bg k tx.data.toList = tx.data.toList.isEmpty := by obtain ⟨h2, h19, h3, h5, h7, h26, h27, h29, h4, h23, h21, h22, h24, h30, h31⟩ := hk; simp [Bg, h2, h19, h3, h5, h4, h7, h26, h27, h29, h23]
 rw [ht] at hq
 clear ht
 by_cases hz : 0 < tx.size
 ·have e1 : tx.data.toList.isEmpty = false := by
   rw [List.isEmpty_eq_false_iff]
   intro e
   rw [← Ae, e] at hz
   simp at hz
  rw [e1, Bool.false_and] at hq
  subst hq
  clear hk hnb
  have e2 : (tx.toList == []) = false := by rw [ByteArray.toList_eq]; cases h : tx.data.toList with
   | nil => rw [h] at e1; cases e1
   | cons => rfl
  have e3 : (tx.toList != []) = true := by rw [bne, e2]; rfl
  have e4 : tx.toList.isEmpty = false := by rw [ByteArray.toList_eq]; exact e1
  clear e1
  go_enter Tryz.func26, Tryz.ntmps26
  go_wp2_with fail
  go_ret
  exact ⟨rfl, hA.out⟩
 ·have := Co tx hz
  subst this
  clear hz
  rw [show (({ data := #[] } : ByteArray).data.toList.isEmpty) = true from rfl, Bool.true_and] at hq
  rw [hnb] at hq
  clear hk hnb
  go_enter Tryz.func26, Tryz.ntmps26
  go_wp2_with fail
  go_ret
  exact ⟨rfl, hA.out⟩
theorem Zy (n : Nd) (hn : n.wf) (htx : n.text.size ≤ 100000) (w : World) (q : Bool) (hq : (Bg n.kind n.text.data.toList && Bp n.kind n.num) = q) : Calls Tryz.prog 26 #[ndV n] w fun e w' => e = .returned (.bool q) ∧ Below w.heap.size w w' := by
 obtain ⟨k, ln, cl, sz, num, tx⟩ := n
 have hnum : Ax num := hn.num
 clear hn
 simp only [ndV] at hq htx ⊢
 by_cases h2 : k = 2
 ·subst h2
  exact a7z ln cl sz num tx w hnum htx q hq
 by_cases h19 : k = 19
 ·subst h19
  exact a3o ln cl sz num tx w hnum htx q hq
 by_cases h3 : k = 3
 ·subst h3
  exact a7y ln cl sz num tx w hnum htx q hq
 by_cases h5 : k = 5
 ·subst h5
  exact a7w ln cl sz num tx w hnum htx q hq
 by_cases h7 : k = 7
 ·subst h7
  exact a7v ln cl sz num tx w hnum htx q hq
 by_cases h26 : k = 26
 ·subst h26
  exact a3j ln cl sz num tx w hnum htx q hq
 by_cases h27 : k = 27
 ·subst h27
  exact a3i ln cl sz num tx w hnum htx q hq
 by_cases h29 : k = 29
 ·subst h29
  exact a3h ln cl sz num tx w hnum htx q hq
 by_cases h4 : k = 4
 ·subst h4
  exact a7x ln cl sz num tx w hnum htx q hq
 by_cases h23 : k = 23
 ·subst h23
  exact a3l ln cl sz num tx w hnum htx q hq
 by_cases h21 : k = 21
 ·subst h21
  exact a3n ln cl sz num tx w hnum htx q hq
 by_cases h22 : k = 22
 ·subst h22
  exact a3m ln cl sz num tx w hnum htx q hq
 by_cases h24 : k = 24
 ·subst h24
  exact a3k ln cl sz num tx w hnum htx q hq
 by_cases h30 : k = 30
 ·subst h30
  exact a3g ln cl sz num tx w hnum htx q hq
 by_cases h31 : k = 31
 ·subst h31
  exact a3f ln cl sz num tx w hnum htx q hq
 exact Vi k ⟨h2, h19, h3, h5, h7, h26, h27, h29, h4, h23, h21, h22, h24, h30, h31⟩ ln cl sz num tx w hnum htx q hq
end Go.Proofs.YtoaplbljflhheaaGreat
