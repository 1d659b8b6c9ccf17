/-
  Contracts of tree.textMay and tree.numMay, and of tree.askedOf for every kind. Conditions: the node's fields fit their kinds.
-/
import Derived.Test.YtogpfbmkbnooeaaAsk
import Derived.Test.YtogpfbmkbnooeaaNam
namespace Go.Proofs.Ytogpfbmkbnooeaa
open Go.RowKit Go.Sort
set_option linter.unusedVariables false

def textB (k : Nat) (t : List UInt8) : Bool :=
  if k = 2 ∨ k = 19 then greatB t else if k = 3 ∨ k = 5 ∨ k = 4 ∨ k = 7 ∨ k = 26 ∨ k = 27 ∨ k = 29 then nameB t else if k = 23 then true else t.isEmpty
def numB (k : Nat) (z : Int) : Bool :=
  if k = 4 then true else if k = 21 then decide (0 ≤ z) else if k = 22 then decide (0 ≤ z ∧ z < 8388608) else if k = 24 then decide (z = 0 ∨ z = 1) else if k = 30 then decide (z = 12 ∨ z = 13)
  else if k = 31 then decide ((1 ≤ z ∧ z ≤ 11) ∨ z = 14 ∨ z = 15) else decide (z = 0)


set_option maxHeartbeats 1000000 in
set_option maxRecDepth 100000 in
theorem text_2 (ln cl sz num : Int) (tx : ByteArray) (w : World) (hnum : i64In num) (q : Bool) (hq : greatB tx.data.toList = q) : Calls Try.prog 29 #[.agg #[.int .u8 2, .int .i64 ln, .int .i64 cl, .int .i64 sz, .int .i64 num, .string tx]] w fun e w' => e = .returned (.bool q) ∧ Below w.heap.size w w' := by
  have hA := Lib.hid (below_alloc w (.cells #[.int .u8 2, .int .i64 ln, .int .i64 cl, .int .i64 sz, .int .i64 num, .string tx] 31))
  have H := Lib.hid (fun w => great_any tx w q hq)
  clear hq
  go_enter Try.func29, Try.ntmps29
  go_wp2_with fail
  refine (H.out _).mono ?_
  rintro e w1 ⟨rfl, hb⟩
  replace hb := Lib.hid (below_step hA.out hb)
  go_wp2_with fail
  go_ret
  exact ⟨rfl, hb.out⟩

set_option maxHeartbeats 1000000 in
set_option maxRecDepth 100000 in
theorem text_19 (ln cl sz num : Int) (tx : ByteArray) (w : World) (hnum : i64In num) (q : Bool) (hq : greatB tx.data.toList = q) : Calls Try.prog 29 #[.agg #[.int .u8 19, .int .i64 ln, .int .i64 cl, .int .i64 sz, .int .i64 num, .string tx]] w fun e w' => e = .returned (.bool q) ∧ Below w.heap.size w w' := by
  have hA := Lib.hid (below_alloc w (.cells #[.int .u8 19, .int .i64 ln, .int .i64 cl, .int .i64 sz, .int .i64 num, .string tx] 31))
  have H := Lib.hid (fun w => great_any tx w q hq)
  clear hq
  go_enter Try.func29, Try.ntmps29
  go_wp2_with fail
  refine (H.out _).mono ?_
  rintro e w1 ⟨rfl, hb⟩
  replace hb := Lib.hid (below_step hA.out hb)
  go_wp2_with fail
  go_ret
  exact ⟨rfl, hb.out⟩

set_option maxHeartbeats 1000000 in
set_option maxRecDepth 100000 in
theorem text_3 (ln cl sz num : Int) (tx : ByteArray) (w : World) (hnum : i64In num) (q : Bool) (hq : nameB tx.data.toList = q) : Calls Try.prog 29 #[.agg #[.int .u8 3, .int .i64 ln, .int .i64 cl, .int .i64 sz, .int .i64 num, .string tx]] w fun e w' => e = .returned (.bool q) ∧ Below w.heap.size w w' := by
  have hA := Lib.hid (below_alloc w (.cells #[.int .u8 3, .int .i64 ln, .int .i64 cl, .int .i64 sz, .int .i64 num, .string tx] 31))
  have H := Lib.hid (fun w => name_any tx w q hq)
  clear hq
  go_enter Try.func29, Try.ntmps29
  go_wp2_with fail
  refine (H.out _).mono ?_
  rintro e w1 ⟨rfl, hb⟩
  replace hb := Lib.hid (below_step hA.out hb)
  go_wp2_with fail
  go_ret
  exact ⟨rfl, hb.out⟩

set_option maxHeartbeats 1000000 in
set_option maxRecDepth 100000 in
theorem text_5 (ln cl sz num : Int) (tx : ByteArray) (w : World) (hnum : i64In num) (q : Bool) (hq : nameB tx.data.toList = q) : Calls Try.prog 29 #[.agg #[.int .u8 5, .int .i64 ln, .int .i64 cl, .int .i64 sz, .int .i64 num, .string tx]] w fun e w' => e = .returned (.bool q) ∧ Below w.heap.size w w' := by
  have hA := Lib.hid (below_alloc w (.cells #[.int .u8 5, .int .i64 ln, .int .i64 cl, .int .i64 sz, .int .i64 num, .string tx] 31))
  have H := Lib.hid (fun w => name_any tx w q hq)
  clear hq
  go_enter Try.func29, Try.ntmps29
  go_wp2_with fail
  refine (H.out _).mono ?_
  rintro e w1 ⟨rfl, hb⟩
  replace hb := Lib.hid (below_step hA.out hb)
  go_wp2_with fail
  go_ret
  exact ⟨rfl, hb.out⟩

set_option maxHeartbeats 1000000 in
set_option maxRecDepth 100000 in
theorem text_4 (ln cl sz num : Int) (tx : ByteArray) (w : World) (hnum : i64In num) (q : Bool) (hq : nameB tx.data.toList = q) : Calls Try.prog 29 #[.agg #[.int .u8 4, .int .i64 ln, .int .i64 cl, .int .i64 sz, .int .i64 num, .string tx]] w fun e w' => e = .returned (.bool q) ∧ Below w.heap.size w w' := by
  have hA := Lib.hid (below_alloc w (.cells #[.int .u8 4, .int .i64 ln, .int .i64 cl, .int .i64 sz, .int .i64 num, .string tx] 31))
  have H := Lib.hid (fun w => name_any tx w q hq)
  clear hq
  go_enter Try.func29, Try.ntmps29
  go_wp2_with fail
  refine (H.out _).mono ?_
  rintro e w1 ⟨rfl, hb⟩
  replace hb := Lib.hid (below_step hA.out hb)
  go_wp2_with fail
  go_ret
  exact ⟨rfl, hb.out⟩

set_option maxHeartbeats 1000000 in
set_option maxRecDepth 100000 in
theorem text_7 (ln cl sz num : Int) (tx : ByteArray) (w : World) (hnum : i64In num) (q : Bool) (hq : nameB tx.data.toList = q) : Calls Try.prog 29 #[.agg #[.int .u8 7, .int .i64 ln, .int .i64 cl, .int .i64 sz, .int .i64 num, .string tx]] w fun e w' => e = .returned (.bool q) ∧ Below w.heap.size w w' := by
  have hA := Lib.hid (below_alloc w (.cells #[.int .u8 7, .int .i64 ln, .int .i64 cl, .int .i64 sz, .int .i64 num, .string tx] 31))
  have H := Lib.hid (fun w => name_any tx w q hq)
  clear hq
  go_enter Try.func29, Try.ntmps29
  go_wp2_with fail
  refine (H.out _).mono ?_
  rintro e w1 ⟨rfl, hb⟩
  replace hb := Lib.hid (below_step hA.out hb)
  go_wp2_with fail
  go_ret
  exact ⟨rfl, hb.out⟩

set_option maxHeartbeats 1000000 in
set_option maxRecDepth 100000 in
theorem text_26 (ln cl sz num : Int) (tx : ByteArray) (w : World) (hnum : i64In num) (q : Bool) (hq : nameB tx.data.toList = q) : Calls Try.prog 29 #[.agg #[.int .u8 26, .int .i64 ln, .int .i64 cl, .int .i64 sz, .int .i64 num, .string tx]] w fun e w' => e = .returned (.bool q) ∧ Below w.heap.size w w' := by
  have hA := Lib.hid (below_alloc w (.cells #[.int .u8 26, .int .i64 ln, .int .i64 cl, .int .i64 sz, .int .i64 num, .string tx] 31))
  have H := Lib.hid (fun w => name_any tx w q hq)
  clear hq
  go_enter Try.func29, Try.ntmps29
  go_wp2_with fail
  refine (H.out _).mono ?_
  rintro e w1 ⟨rfl, hb⟩
  replace hb := Lib.hid (below_step hA.out hb)
  go_wp2_with fail
  go_ret
  exact ⟨rfl, hb.out⟩

set_option maxHeartbeats 1000000 in
set_option maxRecDepth 100000 in
theorem text_27 (ln cl sz num : Int) (tx : ByteArray) (w : World) (hnum : i64In num) (q : Bool) (hq : nameB tx.data.toList = q) : Calls Try.prog 29 #[.agg #[.int .u8 27, .int .i64 ln, .int .i64 cl, .int .i64 sz, .int .i64 num, .string tx]] w fun e w' => e = .returned (.bool q) ∧ Below w.heap.size w w' := by
  have hA := Lib.hid (below_alloc w (.cells #[.int .u8 27, .int .i64 ln, .int .i64 cl, .int .i64 sz, .int .i64 num, .string tx] 31))
  have H := Lib.hid (fun w => name_any tx w q hq)
  clear hq
  go_enter Try.func29, Try.ntmps29
  go_wp2_with fail
  refine (H.out _).mono ?_
  rintro e w1 ⟨rfl, hb⟩
  replace hb := Lib.hid (below_step hA.out hb)
  go_wp2_with fail
  go_ret
  exact ⟨rfl, hb.out⟩

set_option maxHeartbeats 1000000 in
set_option maxRecDepth 100000 in
theorem text_29 (ln cl sz num : Int) (tx : ByteArray) (w : World) (hnum : i64In num) (q : Bool) (hq : nameB tx.data.toList = q) : Calls Try.prog 29 #[.agg #[.int .u8 29, .int .i64 ln, .int .i64 cl, .int .i64 sz, .int .i64 num, .string tx]] w fun e w' => e = .returned (.bool q) ∧ Below w.heap.size w w' := by
  have hA := Lib.hid (below_alloc w (.cells #[.int .u8 29, .int .i64 ln, .int .i64 cl, .int .i64 sz, .int .i64 num, .string tx] 31))
  have H := Lib.hid (fun w => name_any tx w q hq)
  clear hq
  go_enter Try.func29, Try.ntmps29
  go_wp2_with fail
  refine (H.out _).mono ?_
  rintro e w1 ⟨rfl, hb⟩
  replace hb := Lib.hid (below_step hA.out hb)
  go_wp2_with fail
  go_ret
  exact ⟨rfl, hb.out⟩

set_option maxHeartbeats 1000000 in
set_option maxRecDepth 100000 in
theorem text_23 (ln cl sz num : Int) (tx : ByteArray) (w : World) (hnum : i64In num) (q : Bool) (hq : true = q) : Calls Try.prog 29 #[.agg #[.int .u8 23, .int .i64 ln, .int .i64 cl, .int .i64 sz, .int .i64 num, .string tx]] w fun e w' => e = .returned (.bool q) ∧ Below w.heap.size w w' := by
  subst hq
  have hA := Lib.hid (below_alloc w (.cells #[.int .u8 23, .int .i64 ln, .int .i64 cl, .int .i64 sz, .int .i64 num, .string tx] 31))
  go_enter Try.func29, Try.ntmps29
  go_wp2_with fail
  go_ret
  exact ⟨rfl, hA.out⟩

set_option maxHeartbeats 1000000 in
set_option maxRecDepth 100000 in
theorem text_else (k : Nat) (hk : k ≠ 2 ∧ k ≠ 19 ∧ k ≠ 3 ∧ k ≠ 5 ∧ k ≠ 4 ∧ k ≠ 7 ∧ k ≠ 26 ∧ k ≠ 27 ∧ k ≠ 29 ∧ k ≠ 23) (ln cl sz num : Int) (tx : ByteArray) (w : World) (hnum : i64In num) (q : Bool) (hq : tx.data.toList.isEmpty = q) : Calls Try.prog 29 #[.agg #[.int .u8 (k : Nat), .int .i64 ln, .int .i64 cl, .int .i64 sz, .int .i64 num, .string tx]] w fun e w' => e = .returned (.bool q) ∧ Below w.heap.size w w' := by
  have e2 : ((k : Int) == 2) = false := by rw [beq_eq_false_iff_ne]; omega
  have e19 : ((k : Int) == 19) = false := by rw [beq_eq_false_iff_ne]; omega
  have e3 : ((k : Int) == 3) = false := by rw [beq_eq_false_iff_ne]; omega
  have e5 : ((k : Int) == 5) = false := by rw [beq_eq_false_iff_ne]; omega
  have e4 : ((k : Int) == 4) = false := by rw [beq_eq_false_iff_ne]; omega
  have e7 : ((k : Int) == 7) = false := by rw [beq_eq_false_iff_ne]; omega
  have e26 : ((k : Int) == 26) = false := by rw [beq_eq_false_iff_ne]; omega
  have e27 : ((k : Int) == 27) = false := by rw [beq_eq_false_iff_ne]; omega
  have e29 : ((k : Int) == 29) = false := by rw [beq_eq_false_iff_ne]; omega
  have e23 : ((k : Int) == 23) = false := by rw [beq_eq_false_iff_ne]; omega
  clear hk
  have hA := Lib.hid (below_alloc w (.cells #[.int .u8 (k : Nat), .int .i64 ln, .int .i64 cl, .int .i64 sz, .int .i64 num, .string tx] 31))
  have e1 : (tx.toList == []) = q := by rw [ByteArray.toList_eq, ← hq]; cases tx.data.toList <;> rfl
  have e3 : tx.toList.isEmpty = q := by rw [ByteArray.toList_eq, ← hq]
  clear hq
  go_enter Try.func29, Try.ntmps29
  go_wp2_with fail
  go_ret
  exact ⟨rfl, hA.out⟩

set_option maxHeartbeats 1000000 in
set_option maxRecDepth 100000 in
theorem num_4 (ln cl sz num : Int) (tx : ByteArray) (w : World) (hnum : i64In num) (q : Bool) (hq : numB 4 num = q) : Calls Try.prog 30 #[.agg #[.int .u8 4, .int .i64 ln, .int .i64 cl, .int .i64 sz, .int .i64 num, .string tx]] w fun e w' => e = .returned (.bool q) ∧ Below w.heap.size w w' := by
  have hA := Lib.hid (below_alloc w (.cells #[.int .u8 4, .int .i64 ln, .int .i64 cl, .int .i64 sz, .int .i64 num, .string tx] 31))
  obtain rfl : q = true := by rw [← hq]; rfl
  clear hq
  go_enter Try.func30, Try.ntmps30
  go_wp2_with fail
  go_ret
  exact ⟨rfl, hA.out⟩


set_option maxHeartbeats 1000000 in
set_option maxRecDepth 100000 in
theorem num_21 (ln cl sz num : Int) (tx : ByteArray) (w : World) (hnum : i64In num) (q : Bool) (hq : numB 21 num = q) : Calls Try.prog 30 #[.agg #[.int .u8 21, .int .i64 ln, .int .i64 cl, .int .i64 sz, .int .i64 num, .string tx]] w fun e w' => e = .returned (.bool q) ∧ Below w.heap.size w w' := by
  have hA := Lib.hid (below_alloc w (.cells #[.int .u8 21, .int .i64 ln, .int .i64 cl, .int .i64 sz, .int .i64 num, .string tx] 31))
  by_cases a1 : 0 ≤ num
  · obtain rfl : q = true := by rw [← hq]; simp [numB]; omega
    clear hq
    go_enter Try.func30, Try.ntmps30
    go_wp2_with fail
    go_ret
    exact ⟨rfl, hA.out⟩
  · have g1 : decide (0 ≤ num) = false := by simpa using a1
    obtain rfl : q = false := by rw [← hq]; simp [numB]; omega
    clear hq
    go_enter Try.func30, Try.ntmps30
    go_wp2_with fail
    go_ret
    exact ⟨rfl, hA.out⟩


set_option maxHeartbeats 1000000 in
set_option maxRecDepth 100000 in
theorem num_22 (ln cl sz num : Int) (tx : ByteArray) (w : World) (hnum : i64In num) (q : Bool) (hq : numB 22 num = q) : Calls Try.prog 30 #[.agg #[.int .u8 22, .int .i64 ln, .int .i64 cl, .int .i64 sz, .int .i64 num, .string tx]] w fun e w' => e = .returned (.bool q) ∧ Below w.heap.size w w' := by
  have hA := Lib.hid (below_alloc w (.cells #[.int .u8 22, .int .i64 ln, .int .i64 cl, .int .i64 sz, .int .i64 num, .string tx] 31))
  by_cases a1 : 0 ≤ num
  · by_cases a2 : num < 8388608
    · obtain rfl : q = true := by rw [← hq]; simp [numB]; omega
      clear hq
      go_enter Try.func30, Try.ntmps30
      go_wp2_with fail
      go_ret
      exact ⟨rfl, hA.out⟩
    · have g1 : decide (num < 8388608) = false := by simpa using a2
      obtain rfl : q = false := by rw [← hq]; simp [numB]; omega
      clear hq
      go_enter Try.func30, Try.ntmps30
      go_wp2_with fail
      go_ret
      exact ⟨rfl, hA.out⟩
  · have g1 : decide (0 ≤ num) = false := by simpa using a1
    obtain rfl : q = false := by rw [← hq]; simp [numB]; omega
    clear hq
    go_enter Try.func30, Try.ntmps30
    go_wp2_with fail
    go_ret
    exact ⟨rfl, hA.out⟩


set_option maxHeartbeats 1000000 in
set_option maxRecDepth 100000 in
theorem num_24 (ln cl sz num : Int) (tx : ByteArray) (w : World) (hnum : i64In num) (q : Bool) (hq : numB 24 num = q) : Calls Try.prog 30 #[.agg #[.int .u8 24, .int .i64 ln, .int .i64 cl, .int .i64 sz, .int .i64 num, .string tx]] w fun e w' => e = .returned (.bool q) ∧ Below w.heap.size w w' := by
  have hA := Lib.hid (below_alloc w (.cells #[.int .u8 24, .int .i64 ln, .int .i64 cl, .int .i64 sz, .int .i64 num, .string tx] 31))
  by_cases a1 : num = 0
  · have g1 : (num == 0) = true := by rw [a1]; rfl
    obtain rfl : q = true := by rw [← hq]; simp [numB]; try omega
    clear hq a1
    go_enter Try.func30, Try.ntmps30
    go_wp2_with fail
    go_ret
    exact ⟨rfl, hA.out⟩
  · have g1 : (num == 0) = false := by rw [beq_eq_false_iff_ne]; exact a1
    by_cases a2 : num = 1
    · have g2 : (num == 1) = true := by rw [a2]; rfl
      obtain rfl : q = true := by rw [← hq]; simp [numB]; try omega
      clear hq a2
      go_enter Try.func30, Try.ntmps30
      go_wp2_with fail
      go_ret
      exact ⟨rfl, hA.out⟩
    · have g2 : (num == 1) = false := by rw [beq_eq_false_iff_ne]; exact a2
      obtain rfl : q = false := by rw [← hq]; simp [numB]; omega
      clear hq a1 a2
      go_enter Try.func30, Try.ntmps30
      go_wp2_with fail
      go_ret
      exact ⟨rfl, hA.out⟩


set_option maxHeartbeats 1000000 in
set_option maxRecDepth 100000 in
theorem num_30 (ln cl sz num : Int) (tx : ByteArray) (w : World) (hnum : i64In num) (q : Bool) (hq : numB 30 num = q) : Calls Try.prog 30 #[.agg #[.int .u8 30, .int .i64 ln, .int .i64 cl, .int .i64 sz, .int .i64 num, .string tx]] w fun e w' => e = .returned (.bool q) ∧ Below w.heap.size w w' := by
  have hA := Lib.hid (below_alloc w (.cells #[.int .u8 30, .int .i64 ln, .int .i64 cl, .int .i64 sz, .int .i64 num, .string tx] 31))
  by_cases a1 : num = 12
  · have g1 : (num == 12) = true := by rw [a1]; rfl
    obtain rfl : q = true := by rw [← hq]; simp [numB]; try omega
    clear hq a1
    go_enter Try.func30, Try.ntmps30
    go_wp2_with fail
    go_ret
    exact ⟨rfl, hA.out⟩
  · have g1 : (num == 12) = false := by rw [beq_eq_false_iff_ne]; exact a1
    by_cases a2 : num = 13
    · have g2 : (num == 13) = true := by rw [a2]; rfl
      obtain rfl : q = true := by rw [← hq]; simp [numB]; try omega
      clear hq a2
      go_enter Try.func30, Try.ntmps30
      go_wp2_with fail
      go_ret
      exact ⟨rfl, hA.out⟩
    · have g2 : (num == 13) = false := by rw [beq_eq_false_iff_ne]; exact a2
      obtain rfl : q = false := by rw [← hq]; simp [numB]; omega
      clear hq a1 a2
      go_enter Try.func30, Try.ntmps30
      go_wp2_with fail
      go_ret
      exact ⟨rfl, hA.out⟩


set_option maxHeartbeats 1000000 in
set_option maxRecDepth 100000 in
theorem num_31 (ln cl sz num : Int) (tx : ByteArray) (w : World) (hnum : i64In num) (q : Bool) (hq : numB 31 num = q) : Calls Try.prog 30 #[.agg #[.int .u8 31, .int .i64 ln, .int .i64 cl, .int .i64 sz, .int .i64 num, .string tx]] w fun e w' => e = .returned (.bool q) ∧ Below w.heap.size w w' := by
  have hA := Lib.hid (below_alloc w (.cells #[.int .u8 31, .int .i64 ln, .int .i64 cl, .int .i64 sz, .int .i64 num, .string tx] 31))
  by_cases a1 : 1 ≤ num
  · by_cases a2 : num ≤ 11
    · obtain rfl : q = true := by rw [← hq]; simp [numB]; omega
      clear hq
      go_enter Try.func30, Try.ntmps30
      go_wp2_with fail
      go_ret
      exact ⟨rfl, hA.out⟩
    · have g2 : decide (num ≤ 11) = false := by simpa using a2
      by_cases b1 : num = 14
      · have g3 : (num == 14) = true := by rw [b1]; rfl
        obtain rfl : q = true := by rw [← hq]; simp [numB]; omega
        clear hq b1
        go_enter Try.func30, Try.ntmps30
        go_wp2_with fail
        go_ret
        exact ⟨rfl, hA.out⟩
      · have g3 : (num == 14) = false := by rw [beq_eq_false_iff_ne]; exact b1
        by_cases b2 : num = 15
        · have g4 : (num == 15) = true := by rw [b2]; rfl
          obtain rfl : q = true := by rw [← hq]; simp [numB]; omega
          clear hq b2
          go_enter Try.func30, Try.ntmps30
          go_wp2_with fail
          go_ret
          exact ⟨rfl, hA.out⟩
        · have g4 : (num == 15) = false := by rw [beq_eq_false_iff_ne]; exact b2
          obtain rfl : q = false := by rw [← hq]; simp [numB]; omega
          clear hq b1 b2
          go_enter Try.func30, Try.ntmps30
          go_wp2_with fail
          go_ret
          exact ⟨rfl, hA.out⟩
  · have g1 : decide (1 ≤ num) = false := by simpa using a1
    by_cases b1 : num = 14
    · have g3 : (num == 14) = true := by rw [b1]; rfl
      obtain rfl : q = true := by rw [← hq]; simp [numB]; omega
      clear hq b1
      go_enter Try.func30, Try.ntmps30
      go_wp2_with fail
      go_ret
      exact ⟨rfl, hA.out⟩
    · have g3 : (num == 14) = false := by rw [beq_eq_false_iff_ne]; exact b1
      by_cases b2 : num = 15
      · have g4 : (num == 15) = true := by rw [b2]; rfl
        obtain rfl : q = true := by rw [← hq]; simp [numB]; omega
        clear hq b2
        go_enter Try.func30, Try.ntmps30
        go_wp2_with fail
        go_ret
        exact ⟨rfl, hA.out⟩
      · have g4 : (num == 15) = false := by rw [beq_eq_false_iff_ne]; exact b2
        obtain rfl : q = false := by rw [← hq]; simp [numB]; omega
        clear hq b1 b2
        go_enter Try.func30, Try.ntmps30
        go_wp2_with fail
        go_ret
        exact ⟨rfl, hA.out⟩


set_option maxHeartbeats 1000000 in
set_option maxRecDepth 100000 in
theorem num_else (k : Nat) (hk : k ≠ 4 ∧ k ≠ 21 ∧ k ≠ 22 ∧ k ≠ 24 ∧ k ≠ 30 ∧ k ≠ 31) (ln cl sz num : Int) (tx : ByteArray) (w : World) (hnum : i64In num) (q : Bool) (hq : (num == 0) = q) : Calls Try.prog 30 #[.agg #[.int .u8 (k : Nat), .int .i64 ln, .int .i64 cl, .int .i64 sz, .int .i64 num, .string tx]] w fun e w' => e = .returned (.bool q) ∧ Below w.heap.size w w' := by
  have e4 : ((k : Int) == 4) = false := by rw [beq_eq_false_iff_ne]; omega
  have e21 : ((k : Int) == 21) = false := by rw [beq_eq_false_iff_ne]; omega
  have e22 : ((k : Int) == 22) = false := by rw [beq_eq_false_iff_ne]; omega
  have e24 : ((k : Int) == 24) = false := by rw [beq_eq_false_iff_ne]; omega
  have e30 : ((k : Int) == 30) = false := by rw [beq_eq_false_iff_ne]; omega
  have e31 : ((k : Int) == 31) = false := by rw [beq_eq_false_iff_ne]; omega
  clear hk
  have hA := Lib.hid (below_alloc w (.cells #[.int .u8 (k : Nat), .int .i64 ln, .int .i64 cl, .int .i64 sz, .int .i64 num, .string tx] 31))
  go_enter Try.func30, Try.ntmps30
  go_wp2_with fail
  go_ret
  exact ⟨rfl, hA.out⟩

theorem textMay_any (n : Nd) (hn : n.wf) (w : World) (q : Bool) (hq : textB n.kind n.text.data.toList = q) : Calls Try.prog 29 #[ndV n] w fun e w' => e = .returned (.bool q) ∧ Below w.heap.size w w' := by
  obtain ⟨k, ln, cl, sz, num, tx⟩ := n
  have hnum : i64In num := hn.num
  clear hn
  simp only [ndV] at hq ⊢
  by_cases h2 : k = 2
  · subst h2
    exact text_2 ln cl sz num tx w hnum q hq
  by_cases h19 : k = 19
  · subst h19
    exact text_19 ln cl sz num tx w hnum q hq
  by_cases h3 : k = 3
  · subst h3
    exact text_3 ln cl sz num tx w hnum q hq
  by_cases h5 : k = 5
  · subst h5
    exact text_5 ln cl sz num tx w hnum q hq
  by_cases h4 : k = 4
  · subst h4
    exact text_4 ln cl sz num tx w hnum q hq
  by_cases h7 : k = 7
  · subst h7
    exact text_7 ln cl sz num tx w hnum q hq
  by_cases h26 : k = 26
  · subst h26
    exact text_26 ln cl sz num tx w hnum q hq
  by_cases h27 : k = 27
  · subst h27
    exact text_27 ln cl sz num tx w hnum q hq
  by_cases h29 : k = 29
  · subst h29
    exact text_29 ln cl sz num tx w hnum q hq
  by_cases h23 : k = 23
  · subst h23
    exact text_23 ln cl sz num tx w hnum q hq
  unfold textB at hq
  rw [if_neg (by omega), if_neg (by omega), if_neg (by omega)] at hq
  exact text_else k ⟨h2, h19, h3, h5, h4, h7, h26, h27, h29, h23⟩ ln cl sz num tx w hnum q hq

theorem numMay_any (n : Nd) (hn : n.wf) (w : World) (q : Bool) (hq : numB n.kind n.num = q) : Calls Try.prog 30 #[ndV n] w fun e w' => e = .returned (.bool q) ∧ Below w.heap.size w w' := by
  obtain ⟨k, ln, cl, sz, num, tx⟩ := n
  have hnum : i64In num := hn.num
  clear hn
  simp only [ndV] at hq ⊢
  by_cases h4 : k = 4
  · subst h4
    exact num_4 ln cl sz num tx w hnum q hq
  by_cases h21 : k = 21
  · subst h21
    exact num_21 ln cl sz num tx w hnum q hq
  by_cases h22 : k = 22
  · subst h22
    exact num_22 ln cl sz num tx w hnum q hq
  by_cases h24 : k = 24
  · subst h24
    exact num_24 ln cl sz num tx w hnum q hq
  by_cases h30 : k = 30
  · subst h30
    exact num_30 ln cl sz num tx w hnum q hq
  by_cases h31 : k = 31
  · subst h31
    exact num_31 ln cl sz num tx w hnum q hq
  exact num_else k ⟨h4, h21, h22, h24, h30, h31⟩ ln cl sz num tx w hnum q (by rw [← hq]; simp [numB, h4, h21, h22, h24, h30, h31]; rfl)

theorem asked_any (n : Nd) (hn : n.wf) (w : World) : Calls Try.prog 31 #[ndV n] w (RetR w (askB n.kind n.num)) := by
  obtain ⟨k, ln, cl, sz, num, tx⟩ := n
  have hnum : i64In num := hn.num
  clear hn
  simp only [ndV]
  by_cases h1 : k = 1
  · subst h1
    exact asked_1 ln cl sz num tx w hnum
  by_cases h2 : k = 2
  · subst h2
    exact asked_2 ln cl sz num tx w hnum
  by_cases h3 : k = 3
  · subst h3
    exact asked_3 ln cl sz num tx w hnum
  by_cases h5 : k = 5
  · subst h5
    exact asked_5 ln cl sz num tx w hnum
  by_cases h20 : k = 20
  · subst h20
    exact asked_20 ln cl sz num tx w hnum
  by_cases h4 : k = 4
  · subst h4
    exact asked_4 ln cl sz num tx w hnum
  by_cases h6 : k = 6
  · subst h6
    exact asked_6 ln cl sz num tx w hnum
  by_cases h7 : k = 7
  · subst h7
    exact asked_7 ln cl sz num tx w hnum
  by_cases h8 : k = 8
  · subst h8
    exact asked_8 ln cl sz num tx w hnum
  by_cases h9 : k = 9
  · subst h9
    exact asked_9 ln cl sz num tx w hnum
  by_cases h10 : k = 10
  · subst h10
    exact asked_10 ln cl sz num tx w hnum
  by_cases h11 : k = 11
  · subst h11
    exact asked_11 ln cl sz num tx w hnum
  by_cases h13 : k = 13
  · subst h13
    exact asked_13 ln cl sz num tx w hnum
  by_cases h27 : k = 27
  · subst h27
    exact asked_27 ln cl sz num tx w hnum
  by_cases h12 : k = 12
  · subst h12
    exact asked_12 ln cl sz num tx w hnum
  by_cases h29 : k = 29
  · subst h29
    exact asked_29 ln cl sz num tx w hnum
  by_cases h30 : k = 30
  · subst h30
    exact asked_30 ln cl sz num tx w hnum
  by_cases h28 : k = 28
  · subst h28
    exact asked_28 ln cl sz num tx w hnum
  by_cases h31 : k = 31
  · subst h31
    exact asked_31 ln cl sz num tx w hnum
  by_cases h32 : k = 32
  · subst h32
    exact asked_32 ln cl sz num tx w hnum
  have e : askB k num = justB [] := by
    unfold askB
    split <;> first | rfl | omega
  rw [e]
  exact asked_else k ⟨h1, h2, h3, h5, h20, h4, h6, h7, h8, h9, h10, h11, h13, h27, h12, h29, h30, h28, h31, h32⟩ ln cl sz num tx w hnum

end Go.Proofs.Ytogpfbmkbnooeaa
