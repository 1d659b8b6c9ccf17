/-
  '==' between nodes; contracts of tree.Same and of the function that it hands on, of slices.EqualFunc at nodes, of the document's Same and Equal. Conditions: rows of at most 1000000 nodes.
-/
import Derived.Test.YtogpfbmkbnooeaaBar
import Derived.Laws.StructEq
import Derived.Lib.QuietBelow
namespace Go.Proofs.Ytogpfbmkbnooeaa
open Go.RowKit Go.Sort
set_option linter.unusedVariables false

/-- The same but for places. -/
def eqN (x y : Nd) : Bool := (x.kind == y.kind) && ((x.size == y.size) && ((x.num == y.num) && (x.text.data.toList == y.text.data.toList)))
def sameB (l m : List Nd) : Bool := decide (l.length = m.length) && (List.range l.length).all fun i => eqN (nd l i) (nd m i)

theorem equalIn_nd (k k' : Nat) (s s' num num' : Int) (tx tx' : ByteArray) (w : World) : (Op.equalIn 10000 31 (.agg #[.int .u8 (k : Nat), .int .i64 0, .int .i64 0, .int .i64 s, .int .i64 num, .string tx]) (.agg #[.int .u8 (k' : Nat), .int .i64 0, .int .i64 0, .int .i64 s', .int .i64 num', .string tx'])).run Try.prog w = .ok ((k == k') && ((s == s') && ((num == num') && (tx.data.toList == tx'.data.toList)))) w := by
  have u2 := Try.underlying2
  have a2 := Try.isAgg2
  have z2 := Try.sizeOf2
  have u3 := Try.underlying3
  have a3 := Try.isAgg3
  have z3 := Try.sizeOf3
  have u5 := Try.underlying5
  have a5 := Try.isAgg5
  have z5 := Try.sizeOf5
  have u9 := Try.underlying9
  have a9 := Try.isAgg9
  have z9 := Try.sizeOf9
  have hS : Try.prog.underlying 31 = some (.struct (Try.prog.fieldsOf 31)) := by kernel_rfl
  have hp : Try.prog.stoodInHeld 31 = false := by kernel_rfl
  rw [show (10000 : Nat) = 9999 + 1 from rfl, run_equalIn_agg w 9999 31 _ _ hS hp]
  simp only [Program.fieldsOf, Try.underlying31]
  go_simp
  by_cases h1 : k = k' <;> by_cases h2 : s = s' <;> by_cases h3 : num = num' <;> by_cases h4 : tx.data = tx'.data <;> simp [h1, h2, h3, h4, ByteArray.toList_eq, Int.natCast_inj]

theorem equalIn_self (k : Nat) (ln cl s num : Int) (tx : ByteArray) (w : World) : (Op.equalIn 10000 31 (.agg #[.int .u8 (k : Nat), .int .i64 ln, .int .i64 cl, .int .i64 s, .int .i64 num, .string tx]) (.agg #[.int .u8 (k : Nat), .int .i64 ln, .int .i64 cl, .int .i64 s, .int .i64 num, .string tx])).run Try.prog w = .ok true w := by
  have u2 := Try.underlying2
  have a2 := Try.isAgg2
  have z2 := Try.sizeOf2
  have u3 := Try.underlying3
  have a3 := Try.isAgg3
  have z3 := Try.sizeOf3
  have u5 := Try.underlying5
  have a5 := Try.isAgg5
  have z5 := Try.sizeOf5
  have u9 := Try.underlying9
  have a9 := Try.isAgg9
  have z9 := Try.sizeOf9
  have hS : Try.prog.underlying 31 = some (.struct (Try.prog.fieldsOf 31)) := by kernel_rfl
  have hp : Try.prog.stoodInHeld 31 = false := by kernel_rfl
  rw [show (10000 : Nat) = 9999 + 1 from rfl, run_equalIn_agg w 9999 31 _ _ hS hp]
  simp only [Program.fieldsOf, Try.underlying31]
  go_simp

theorem eql_nd (k k' : Nat) (s s' num num' : Int) (tx tx' : ByteArray) (t : Bool) (h : ((k == k') && ((s == s') && ((num == num') && (tx.data.toList == tx'.data.toList)))) = t) (w : World) : (binOp .eql 31 (.agg #[.int .u8 (k : Nat), .int .i64 0, .int .i64 0, .int .i64 s, .int .i64 num, .string tx]) (.agg #[.int .u8 (k' : Nat), .int .i64 0, .int .i64 0, .int .i64 s', .int .i64 num', .string tx'])).run Try.prog w = .ok (.bool t) w := by
  rw [run_eql_struct, equalIn_nd, h]; rfl
theorem neq_self (k : Nat) (ln cl s num : Int) (tx : ByteArray) (w : World) : (binOp .neq 31 (.agg #[.int .u8 (k : Nat), .int .i64 ln, .int .i64 cl, .int .i64 s, .int .i64 num, .string tx]) (.agg #[.int .u8 (k : Nat), .int .i64 ln, .int .i64 cl, .int .i64 s, .int .i64 num, .string tx])).run Try.prog w = .ok (.bool false) w := by
  rw [run_neq_struct, equalIn_self]; rfl
theorem guard_nd (op : BinOp) (x y : Operand) (A B : Array Value) (w : World) : (eqGuard op 31 x y (.agg A) (.agg B)).run Try.prog w = .ok () w :=
  run_eqGuard_agg w op 31 x y _ _ (by kernel_rfl)

set_option maxHeartbeats 1000000 in
theorem same1_any (x y : Nd) (w : World) (t : Bool) (ht : eqN x y = t) : Calls Try.prog 38 #[ndV x, ndV y] w fun e w' => e = .returned (.bool t) ∧ Below w.heap.size w w' := by
  obtain ⟨k, ln, cl, s, num, tx⟩ := x
  obtain ⟨k', ln', cl', s', num', tx'⟩ := y
  have hq := eql_nd k k' s s' num num' tx tx' t ht
  have hgd := guard_nd
  have H1 := Lib.hid (fun w => without_any ⟨k, ln, cl, s, num, tx⟩ w)
  have H2 := Lib.hid (fun w => without_any ⟨k', ln', cl', s', num', tx'⟩ w)
  clear ht
  go_enter Try.func38, Try.ntmps38
  go_wp2_with fail
  have hB : Below w.heap.size w ((w.alloc (.cells #[.int .u8 (k : Nat), .int .i64 ln, .int .i64 cl, .int .i64 s, .int .i64 num, .string tx] 31)).alloc (.cells #[.int .u8 (k' : Nat), .int .i64 ln', .int .i64 cl', .int .i64 s', .int .i64 num', .string tx'] 31)) := by go_grown
  obtain ⟨W, hW⟩ : ∃ W, W = ((w.alloc (.cells #[.int .u8 (k : Nat), .int .i64 ln, .int .i64 cl, .int .i64 s, .int .i64 num, .string tx] 31)).alloc (.cells #[.int .u8 (k' : Nat), .int .i64 ln', .int .i64 cl', .int .i64 s', .int .i64 num', .string tx'] 31)) := ⟨_, rfl⟩
  rw [← hW] at hB ⊢
  have kx0 := fun d os => cell_regrown (w := W) (a := ⟨w.heap.size, 0, none⟩) (v := .int .u8 (k : Nat)) (by rw [hW]; simp [go_sem]) d os
  have ky0 := fun d os => cell_regrown (w := W) (a := ⟨w.heap.size + 1, 0, none⟩) (v := .int .u8 (k' : Nat)) (by rw [hW]; simp [go_sem]) d os
  have kx1 := fun d os => cell_regrown (w := W) (a := ⟨w.heap.size, 1, none⟩) (v := .int .i64 ln) (by rw [hW]; simp [go_sem]) d os
  have ky1 := fun d os => cell_regrown (w := W) (a := ⟨w.heap.size + 1, 1, none⟩) (v := .int .i64 ln') (by rw [hW]; simp [go_sem]) d os
  have kx2 := fun d os => cell_regrown (w := W) (a := ⟨w.heap.size, 2, none⟩) (v := .int .i64 cl) (by rw [hW]; simp [go_sem]) d os
  have ky2 := fun d os => cell_regrown (w := W) (a := ⟨w.heap.size + 1, 2, none⟩) (v := .int .i64 cl') (by rw [hW]; simp [go_sem]) d os
  have kx3 := fun d os => cell_regrown (w := W) (a := ⟨w.heap.size, 3, none⟩) (v := .int .i64 s) (by rw [hW]; simp [go_sem]) d os
  have ky3 := fun d os => cell_regrown (w := W) (a := ⟨w.heap.size + 1, 3, none⟩) (v := .int .i64 s') (by rw [hW]; simp [go_sem]) d os
  have kx4 := fun d os => cell_regrown (w := W) (a := ⟨w.heap.size, 4, none⟩) (v := .int .i64 num) (by rw [hW]; simp [go_sem]) d os
  have ky4 := fun d os => cell_regrown (w := W) (a := ⟨w.heap.size + 1, 4, none⟩) (v := .int .i64 num') (by rw [hW]; simp [go_sem]) d os
  have kx5 := fun d os => cell_regrown (w := W) (a := ⟨w.heap.size, 5, none⟩) (v := .string tx) (by rw [hW]; simp [go_sem]) d os
  have ky5 := fun d os => cell_regrown (w := W) (a := ⟨w.heap.size + 1, 5, none⟩) (v := .string tx') (by rw [hW]; simp [go_sem]) d os
  have cH1 : ∀ dd os, Calls Try.prog 36 #[.agg #[.int .u8 (k : Nat), .int .i64 ln, .int .i64 cl, .int .i64 s, .int .i64 num, .string tx]] (grow (redrawn W dd) os) fun e w'' => e = .returned (.agg #[.int .u8 (k : Nat), .int .i64 0, .int .i64 0, .int .i64 s, .int .i64 num, .string tx]) ∧ ∃ p : Regrown, w'' = grow (redrawn W p.d) p.os := fun dd os => Calls.regrown_of (H1.out _)
  have cH2 : ∀ dd os, Calls Try.prog 36 #[.agg #[.int .u8 (k' : Nat), .int .i64 ln', .int .i64 cl', .int .i64 s', .int .i64 num', .string tx']] (grow (redrawn W dd) os) fun e w'' => e = .returned (.agg #[.int .u8 (k' : Nat), .int .i64 0, .int .i64 0, .int .i64 s', .int .i64 num', .string tx']) ∧ ∃ p : Regrown, w'' = grow (redrawn W p.d) p.os := fun dd os => Calls.regrown_of (H2.out _)
  clear hW H1 H2
  refine wp_region_quiet_below (by kernel_rfl) (by kernel_rfl) ?_
  repeat (quiet_step (first | with_reducible exact cH1 _ _ | with_reducible exact cH2 _ _))
  refine wpQuiet_nil ?_
  intro _ hw'
  obtain ⟨⟨dq, osq⟩, hw''⟩ := hw'
  subst hw''
  go_wp2_with fail
  go_ret
  exact ⟨rfl, below_step hB (below_regrown W dq osq)⟩

end Go.Proofs.Ytogpfbmkbnooeaa
