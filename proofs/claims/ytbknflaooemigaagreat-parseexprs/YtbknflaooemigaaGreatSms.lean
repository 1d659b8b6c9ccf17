/-
 '==' between nodes and between faults; contracts of the document's Same and Equal (layer 5). Conditions: rows of at most 1000000 nodes.
-/
import Derived.Test.YtbknflaooemigaaGreatRd6
import Derived.Laws.StructEq
import Derived.Lib.QuietBelow
namespace Go.Proofs.YtbknflaooemigaaGreat
open Go.RowKit Go.Sort
set_option linter.unusedVariables false

theorem equalIn_self (k : Nat) (ln cl s num : Int) (tx : ByteArray) (w : World) : (Op.equalIn 10000 32 (.agg #[.int .u8 (k : Nat), .int .i64 ln, .int .i64 cl, .int .i64 s, .int .i64 num, .string tx]) (.agg #[.int .u8 (k : Nat), .int .i64 ln, .int .i64 cl, .int .i64 s, .int .i64 num, .string tx])).run Tryz.prog w = .ok true w := by
 have u2 := Tryz.underlying2
 have a2 := Tryz.isAgg2
 have z2 := Tryz.sizeOf2
 have u3 := Tryz.underlying3
 have a3 := Tryz.isAgg3
 have z3 := Tryz.sizeOf3
 have u5 := Tryz.underlying5
 have a5 := Tryz.isAgg5
 have z5 := Tryz.sizeOf5
 have u9 := Tryz.underlying9
 have a9 := Tryz.isAgg9
 have z9 := Tryz.sizeOf9
 have hS : Tryz.prog.underlying 32 = some (.struct (Tryz.prog.fieldsOf 32)) := by kernel_rfl
 have hp : Tryz.prog.stoodInHeld 32 = false := by kernel_rfl
 rw [show (10000 : Nat) = 9999 + 1 from rfl, run_equalIn_agg w 9999 32 _ _ hS hp]
 simp only [Program.fieldsOf, Tryz.underlying32]
 go_simp

theorem guard_nd (op : BinOp) (x y : Operand) (A B : Array Value) (w : World) : (eqGuard op 32 x y (.agg A) (.agg B)).run Tryz.prog w = .ok () w :=
 run_eqGuard_agg w op 32 x y _ _ (by kernel_rfl)

theorem neq_self (k : Nat) (ln cl s num : Int) (tx : ByteArray) (w : World) : (binOp .neq 32 (.agg #[.int .u8 (k : Nat), .int .i64 ln, .int .i64 cl, .int .i64 s, .int .i64 num, .string tx]) (.agg #[.int .u8 (k : Nat), .int .i64 ln, .int .i64 cl, .int .i64 s, .int .i64 num, .string tx])).run Tryz.prog w = .ok (.bool false) w := by
 rw [run_neq_struct, equalIn_self]; rfl
theorem eql_self (k : Nat) (ln cl s num : Int) (tx : ByteArray) (w : World) : (binOp .eql 32 (.agg #[.int .u8 (k : Nat), .int .i64 ln, .int .i64 cl, .int .i64 s, .int .i64 num, .string tx]) (.agg #[.int .u8 (k : Nat), .int .i64 ln, .int .i64 cl, .int .i64 s, .int .i64 num, .string tx])).run Tryz.prog w = .ok (.bool true) w := by
 rw [run_eql_struct, equalIn_self]; rfl
theorem equalIn_fau (a b c d e f : Int) (w : World) : (Op.equalIn 10000 26 (.agg #[.int .i64 a, .int .i64 b, .int .i64 c]) (.agg #[.int .i64 d, .int .i64 e, .int .i64 f])).run Tryz.prog w = .ok ((a == d) && (b == e) && (c == f)) w := by
 have u3 := Tryz.underlying3
 have a3 := Tryz.isAgg3
 have z3 := Tryz.sizeOf3
 have u24 := Tryz.underlying24
 have a24 := Tryz.isAgg24
 have z24 := Tryz.sizeOf24
 have hS : Tryz.prog.underlying 26 = some (.struct (Tryz.prog.fieldsOf 26)) := by kernel_rfl
 have hp : Tryz.prog.stoodInHeld 26 = false := by kernel_rfl
 rw [show (10000 : Nat) = 9999 + 1 from rfl, run_equalIn_agg w 9999 26 _ _ hS hp]
 simp only [Program.fieldsOf, Tryz.underlying26]
 go_simp
 by_cases h1 : a = d <;> by_cases h2 : b = e <;> by_cases h3 : c = f <;> simp [h1, h2, h3]

theorem eql_fau (a b c d e f : Int) (t : Bool) (h : ((a == d) && (b == e) && (c == f)) = t) (w : World) : (binOp .eql 26 (.agg #[.int .i64 a, .int .i64 b, .int .i64 c]) (.agg #[.int .i64 d, .int .i64 e, .int .i64 f])).run Tryz.prog w = .ok (.bool t) w := by
 rw [run_eql_struct, equalIn_fau, h]; rfl
theorem guard_fau (op : BinOp) (x y : Operand) (A B : Array Value) (w : World) : (eqGuard op 26 x y (.agg A) (.agg B)).run Tryz.prog w = .ok () w :=
 run_eqGuard_agg w op 26 x y _ _ (by kernel_rfl)

end Go.Proofs.YtbknflaooemigaaGreat
