/-
  An operation in memory. Conditions: none.
-/
import Derived.Test.YtfeeikajekemlaaSm
import Derived.Test.YtfeeikajekemlaaFl
namespace Go.Proofs.Ytfeeikajekemlaa
open Go.RowKit
set_option linter.unusedVariables false
set_option linter.unusedSimpArgs false

structure Op where
  kind : Int
  of : Int
  n : Int
  text : ByteArray
  v : Vl
  x : Vl
  vals : List Vl
/-- Its cells; its fields lie at a, of so many. -/
def opCells (o : Op) (a : Option Addr) (n c : Nat) : List Value := [.int .i64 o.kind, .int .i64 o.of, .int .i64 o.n, .string o.text, .int .u8 o.v.kind, .int .i64 o.v.n, .int .i64 o.v.re, .int .i64 o.v.im, .int .u8 o.x.kind, .int .i64 o.x.n, .int .i64 o.x.re, .int .i64 o.x.im, .slice a n c]
abbrev opV (o : Op) (a : Option Addr) (n c : Nat) : Value := .agg #[.int .i64 o.kind, .int .i64 o.of, .int .i64 o.n, .string o.text, .int .u8 o.v.kind, .int .i64 o.v.n, .int .i64 o.v.re, .int .i64 o.v.im, .int .u8 o.x.kind, .int .i64 o.x.n, .int .i64 o.x.re, .int .i64 o.x.im, .slice a n c]
def opF (o : Op) (a : Option Addr) (n c : Nat) (j : Nat) : Value := (opCells o a n c).getD j (.bool false)
theorem op_box (w : World) (o : Op) (a : Option Addr) (n c : Nat) : (w.alloc (.cells #[.int .i64 o.kind, .int .i64 o.of, .int .i64 o.n, .string o.text, .int .u8 o.v.kind, .int .i64 o.v.n, .int .i64 o.v.re, .int .i64 o.v.im, .int .u8 o.x.kind, .int .i64 o.x.n, .int .i64 o.x.re, .int .i64 o.x.im, .slice a n c] 38)).rowIs w.heap.size 38 13 (opF o a n c) :=
  World.rowIs_alloc w #[.int .i64 o.kind, .int .i64 o.of, .int .i64 o.n, .string o.text, .int .u8 o.v.kind, .int .i64 o.v.n, .int .i64 o.v.re, .int .i64 o.v.im, .int .u8 o.x.kind, .int .i64 o.x.n, .int .i64 o.x.re, .int .i64 o.x.im, .slice a n c] 38 (opF o a n c) (fun i hi => by
    have : i < 13 := hi
    match i, this with
    | 0, _ => rfl
    | 1, _ => rfl
    | 2, _ => rfl
    | 3, _ => rfl
    | 4, _ => rfl
    | 5, _ => rfl
    | 6, _ => rfl
    | 7, _ => rfl
    | 8, _ => rfl
    | 9, _ => rfl
    | 10, _ => rfl
    | 11, _ => rfl
    | 12, _ => rfl)
/-- Thirteen cells of an operation. -/
structure AtP (w : World) (b o : Nat) (p : Op) (a : Option Addr) (n c : Nat) : Prop where
  all : ∀ j, j < 13 → w.cell? ⟨b, o + j, none⟩ = some (opF p a n c j)
/-- A row of operations. -/
def RP (w : World) (a : Option Addr) (l : List Op) (dflt : Op) : Prop :=
  ∀ i, i < l.length → ∃ b o ad n c, a = some ⟨b, o, none⟩ ∧ AtP w b (o + i * 13) (l.getD i dflt) ad n c ∧ (l.getD i dflt).vals.length = n ∧ (ad = none → n = 0 ∧ c = 0) ∧ RV (fun _ => True) w ad (l.getD i dflt).vals
theorem AtP.carry {w w' : World} {b o : Nat} {p : Op} {a : Option Addr} {n c : Nat} (h : AtP w b o p a n c) (hb : Below w.heap.size w w') : AtP w' b o p a n c := ⟨fun j hj => cell_carry hb (h.all j hj)⟩

end Go.Proofs.Ytfeeikajekemlaa
