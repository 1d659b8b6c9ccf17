/-
 Contracts and plain facts on the way to PrettyAgain. Conditions: as each says.
-/
import Derived.Test.YtoaplbljflhheaaGreatAab
set_option maxHeartbeats 40000000
set_option maxRecDepth 100000
set_option linter.unusedVariables false
set_option linter.unusedSimpArgs false
namespace Go.Proofs.YtoaplbljflhheaaGreat
open _root_.Go.Proofs.Tryz
section
open Go.RowKit
structure Nd where
 kind : Nat
 line : Int
 col : Int
 size : Int
 num : Int
 text : ByteArray
def A9 (z : Int) : Prop := -9223372036854775808 ≤ z ∧ z ≤ 9223372036854775807
structure Nd.wf (n : Nd) : Prop where
 kind : n.kind < 256
 line : A9 n.line
 col : A9 n.col
 size : A9 n.size
 num : A9 n.num
 text : n.text.size ≤ maxLen
def nd0 : Nd := ⟨0, 0, 0, 0, 0, { data := #[] }⟩
def nd (l : List Nd) (i : Nat) : Nd := l.getD i nd0
def sz (l : List Nd) (i : Nat) : Int := (nd l i).size
def Bz (n : Nd) : List Value := [.int .u8 n.kind, .int .i64 n.line, .int .i64 n.col, .int .i64 n.size, .int .i64 n.num, .string n.text]
abbrev ndV (n : Nd) : Value := .agg #[.int .u8 n.kind, .int .i64 n.line, .int .i64 n.col, .int .i64 n.size, .int .i64 n.num, .string n.text]
structure At (w : World) (b o : Nat) (n : Nd) : Prop where
 c0 : w.cell? ⟨b, o, none⟩ = some (.int .u8 n.kind)
 c1 : w.cell? ⟨b, o + 1, none⟩ = some (.int .i64 n.line)
 c2 : w.cell? ⟨b, o + 2, none⟩ = some (.int .i64 n.col)
 c3 : w.cell? ⟨b, o + 3, none⟩ = some (.int .i64 n.size)
 c4 : w.cell? ⟨b, o + 4, none⟩ = some (.int .i64 n.num)
 c5 : w.cell? ⟨b, o + 5, none⟩ = some (.string n.text)
theorem At.carry {w w' : World} {b o : Nat} {n : Nd} (h : At w b o n) (hb : Below w.heap.size w w') : At w' b o n :=
 ⟨Ac hb h.c0, Ac hb h.c1, Ac hb h.c2, Ac hb h.c3, Ac hb h.c4, Ac hb h.c5⟩
def Row (w : World) (a : Option Addr) (l : List Nd) : Prop :=
 ∀ i, i < l.length → ∃ b o, a = some ⟨b, o, none⟩ ∧ At w b (o + i * 6) (nd l i) ∧ (nd l i).wf
theorem Row.carry {w w' : World} {a : Option Addr} {l : List Nd} (h : Row w a l) (hb : Below w.heap.size w w') : Row w' a l := fun i hi => by
 obtain ⟨b, o, h1, h2, h3⟩ := h i hi;exact ⟨b, o, h1, h2.carry hb, h3⟩
end
end Go.Proofs.YtoaplbljflhheaaGreat
