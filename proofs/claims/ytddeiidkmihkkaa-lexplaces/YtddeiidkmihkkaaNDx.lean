/-
  The document's rows of digits as functions of the number, and their contracts. Conditions: the number is from 0 to 2^64 - 1.
-/
import Derived.Test.YtddeiidkmihkkaaNMinus
import Derived.Lib.QuietBelow
namespace Go.Proofs.Ytddeiidkmihkkaa.Nm
open Go.RowKit Go.Sort

/-- Digit number i to the base 256. -/
def dg (i : Nat) (x : Int) : Int := x / (256 ^ i : Nat) % 256
abbrev dx (x : Int) : Value := .agg #[.int .i64 (dg 0 x), .int .i64 (dg 1 x), .int .i64 (dg 2 x), .int .i64 (dg 3 x), .int .i64 (dg 4 x), .int .i64 (dg 5 x), .int .i64 (dg 6 x), .int .i64 (dg 7 x)]
def In64 (x : Int) : Prop := 0 ≤ x ∧ x ≤ 18446744073709551615

theorem digs_dg {x : Int} (h : In64 x) : Digs x (dg 0 x) (dg 1 x) (dg 2 x) (dg 3 x) (dg 4 x) (dg 5 x) (dg 6 x) (dg 7 x) := by
  unfold In64 at h
  simp only [Digs, dg, Nat.reducePow]
  omega
theorem digs_uniq {x d0 d1 d2 d3 d4 d5 d6 d7 : Int} (h : Digs x d0 d1 d2 d3 d4 d5 d6 d7) : d0 = dg 0 x ∧ d1 = dg 1 x ∧ d2 = dg 2 x ∧ d3 = dg 3 x ∧ d4 = dg 4 x ∧ d5 = dg 5 x ∧ d6 = dg 6 x ∧ d7 = dg 7 x := by
  unfold Digs at h
  simp only [dg, Nat.reducePow]
  obtain ⟨h0, h1, h2, h3, h4, h5, h6, h7, hx⟩ := h
  refine ⟨?_, ?_, ?_, ?_, ?_, ?_, ?_, ?_⟩ <;> omega
theorem det {P : Program} {f : FuncId} {args : Array Value} {x : Int} {w : World} (h : Calls P f args w (RetD x w)) :
    Calls P f args w fun e w' => e = .returned (dx x) ∧ Below w.heap.size w w' :=
  h.mono fun e w' ⟨d0, d1, d2, d3, d4, d5, d6, d7, hd, he, hb⟩ => by
    obtain ⟨e0, e1, e2, e3, e4, e5, e6, e7⟩ := digs_uniq hd
    refine ⟨?_, hb⟩
    rw [he, e0, e1, e2, e3, e4, e5, e6, e7]

theorem of_dx (a u : Int) (w : World) (hu : IntKind.u64.wrap a = u) : Calls Try.prog 42 #[.int .i64 a] w fun e w' => e = .returned (dx u) ∧ Below w.heap.size w w' := det (of_at a u w hu)
theorem plus_dx (x y z : Int) (w : World) (hx : In64 x) (hy : In64 y) (hz : (x + y) % 18446744073709551616 = z) :
    Calls Try.prog 49 #[dx x, dx y] w fun e w' => e = .returned (dx z) ∧ Below w.heap.size w w' := det (plus_at x y z _ _ _ _ _ _ _ _ _ _ _ _ _ _ _ _ w (digs_dg hx) (digs_dg hy) hz)
theorem minus_dx (x z : Int) (w : World) (hx : In64 x) (hz : (18446744073709551616 - x) % 18446744073709551616 = z) :
    Calls Try.prog 41 #[dx x] w fun e w' => e = .returned (dx z) ∧ Below w.heap.size w w' := det (minus_at x z _ _ _ _ _ _ _ _ w (digs_dg hx) hz)
theorem number_dx (x n : Int) (w : World) (hx : In64 x) (hn : wrap64 x = n) :
    Calls Try.prog 43 #[dx x] w fun e w' => e = .returned (.int .i64 n) ∧ Below w.heap.size w w' := number_at x n _ _ _ _ _ _ _ _ w (digs_dg hx) hn

theorem same_below {P : Program} {f : FuncId} {args : Array Value} {v : Value} {w : World} (h : Calls P f args w fun e w' => e = .returned v ∧ w = w') :
    Calls P f args w fun e w' => e = .returned v ∧ Below w.heap.size w w' := h.mono fun _ _ ⟨he, hw⟩ => ⟨he, hw ▸ Below.refl _ _⟩

theorem in64 (n : Nat) (h : n ≤ 9223372036854775808) : In64 (n : Int) := by unfold In64; omega
theorem back64 (n : Nat) (h : n ≤ 9223372036854775808) : IntKind.u64.wrap (wrap64 n) = n := by rw [IntKind.wrap_u64]; unfold wrap64; omega
theorem in64m (n : Int) : In64 (n % 18446744073709551616) := by unfold In64; omega

end Go.Proofs.Ytddeiidkmihkkaa.Nm
