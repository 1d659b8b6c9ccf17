/-
  Contracts of the document's digits (package hindcastref01).
-/
import Derived.Test.YtddeiidkmihkkaaRows
import Derived.WalkKit
import Derived.WalkSpells
import Derived.WalkLawsBesides
import Derived.Lib.Hide
import Derived.Handy
namespace Go.Proofs.Ytddeiidkmihkkaa.Nm
open Go.RowKit

def Digs (x d0 d1 d2 d3 d4 d5 d6 d7 : Int) : Prop :=
  (0 ≤ d0 ∧ d0 ≤ 255) ∧ (0 ≤ d1 ∧ d1 ≤ 255) ∧ (0 ≤ d2 ∧ d2 ≤ 255) ∧ (0 ≤ d3 ∧ d3 ≤ 255) ∧ (0 ≤ d4 ∧ d4 ≤ 255) ∧ (0 ≤ d5 ∧ d5 ≤ 255) ∧ (0 ≤ d6 ∧ d6 ≤ 255) ∧ (0 ≤ d7 ∧ d7 ≤ 255) ∧
  x = d0 + 256 * d1 + 65536 * d2 + 16777216 * d3 + 4294967296 * d4 + 1099511627776 * d5 + 281474976710656 * d6 + 72057594037927936 * d7

/-- A row of eight digits, as a value. -/
abbrev dv (d0 d1 d2 d3 d4 d5 d6 d7 : Int) : Value := .agg #[.int .i64 d0, .int .i64 d1, .int .i64 d2, .int .i64 d3, .int .i64 d4, .int .i64 d5, .int .i64 d6, .int .i64 d7]
def RetD (x : Int) (w : World) (e : Ending) (w' : World) : Prop :=
  ∃ d0 d1 d2 d3 d4 d5 d6 d7 : Int, Digs x d0 d1 d2 d3 d4 d5 d6 d7 ∧ e = .returned (.agg #[.int .i64 d0, .int .i64 d1, .int .i64 d2, .int .i64 d3, .int .i64 d4, .int .i64 d5, .int .i64 d6, .int .i64 d7]) ∧ Below w.heap.size w w'
def BitB (x : Int) : Bool := decide (9223372036854775808 ≤ x)

theorem ret_int {k : IntKind} {a b : Int} (h : a = b) : Ending.returned (.int k a) = .returned (.int k b) := by rw [h]
theorem ret_bool {a b : Bool} (h : a = b) : Ending.returned (.bool a) = .returned (.bool b) := by rw [h]

theorem digs_of (u : Int) (h0 : 0 ≤ u) (h1 : u ≤ 18446744073709551615) :
    Digs u (u % 256) (u / 256 % 256) (u / 256 / 256 % 256) (u / 256 / 256 / 256 % 256) (u / 256 / 256 / 256 / 256 % 256) (u / 256 / 256 / 256 / 256 / 256 % 256) (u / 256 / 256 / 256 / 256 / 256 / 256 % 256) (u / 256 / 256 / 256 / 256 / 256 / 256 / 256 % 256) := by
  unfold Digs; omega

set_option maxHeartbeats 400000 in
theorem number_any (x d0 d1 d2 d3 d4 d5 d6 d7 : Int) (w : World) (hd : Digs x d0 d1 d2 d3 d4 d5 d6 d7) :
    Calls Try.prog 43 #[dv d0 d1 d2 d3 d4 d5 d6 d7] w fun e w' => e = .returned (.int .i64 (wrap64 x)) ∧ Below w.heap.size w w' := by
  obtain ⟨⟨p0, q0⟩, ⟨p1, q1⟩, ⟨p2, q2⟩, ⟨p3, q3⟩, ⟨p4, q4⟩, ⟨p5, q5⟩, ⟨p6, q6⟩, ⟨p7, q7⟩, hx⟩ := hd
  have HX := Lib.hid hx
  clear hx
  go_enter Try.func43, Try.ntmps43
  go_wp2
  go_rounds 9
  go_ret
  refine ⟨ret_int (congrArg wrap64 ?_), by go_grown⟩
  rw [HX.out]; omega

set_option maxHeartbeats 400000 in
theorem of_any (a : Int) (w : World) :
    Calls Try.prog 42 #[.int .i64 a] w (RetD (IntKind.u64.wrap a) w) := by
  have hb : 0 ≤ IntKind.u64.wrap a ∧ IntKind.u64.wrap a ≤ 18446744073709551615 := by rw [IntKind.wrap_u64]; omega
  obtain ⟨u, hu⟩ : ∃ u, IntKind.u64.wrap a = u := ⟨_, rfl⟩
  rw [hu] at hb ⊢
  obtain ⟨h0, h1⟩ := hb
  have HD := Lib.hid (digs_of u h0 h1)
  go_enter Try.func42, Try.ntmps42
  go_wp2
  go_rounds 9
  go_returns
  exact ⟨_, _, _, _, _, _, _, _, HD.out, rfl, by go_grown⟩

end Go.Proofs.Ytddeiidkmihkkaa.Nm
