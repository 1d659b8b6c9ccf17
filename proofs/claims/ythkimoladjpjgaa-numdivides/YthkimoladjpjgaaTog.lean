/-
  The walk of the law NumTogether out of its callees' contracts. Conditions: the divisor isn't 0; what is said of the numbers.
-/
import Derived.Test.YthkimoladjpjgaaNum
import Derived.Test.YthkimoladjpjgaaMinus
namespace Go.Proofs.Ythkimoladjpjgaa
open Go.RowKit

theorem size_at (a s : Int) (w : World) (h0 : -9223372036854775808 ≤ a) (h1 : a ≤ 9223372036854775807) (hs : (a.natAbs : Int) = s) :
    Calls Try.prog 25 #[.int .i64 a] w fun e w' => e = .returned (.int .u64 s) ∧ Below w.heap.size w w' := hs ▸ size_any a w h0 h1

set_option maxHeartbeats 400000 in
theorem together_zero (a : Int) (w : World) :
    Calls Try.prog 7 #[.int .i64 a, .int .i64 0] w fun e w' => e = .returned (.bool true) ∧ Below w.heap.size w w' := by
  go_enter Try.func7, Try.ntmps7
  go_wp2_with fail
  refine (awake_any _).mono ?_
  rintro e w' ⟨rfl, rfl⟩
  go_wp2
  go_ret
  exact ⟨rfl, Below.refl _ _⟩

set_option maxHeartbeats 400000 in
theorem together_core (a b q r m sr sb : Int) (w : World) (hb : (b == 0) = false)
    (H1 : Hid (∀ w, Calls Try.prog 22 #[.int .i64 a, .int .i64 b] w fun e w' => e = .returned (.tuple #[.int .i64 q, .bool true]) ∧ w = w'))
    (H2 : Hid (∀ w, Calls Try.prog 23 #[.int .i64 a, .int .i64 b] w fun e w' => e = .returned (.tuple #[.int .i64 r, .bool true]) ∧ w = w'))
    (H3 : Hid (∀ w, Calls Try.prog 20 #[.int .i64 q, .int .i64 b] w fun e w' => e = .returned (.int .i64 m) ∧ w = w'))
    (H4 : Hid (∀ w, Calls Try.prog 13 #[.int .i64 m, .int .i64 r] w fun e w' => e = .returned (.int .i64 a) ∧ w = w'))
    (H5 : Hid (∀ w, Calls Try.prog 25 #[.int .i64 r] w fun e w' => e = .returned (.int .u64 sr) ∧ Below w.heap.size w w'))
    (H6 : Hid (∀ w, Calls Try.prog 25 #[.int .i64 b] w fun e w' => e = .returned (.int .u64 sb) ∧ Below w.heap.size w w'))
    (hlt : sr < sb) (hc : (r = 0) ∨ (r < 0 ∧ a < 0) ∨ (0 < r ∧ 0 ≤ a)) :
    Calls Try.prog 7 #[.int .i64 a, .int .i64 b] w fun e w' => e = .returned (.bool true) ∧ Below w.heap.size w w' := by
  rcases hc with rfl | ⟨h1, h2⟩ | ⟨h1, h2⟩
  all_goals
    go_enter Try.func7, Try.ntmps7
    go_wp2_with fail
    refine (H1.out _).mono ?_
    rintro e w' ⟨rfl, rfl⟩
    go_wp2_with fail
    refine (H2.out _).mono ?_
    rintro e w' ⟨rfl, rfl⟩
    go_wp2_with fail
    refine (H3.out _).mono ?_
    rintro e w' ⟨rfl, rfl⟩
    go_wp2_with fail
    refine (H4.out _).mono ?_
    rintro e w' ⟨rfl, rfl⟩
    go_wp2_with fail
    refine (H5.out _).mono ?_
    rintro e w1 ⟨rfl, hb1⟩
    go_wp2_with fail
    refine (H6.out _).mono ?_
    rintro e w2 ⟨rfl, hb2⟩
    go_wp2_with fail
    refine (awake_any _).mono ?_
    rintro e w' ⟨rfl, rfl⟩
    go_wp2
    go_ret
    exact ⟨rfl, below_step hb1 hb2⟩

end Go.Proofs.Ythkimoladjpjgaa
