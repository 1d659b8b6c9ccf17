/-
  The walk of the law NumProducts out of its callees' contracts. Conditions: those contracts.
-/
import Derived.Test.YthkimoladjpjgaaNum
import Derived.Test.YthkimoladjpjgaaDx
import Derived.Test.YthkimoladjpjgaaTimes
namespace Go.Proofs.Ythkimoladjpjgaa
open Go.RowKit Go.Sort

theorem times_dx (x y z : Int) (w : World) (hx : In64 x) (hy : In64 y) (hz : x * y % 18446744073709551616 = z) :
    Calls Try.prog 21 #[dx x, dx y] w fun e w' => e = .returned (dx z) ∧ Below w.heap.size w w' :=
  hz ▸ det (times_any x y _ _ _ _ _ _ _ _ _ _ _ _ _ _ _ _ w (digs_dg hx) (digs_dg hy))

set_option maxHeartbeats 400000 in
theorem products_core (a b u v p z : Int) (w : World)
    (H1 : Hid (∀ w, Calls Try.prog 20 #[.int .i64 a, .int .i64 b] w fun e w' => e = .returned (.int .i64 p) ∧ w = w'))
    (H2 : Hid (∀ w, Calls Try.prog 12 #[.int .i64 a] w fun e w' => e = .returned (dx u) ∧ Below w.heap.size w w'))
    (H3 : Hid (∀ w, Calls Try.prog 12 #[.int .i64 b] w fun e w' => e = .returned (dx v) ∧ Below w.heap.size w w'))
    (H4 : Hid (∀ w, Calls Try.prog 21 #[dx u, dx v] w fun e w' => e = .returned (dx z) ∧ Below w.heap.size w w'))
    (H5 : Hid (∀ w, Calls Try.prog 15 #[dx z] w fun e w' => e = .returned (.int .i64 p) ∧ Below w.heap.size w w')) :
    Calls Try.prog 4 #[.int .i64 a, .int .i64 b] w fun e w' => e = .returned (.bool true) ∧ Below w.heap.size w w' := by
  go_enter Try.func4, Try.ntmps4
  go_wp2_with fail
  refine (H1.out _).mono ?_
  rintro e w' ⟨rfl, rfl⟩
  go_wp2_with fail
  refine (H2.out _).mono ?_
  rintro e w1 ⟨rfl, hb1⟩
  go_wp2_with fail
  refine (H3.out _).mono ?_
  rintro e w2 ⟨rfl, hb2⟩
  go_wp2_with fail
  refine (H4.out _).mono ?_
  rintro e w3 ⟨rfl, hb3⟩
  go_wp2_with fail
  refine (H5.out _).mono ?_
  rintro e w4 ⟨rfl, hb4⟩
  go_wp2_with fail
  refine (awake_any _).mono ?_
  rintro e w' ⟨rfl, rfl⟩
  go_wp2
  go_ret
  exact ⟨rfl, below_step (below_step (below_step hb1 hb2) hb3) hb4⟩

end Go.Proofs.Ythkimoladjpjgaa
