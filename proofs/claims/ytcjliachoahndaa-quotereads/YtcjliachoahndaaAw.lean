/-
  Contract of awake: the document's examples of layer 3; a literal's own answers. Conditions: as said.
-/
import Derived.Test.YtcjliachoahndaaUnq
namespace Go.Proofs.Ytcjliachoahndaa
open Go.RowKit
set_option linter.unusedVariables false

theorem read_41 : readOf [34, 92, 120, 52, 49, 34] = ([65], 6, true) := by
  have h1 : rb [92, 120, 52, 49, 34] = (65, 4, true) := by decide
  have h2 := scan_step [92, 120, 52, 49, 34] (by decide) (by rw [h1])
  rw [h1] at h2
  have h3 := scan_quote [34] rfl
  simp only [List.drop_succ_cons, List.drop_zero, h3] at h2
  rw [readOf, if_pos (show ([34, 92, 120, 52, 49, 34] : List UInt8).head? = some 34 from rfl)]
  simp only [List.tail_cons, h2]

theorem unq_41 : unqOf [34, 92, 120, 52, 49, 34] = ([65], 0) := by
  rw [unqOf, read_41]; rfl

theorem read_ab : readOf [34, 97, 98, 34, 99, 100] = ([97, 98], 4, true) := read_lit [97, 98] [99, 100]

theorem aw1 (w : World) : Calls Try.prog 9 #[.string { data := #[34, 92, 120, 52, 49, 34] }] w fun e w' => e = .returned (.tuple #[.string { data := #[65] }, .int .i64 0]) ∧ Below w.heap.size w w' := by
  have h := unquote_any { data := #[34, 92, 120, 52, 49, 34] } w (by decide)
  rw [show ({ data := #[34, 92, 120, 52, 49, 34] } : ByteArray).data.toList = [34, 92, 120, 52, 49, 34] from rfl, unq_41] at h
  exact h

theorem aw2 (w : World) : Calls Try.prog 12 #[.string { data := #[34, 97, 98, 34, 99, 100] }] w fun e w' => e = .returned (.tuple #[.int .i64 4, .bool true]) ∧ w = w' :=
  end_any { data := #[34, 97, 98, 34, 99, 100] } w (by decide) ([97, 98], 4, true) read_ab

theorem aw3 (w : World) : Calls Try.prog 8 #[.string { data := #[97, 34, 10] }] w fun e w' => e = .returned (.string { data := #[34, 97, 92, 34, 92, 110, 34] }) ∧ Below w.heap.size w w' := by
  have h := quote_any { data := #[97, 34, 10] } w (by decide)
  rw [show lit ({ data := #[97, 34, 10] } : ByteArray).data.toList = [34, 97, 92, 34, 92, 110, 34] from by decide] at h
  exact h

set_option maxHeartbeats 400000 in
theorem awake_core (w : World) (H1 : Hid (∀ w, Calls Try.prog 9 #[.string { data := #[34, 92, 120, 52, 49, 34] }] w fun e w' => e = .returned (.tuple #[.string { data := #[65] }, .int .i64 0]) ∧ Below w.heap.size w w'))
    (H2 : Hid (∀ w, Calls Try.prog 12 #[.string { data := #[34, 97, 98, 34, 99, 100] }] w fun e w' => e = .returned (.tuple #[.int .i64 4, .bool true]) ∧ w = w'))
    (H3 : Hid (∀ w, Calls Try.prog 8 #[.string { data := #[97, 34, 10] }] w fun e w' => e = .returned (.string { data := #[34, 97, 92, 34, 92, 110, 34] }) ∧ Below w.heap.size w w')) :
    Calls Try.prog 7 #[] w fun e w' => e = .returned (.bool true) ∧ Below w.heap.size w w' := by
  go_enter Try.func7, Try.ntmps7
  go_wp2_with fail
  refine (H1.out _).mono ?_
  rintro e w1 ⟨rfl, hb1⟩
  replace hb1 := Lib.hid hb1
  go_wp2_with fail
  refine (H2.out _).mono ?_
  rintro e w2 ⟨rfl, rfl⟩
  go_wp2_with fail
  refine (H3.out _).mono ?_
  rintro e w3 ⟨rfl, hb3⟩
  replace hb3 := Lib.hid hb3
  go_wp2
  go_ret
  exact ⟨rfl, below_step hb1.out hb3.out⟩

theorem awake_any (w : World) : Calls Try.prog 7 #[] w fun e w' => e = .returned (.bool true) ∧ Below w.heap.size w w' := awake_core w (Lib.hid aw1) (Lib.hid aw2) (Lib.hid aw3)

end Go.Proofs.Ytcjliachoahndaa
