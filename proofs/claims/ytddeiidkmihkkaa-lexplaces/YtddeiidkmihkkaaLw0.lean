/-
  The walk of LexWords out of its callees' contracts. Conditions: those contracts.
-/
import Derived.Test.YtddeiidkmihkkaaAw
namespace Go.Proofs.Ytddeiidkmihkkaa
open Go.RowKit Go.Sort
set_option linter.unusedVariables false

abbrev AwakeC : Prop := ∀ w, Calls Try.prog 8 #[] w fun e w' => e = .returned (.bool true) ∧ Below w.heap.size w w'

set_option maxHeartbeats 400000 in
theorem words_long (s : ByteArray) (w : World) (h : (100 : Int) < s.size) (H0 : Hid AwakeC) : Calls Try.prog 7 #[.string s] w fun e w' => e = .returned (.bool true) ∧ Below w.heap.size w w' := by
  go_enter Try.func7, Try.ntmps7
  go_wp2_with fail
  refine (H0.out _).mono ?_
  rintro e w1 ⟨rfl, hb⟩
  go_wp2
  go_ret
  exact ⟨rfl, hb⟩

set_option maxHeartbeats 400000 in
theorem words_core (s : ByteArray) (b : Bool) (w : World) (h : ¬ (100 : Int) < s.size) (H0 : Hid AwakeC)
    (H14 : Hid (∀ w, Calls Try.prog 14 #[.string s] w fun e w' => e = .returned (.bool b) ∧ w = w')) (H15 : Hid (∀ w, Calls Try.prog 15 #[.string s] w fun e w' => e = .returned (.bool b) ∧ Below w.heap.size w w')) :
    Calls Try.prog 7 #[.string s] w fun e w' => e = .returned (.bool true) ∧ Below w.heap.size w w' := by
  have hbb : (b == b) = true := by simp
  go_enter Try.func7, Try.ntmps7
  go_wp2_with fail
  refine (H14.out _).mono ?_
  rintro e w1 ⟨rfl, rfl⟩
  go_wp2_with fail
  refine (H15.out _).mono ?_
  rintro e w1 ⟨rfl, hb1⟩
  replace hb1 := Lib.hid hb1
  go_wp2_with fail
  refine (H0.out _).mono ?_
  rintro e w2 ⟨rfl, hb2⟩
  replace hb2 := Lib.hid (below_step hb1.out hb2)
  go_wp2
  go_ret
  exact ⟨rfl, hb2.out⟩

theorem lexWords_walk (s : ByteArray) (w : World) : Calls Try.prog 7 #[.string s] w fun e w' => e = .returned (.bool true) ∧ Below w.heap.size w w' := by
  by_cases hl : 100 < s.size
  · exact words_long s w (by omega) (Lib.hid awake_any)
  · exact words_core s (isWord s.data.toList) w (by omega) (Lib.hid awake_any) (Lib.hid fun w => word_any s w) (Lib.hid fun w => rword_at s _ rfl w)

end Go.Proofs.Ytddeiidkmihkkaa
