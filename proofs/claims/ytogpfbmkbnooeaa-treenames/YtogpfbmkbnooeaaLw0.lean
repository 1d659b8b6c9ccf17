/-
  The walk of TreeNames. Conditions: none.
-/
import Derived.Test.YtogpfbmkbnooeaaAw
import Derived.Test.YtogpfbmkbnooeaaSrt
namespace Go.Proofs.Ytogpfbmkbnooeaa
open Go.RowKit Go.Sort
set_option linter.unusedVariables false

set_option maxHeartbeats 1000000 in
theorem treeNames_walk (s : ByteArray) (w : World) : Calls Try.prog 7 #[.string s] w fun e w' => e = .returned (.bool true) ∧ Below w.heap.size w w' := by
  have HA := Lib.hid awake_any
  by_cases h : 100 < s.size
  · have h' : (100 : Int) < (s.size : Int) := by omega
    go_enter Try.func7, Try.ntmps7
    go_wp2_with fail
    refine (HA.out _).mono ?_
    rintro e w1 ⟨rfl, hb1⟩
    replace hb1 := Lib.hid hb1
    go_wp2_with fail
    go_ret
    exact ⟨rfl, hb1.out⟩
  · have h' : ¬ (100 : Int) < (s.size : Int) := by omega
    obtain ⟨p, hp⟩ : ∃ p, nameB s.data.toList = p := ⟨_, rfl⟩
    obtain ⟨q, hq⟩ : ∃ q, greatB s.data.toList = q := ⟨_, rfl⟩
    have H1 := Lib.hid (fun w => name_any s w p hp)
    have H2 := Lib.hid (fun w => rname_any s w (by omega) p hp)
    have H3 := Lib.hid (fun w => great_any s w q hq)
    have H4 := Lib.hid (fun w => rgreat_any s w (by omega) q hq)
    have e1 : (p == p) = true := by simp
    have e2 : (q == q) = true := by simp
    clear hp hq h
    go_enter Try.func7, Try.ntmps7
    go_wp2_with fail
    refine (H1.out _).mono ?_
    rintro e w1 ⟨rfl, hb1⟩
    replace hb1 := Lib.hid hb1
    go_wp2_with fail
    refine (H2.out _).mono ?_
    rintro e w2 ⟨rfl, hb2⟩
    replace hb2 := Lib.hid (below_step hb1.out hb2)
    go_wp2_with fail
    refine (H3.out _).mono ?_
    rintro e w3 ⟨rfl, hb3⟩
    replace hb3 := Lib.hid (below_step hb2.out hb3)
    go_wp2_with fail
    refine (H4.out _).mono ?_
    rintro e w4 ⟨rfl, hb4⟩
    replace hb4 := Lib.hid (below_step hb3.out hb4)
    go_wp2_with fail
    refine (HA.out _).mono ?_
    rintro e w5 ⟨rfl, hb5⟩
    replace hb5 := Lib.hid (below_step hb4.out hb5)
    go_wp2_with fail
    go_ret
    exact ⟨rfl, hb5.out⟩

end Go.Proofs.Ytogpfbmkbnooeaa
