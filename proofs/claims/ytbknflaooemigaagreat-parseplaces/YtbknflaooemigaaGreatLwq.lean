/-
  ParsePlaces, all its cases. Conditions: none.
-/
import Derived.Test.YtbknflaooemigaaGreatLwp
import Derived.Test.YtbknflaooemigaaGreatRq3
namespace Go.Proofs.YtbknflaooemigaaGreat
open Go.RowKit Go.Sort
set_option linter.unusedVariables false

theorem parsePlaces_walk (a0 : ByteArray) (w : World) : Calls Tryz.prog 4 #[.string a0] w fun e w' => e = .returned (.bool true) ∧ Below w.heap.size w w' := by
  by_cases hs : 1000 < a0.size
  · exact plc_long w a0 hs
  · have hl : a0.data.toList.length ≤ 1000 := by rw [size_list]; omega
    have H1 := fun w => parse_prog a0 w
    rcases read_places a0.data.toList (by omega) with ⟨h1, h2⟩ | ⟨T, L, hT, hE, hTl, hR, h0, hL⟩
    · obtain ⟨⟨M, c, l, k⟩, hq⟩ : ∃ q, readA progP a0.data.toList = q := ⟨_, rfl⟩
      rw [hq] at h1 h2 H1
      exact plc_bad w a0 (by omega) M c l k h1 (by simp only at h2; rw [h2]; rfl) (Lib.hid H1)
    · rw [hR] at H1
      exact plc_walk w a0 (by omega) L T hE (by omega) h0 (Lib.hid hL) (Lib.hid H1) (Lib.hid fun w => rtokens_core a0 w (by omega) _ (Lib.hid hT))

end Go.Proofs.YtbknflaooemigaaGreat
