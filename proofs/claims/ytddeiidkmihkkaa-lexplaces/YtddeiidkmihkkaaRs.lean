/-
  Contract of the document's Read, for every text. Conditions: texts of at most 100000 bytes.
-/
import Derived.Test.YtddeiidkmihkkaaRr
namespace Go.Proofs.Ytddeiidkmihkkaa
open Go.RowKit Go.Sort
set_option linter.unusedVariables false

set_option maxRecDepth 100000 in
theorem read_empty (w : World) : Calls Try.prog 24 #[.string { data := #[] }] w fun e w' => e = .returned (outR ([], 0, false)) ∧ w = w' := by
  go_enter Try.func24, Try.ntmps24
  go_wp2
  go_ret3
  exact ⟨rfl, rfl⟩

set_option maxRecDepth 100000 in
theorem read_not (s : ByteArray) (w : World) (h0 : 0 < s.size) (h34 : s[0] ≠ 34) : Calls Try.prog 24 #[.string s] w fun e w' => e = .returned (outR ([], 0, false)) ∧ w = w' := by
  have e0 : ((s[0].toNat : Int) != 34) = true := b_ne (n := 34) (by decide) h34
  have e00 : ((s.size : Int) == 0) = false := by rw [beq_eq_false_iff_ne]; omega
  clear h34
  go_enter Try.func24, Try.ntmps24
  go_wp2
  go_ret3
  exact ⟨rfl, rfl⟩

theorem rread_any (s : ByteArray) (w : World) (hs : s.size ≤ 100000) : Calls Try.prog 24 #[.string s] w fun e w' => e = .returned (outR (readOf s.data.toList)) ∧ Below w.heap.size w w' := by
  by_cases h0 : 0 < s.size
  · by_cases h34 : s[0] = 34
    · rw [read_some s h0 h34]
      exact read_loop s w hs h0 h34 _ (Lib.hid rfl)
    · rw [read_none s h0 h34]
      exact same_below (read_not s w h0 h34)
  · rw [empty_of s h0]
    exact same_below (read_empty w)

end Go.Proofs.Ytddeiidkmihkkaa
