/-
  Plain fact: what is read is a number of 64 bits. Conditions: none.
-/
import Derived.Test.YtddeiidkmihkkaaNParseE
namespace Go.Proofs.Ytddeiidkmihkkaa.Nm
open Go.RowKit

theorem parse_range (l : List UInt8) : -9223372036854775808 ≤ parseN l ∧ parseN l ≤ 9223372036854775807 := by
  unfold parseN
  split
  · split
    · omega
    · rename_i h
      unfold mostOf at h
      by_cases hn : negB l = true
      · rw [if_pos hn] at h ⊢; omega
      · rw [if_neg hn] at h ⊢; omega
  · omega

end Go.Proofs.Ytddeiidkmihkkaa.Nm
