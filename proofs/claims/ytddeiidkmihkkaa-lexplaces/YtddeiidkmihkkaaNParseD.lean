/-
  Contract of num.Parse for every text of at most 100000 bytes, and that a number's text is read as the number. Conditions: those that are said.
-/
import Derived.Test.YtddeiidkmihkkaaNParseC
namespace Go.Proofs.Ytddeiidkmihkkaa.Nm
open Go.RowKit

theorem extract_list (s : ByteArray) : (s.extract 1 s.size).data.toList = s.data.toList.drop 1 := by
  rw [ByteArray.data_extract, Array.toList_extract, List.extract_eq_take_drop]
  rw [List.take_of_length_le]
  rw [List.length_drop, size_list]; exact Nat.le_refl _
theorem extract_size (s : ByteArray) : (s.extract 1 s.size).size = s.size - 1 := by
  have := congrArg List.length (extract_list s)
  rwa [size_list, List.length_drop, size_list] at this
theorem empty_of (s : ByteArray) (h : ¬ 0 < s.size) : s = { data := #[] } := by
  have h2 : s.data.size = 0 := by have : s.data.size = s.size := rfl; omega
  apply ByteArray.ext
  exact Array.eq_empty_of_size_eq_zero h2
theorem neg_true (s : ByteArray) (h0 : 0 < s.size) (h : ((s[0].toNat : Int) == 45) = true) : negB s.data.toList = true := by
  unfold negB; rw [head_list s h0]
  have e : s[0] = 45 := UInt8.toNat_inj.1 (by simp at h; have : (45 : UInt8).toNat = 45 := rfl; omega)
  rw [e]; rfl
theorem neg_false (s : ByteArray) (h0 : 0 < s.size) (h : ((s[0].toNat : Int) == 45) = false) : negB s.data.toList = false := by
  unfold negB; rw [head_list s h0, beq_eq_false_iff_ne]
  intro e; rw [e] at h; exact absurd h (by decide)

theorem parse_any (s : ByteArray) (w : World) (hs : s.size ≤ 100000) :
    Calls Try.prog 38 #[.string s] w fun x w' => x = .returned (.tuple #[.int .i64 (parseN s.data.toList), .int .i64 (parseE s.data.toList)]) ∧ w = w' := by
  by_cases h0 : 0 < s.size
  · by_cases hm : ((s[0].toNat : Int) == 45) = true
    · have hn := neg_true s h0 hm
      refine parse_minus s _ w hs h0 hm rfl (by rw [extract_size]; omega) _ _ ?_ ?_
      · show _ = _
        unfold parseN good body
        rw [hn, extract_list]; simp only [if_true, Bool.true_and, mostOf]
      · show _ = _
        unfold parseE good body
        rw [hn, extract_list]; simp only [if_true, Bool.true_and, mostOf]
    · have hm2 : ((s[0].toNat : Int) == 45) = false := by simpa using hm
      have hn := neg_false s h0 hm2
      refine parse_plain s w hs h0 hm2 _ _ ?_ ?_
      · show _ = _
        unfold parseN good body
        rw [hn]; simp [mostOf]
      · show _ = _
        unfold parseE good body
        rw [hn]; simp [mostOf]
  · have e := empty_of s h0
    subst e
    exact parse_empty w

end Go.Proofs.Ytddeiidkmihkkaa.Nm
