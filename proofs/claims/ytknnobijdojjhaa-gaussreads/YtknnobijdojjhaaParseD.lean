/-
  Contract of num.Parse for every text of at most 100 bytes, and that a number's text is read as the number. Conditions: those that are said.
-/
import Derived.Test.YtknnobijdojjhaaParseC
import Derived.Test.YtknnobijdojjhaaTextB
namespace Go.Proofs.Ytknnobijdojjhaa
open Go.RowKit

theorem extract_list (s : ByteArray) : (s.extract 1 s.size).data.toList = s.data.toList.drop 1 := by
  rw [ByteArray.data_extract, Array.toList_extract, List.extract_eq_take_drop]
  rw [List.take_of_length_le]
  rw [List.length_drop, size_list]; exact Nat.le_refl _
theorem extract_size (s : ByteArray) : (s.extract 1 s.size).size = s.size - 1 := by
  have := congrArg List.length (extract_list s)
  rwa [size_list, List.length_drop, size_list] at this
theorem empty_of (s : ByteArray) (h : ¬ 0 < s.size) : s = { data := #[] } := by
  have h2 : s.data.size = 0 := by have : s.data.size = s.size := rfl; omega
  apply ByteArray.ext
  exact Array.eq_empty_of_size_eq_zero h2
theorem neg_true (s : ByteArray) (h0 : 0 < s.size) (h : ((s[0].toNat : Int) == 45) = true) : negB s.data.toList = true := by
  unfold negB; rw [head_list s h0]
  have e : s[0] = 45 := UInt8.toNat_inj.1 (by simp at h; have : (45 : UInt8).toNat = 45 := rfl; omega)
  rw [e]; rfl
theorem neg_false (s : ByteArray) (h0 : 0 < s.size) (h : ((s[0].toNat : Int) == 45) = false) : negB s.data.toList = false := by
  unfold negB; rw [head_list s h0, beq_eq_false_iff_ne]
  intro e; rw [e] at h; exact absurd h (by decide)

theorem parse_any (s : ByteArray) (w : World) (hs : s.size ≤ 100) :
    Calls Try.prog 36 #[.string s] w fun x w' => x = .returned (.tuple #[.int .i64 (parseN s.data.toList), .int .i64 (parseE s.data.toList)]) ∧ w = w' := by
  by_cases h0 : 0 < s.size
  · by_cases hm : ((s[0].toNat : Int) == 45) = true
    · have hn := neg_true s h0 hm
      refine parse_minus s _ w hs h0 hm rfl (by rw [extract_size]; omega) _ _ ?_ ?_
      · show _ = _
        unfold parseN good body
        rw [hn, extract_list]; simp only [if_true, Bool.true_and, mostOf]
      · show _ = _
        unfold parseE good body
        rw [hn, extract_list]; simp only [if_true, Bool.true_and, mostOf]
    · have hm2 : ((s[0].toNat : Int) == 45) = false := by simpa using hm
      have hn := neg_false s h0 hm2
      refine parse_plain s w hs h0 hm2 _ _ ?_ ?_
      · show _ = _
        unfold parseN good body
        rw [hn]; simp [mostOf]
      · show _ = _
        unfold parseE good body
        rw [hn]; simp [mostOf]
  · have e := empty_of s h0
    subst e
    exact parse_empty w

theorem dec_head_ne (n : Nat) : (dec n).headD 0 ≠ 45 := by
  have h := dec_all n
  cases hd : dec n with
  | nil => exact absurd hd (dec_ne n)
  | cons c x =>
    rw [hd] at h
    simp only [List.all_cons, Bool.and_eq_true] at h
    have h2 := h.1; unfold digB at h2; simp at h2
    intro e
    have e2 : c = 45 := e
    subst e2
    exact absurd h2.1 (by decide)
theorem neg_text (a : Int) : negB (textL a) = decide (a < 0) ∧ body (textL a) = dec a.natAbs := by
  unfold textL
  by_cases h : a < 0
  · rw [if_pos h, decide_eq_true h]; exact ⟨rfl, rfl⟩
  · rw [if_neg h, decide_eq_false h]
    have : negB (dec a.natAbs) = false := by
      unfold negB; rw [beq_eq_false_iff_ne]; exact dec_head_ne _
    exact ⟨this, by unfold body; rw [this]; rfl⟩
theorem parse_text (a : Int) (h0 : -9223372036854775808 ≤ a) (h1 : a ≤ 9223372036854775807) : parseN (textL a) = a ∧ parseE (textL a) = 0 := by
  obtain ⟨hn, hb⟩ := neg_text a
  have hg : good (textL a) = true := by
    unfold good
    rw [hn, hb, isDec_dec]
    by_cases h : a < 0
    · have : (dec a.natAbs == [48]) = false := by
        rw [beq_eq_false_iff_ne]; intro e
        have := valL_dec a.natAbs
        rw [e] at this
        have h48 : valL [48] = 0 := rfl
        omega
      rw [this]; simp
    · rw [decide_eq_false h]; rfl
  unfold parseN parseE
  rw [hg, hn, hb, valL_dec]
  by_cases h : a < 0
  · simp only [if_true, decide_eq_true h, mostOf]
    rw [if_neg (by omega), if_neg (by omega)]
    exact ⟨by omega, rfl⟩
  · simp only [if_true, decide_eq_false h, mostOf, Bool.false_eq_true, if_false]
    rw [if_neg (by omega), if_neg (by omega)]
    exact ⟨by omega, rfl⟩
/-- What is read has just this text. -/
theorem text_parse (l : List UInt8) (h : parseE l = 0) : textL (parseN l) = l := by
  unfold parseE at h
  by_cases hg : good l = true
  · rw [if_pos hg] at h
    by_cases ho : mostOf (negB l) < valL (body l)
    · rw [if_pos ho] at h; omega
    · unfold parseN
      rw [if_pos hg, if_neg ho]
      unfold good at hg
      simp only [Bool.and_eq_true] at hg
      obtain ⟨hd, hz⟩ := hg
      have hv := dec_valL _ hd
      by_cases hn : negB l = true
      · rw [if_pos hn]
        rw [hn] at hz
        have hb : body l = l.drop 1 := by unfold body; rw [if_pos hn]
        have hl : l = 45 :: body l := by
          rw [hb]
          cases l with
          | nil => exact absurd hn (by decide)
          | cons c x =>
            unfold negB at hn
            have : c = 45 := by simpa using hn
            rw [this]; rfl
        have hp : 1 ≤ valL (body l) := by
          rcases Nat.eq_zero_or_pos (valL (body l)) with q | q
          · exfalso
            rw [q, dec_small (by omega)] at hv
            rw [← hv] at hz
            exact absurd hz (by decide)
          · exact q
        unfold textL
        rw [if_pos (by omega), show (-(valL (body l) : Int)).natAbs = valL (body l) by omega, hv]
        exact hl.symm
      · rw [if_neg hn]
        have hb : body l = l := by unfold body; rw [if_neg hn]
        unfold textL
        rw [if_neg (by omega), show ((valL (body l) : Int)).natAbs = valL (body l) by omega, hv, hb]
  · rw [if_neg hg] at h; omega

end Go.Proofs.Ytknnobijdojjhaa
