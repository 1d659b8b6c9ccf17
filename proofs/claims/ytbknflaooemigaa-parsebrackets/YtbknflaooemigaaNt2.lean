/-
  Plain facts on tokens: one hangs on its own bytes, and on what cannot go on with it; a text in round brackets has the same tokens between them. No function of the program is spoken of. Conditions: as said.
-/
import Derived.Test.YtbknflaooemigaaSgn
import Derived.Test.YtbknflaooemigaaPg
import Derived.Test.YtbknflaooemigaaRdn
import Derived.Test.YtbknflaooemigaaBrk
namespace Go.Proofs.Ytbknflaooemigaa
set_option linter.unusedVariables false

/-- What may stand in the place of what is left: the same byte, or the end of a line for the end. -/
def Goes (r m : List UInt8) : Prop := r.head? = m.head? ∨ (r.head? = none ∧ m.head? = some 10)

theorem goes_not {p : UInt8 → Bool} {r m : List UInt8} (h : Goes r m) (hp : p 10 = false) (h0 : ∀ c, r.head? = some c → p c = false) : ∀ c, m.head? = some c → p c = false := by
  intro c hc
  rcases h with h | ⟨_, h⟩
  · exact h0 c (by rw [h, hc])
  · rw [h] at hc; simp at hc; subst hc; exact hp

theorem run_zero_head {p : UInt8 → Bool} {r : List UInt8} (h : runL p r = 0) : ∀ c, r.head? = some c → p c = false := by
  intro c hc
  cases r with
  | nil => simp at hc
  | cons d t =>
    simp at hc; subst hc
    cases hp : p d with
    | false => rfl
    | true => rw [runL_cons hp] at h; omega

theorem take_head {l : List UInt8} {n : Nat} (m : List UInt8) (hn : 1 ≤ n) (hl : l ≠ []) : (l.take n ++ m).headD 0 = l.headD 0 := by
  cases l with
  | nil => exact absurd rfl hl
  | cons c t => rw [show n = (n - 1) + 1 by omega, List.take_succ_cons]; rfl

theorem numK_of {x l : List UInt8} (h1 : runL dgt x = runL dgt l) (h2 : isC x = isC l) : numK x = numK l := by unfold numK; rw [h1, h2]

theorem one_local (l m : List UInt8) (hl : l ≠ []) (h : (one l).err = 0) (hg : Goes (l.drop (one l).size) m) : one (l.take (one l).size ++ m) = one l := by
  have hk := one_ok l hl h
  have hhd := take_head (l := l) (n := (one l).size) m hk.1 hl
  unfold one at *
  rw [hhd]
  split at h
  · rename_i h1
    rw [if_pos h1] at hg hhd hk ⊢
    rw [if_pos h1]
    have hn : runL nam (l.take (runL nam l) ++ m) = runL nam l := by
      rw [runL_app (runL_all nam l), runL_zero (goes_not hg (by decide) (runL_stop nam l)), List.length_take]
      simp only at hk; omega
    show (⟨0, runL nam (l.take (runL nam l) ++ m), namK (l.take (runL nam l) ++ m), 0, (l.take (runL nam l) ++ m).take (runL nam (l.take (runL nam l) ++ m))⟩ : One) = ⟨0, runL nam l, namK l, 0, l.take (runL nam l)⟩
    have ht : (l.take (runL nam l) ++ m).take (runL nam l) = l.take (runL nam l) := List.take_left' (by rw [List.length_take]; simp only at hk; omega)
    have hK : namK (l.take (runL nam l) ++ m) = namK l := by unfold namK; rw [hn, ht, show (l.take (runL nam l) ++ m).headD 0 = l.headD 0 from hhd]
    rw [hK, hn, ht]
  · rename_i h1
    rw [if_neg h1] at hg hhd hk ⊢
    rw [if_neg h1]
    split at h
    · rename_i h2
      rw [if_pos h2] at hg hhd hk ⊢
      rw [if_pos h2]
      unfold numOne at *
      split at h
      · simp [bad] at h
      · rename_i h3
        rw [if_neg h3] at hg hhd hk ⊢
        split at h
        · simp [bad] at h
        · rename_i h4
          rw [if_neg h4] at hg hhd hk ⊢
          simp only at hg hhd hk
          have h0 : runL nam (l.drop (numK l)) = 0 := by omega
          have hm := goes_not hg (by decide) (run_zero_head h0)
          have hm0 : runL nam m = 0 := runL_zero hm
          have hlen : (l.take (numK l)).length = numK l := by rw [List.length_take]; omega
          have hmd : ∀ c, m.head? = some c → dgt c = false := fun c hc => by
            have := hm c hc
            unfold nam at this
            cases hd : dgt c with
            | false => rfl
            | true => rw [hd] at this; simp at this
          have hrd : runL dgt (l.take (numK l) ++ m) = runL dgt l ∧ isC (l.take (numK l) ++ m) = isC l := by
            cases hc : isC l with
            | true =>
              have hk1 : numK l = runL dgt l + 1 := by rw [numK, if_pos hc]
              have hc2 := hc
              unfold isC at hc2
              rw [decide_eq_true_eq] at hc2
              obtain ⟨r, hr⟩ : ∃ r, l.drop (runL dgt l) = 105 :: r := by
                cases hd : l.drop (runL dgt l) with
                | nil => rw [hd] at hc2; simp at hc2
                | cons a b => rw [hd] at hc2; simp at hc2; exact ⟨b, by rw [hc2]⟩
              have htk : l.take (numK l) ++ m = l.take (runL dgt l) ++ 105 :: m := by
                rw [hk1, List.take_add, hr]; simp
              have hrun : runL dgt (l.take (numK l) ++ m) = runL dgt l := by
                rw [htk, runL_app (runL_all dgt l), runL_none (by decide), List.length_take]
                have := runL_le dgt l; omega
              refine ⟨hrun, ?_⟩
              unfold isC
              rw [hrun, htk, List.drop_left' (by rw [List.length_take]; have := runL_le dgt l; omega)]
              simp
            | false =>
              have hk1 : numK l = runL dgt l := by rw [numK, hc]; rfl
              have hrun : runL dgt (l.take (numK l) ++ m) = runL dgt l := by
                rw [hk1, runL_app (runL_all dgt l), runL_zero hmd, List.length_take]
                have := runL_le dgt l; omega
              refine ⟨hrun, ?_⟩
              unfold isC
              rw [hrun, hk1, List.drop_left' (by rw [List.length_take]; have := runL_le dgt l; omega), decide_eq_false_iff_not]
              intro he
              have := hm _ he
              exact absurd this (by decide)
          obtain ⟨hr1, hr2⟩ := hrd
          have hK : numK (l.take (numK l) ++ m) = numK l := numK_of hr1 hr2
          have hle : runL dgt l ≤ numK l := by unfold numK; split <;> omega
          have hD : numD (l.take (numK l) ++ m) = numD l := by
            unfold numD
            rw [hr1, List.take_append_of_le_length (by rw [hlen]; exact hle), List.take_take, Nat.min_eq_left hle]
          have hM : numM (l.take (numK l) ++ m) = numM l := by unfold numM; rw [hr2]
          rw [hK, hD, hM, hr2, List.drop_left' hlen, hm0, if_neg (by omega), if_neg h4]
    · rename_i h2
      rw [if_neg h2] at hg hhd hk ⊢
      rw [if_neg h2]
      split at h
      · rename_i h3
        rw [if_pos h3] at hg hhd hk ⊢
        rw [if_pos h3]
        unfold litOne at *
        split at h
        · rename_i h4
          rw [if_pos h4]
          show (if (readOf (l.take (readOf l).2.1 ++ m)).2.2 = true then _ else _) = _
          rw [read_take_app l h4 m, if_pos h4]
        · simp [bad] at h
      · rename_i h3
        rw [if_neg h3] at hg hhd hk ⊢
        rw [if_neg h3]
        unfold sgnOne at *
        split at h
        · simp [bad] at h
        · rename_i h4
          rw [if_neg h4] at hg hhd hk ⊢
          simp only at hg hhd hk
          have hlen : (l.take (sgn l)).length = sgn l := by rw [List.length_take]; omega
          have hs : sgn (l.take (sgn l) ++ m) = sgn l := by
            by_cases h5 : l.take 2 ∈ twos
            · have h6 := sgn_two h5
              rw [h6] at hlen ⊢
              exact sgn_two (by rw [List.take_left' hlen]; exact h5)
            · by_cases h6 : l.headD 0 ∈ ones
              · have h7 := sgn_one h5 h6
                rw [h7] at hlen hg hhd ⊢
                refine sgn_one ?_ (by rw [hhd]; exact h6)
                cases l with
                | nil => exact absurd rfl hl
                | cons c t =>
                  intro hm
                  simp only [List.take_succ_cons, List.take_zero, List.cons_append, List.nil_append, List.drop_succ_cons, List.drop_zero] at hm hg h5
                  rcases hg with hg | ⟨_, hg⟩
                  · apply h5
                    cases t with
                    | nil =>
                      cases m with
                      | nil => exact hm
                      | cons d r => simp at hg
                    | cons d r =>
                      cases m with
                      | nil => simp at hg
                      | cons e r' => simp at hg; subst hg; exact hm
                  · cases m with
                    | nil => simp at hg
                    | cons e r' =>
                      simp at hg; subst hg
                      have h8 : ∀ x ∈ twos, x[1]? ≠ some 10 := by decide
                      exact h8 _ hm rfl
              · exact absurd (sgn_no h5 h6) h4
          rw [hs, if_neg h4, List.take_left' hlen]


theorem one_kind (l : List UInt8) : (one l).kind ≠ 8 := by
  unfold one
  split
  · show namK l ≠ 8
    unfold namK
    split
    · decide
    · split <;> decide
  · split
    · unfold numOne
      split
      · simp [bad]
      · split
        · simp [bad]
        · show (if isC l = true then 4 else 3) ≠ 8
          split <;> decide
    · split
      · unfold litOne
        split <;> simp [bad]
      · unfold sgnOne
        split <;> simp [bad]

theorem run_nlf_app (t r : List UInt8) : runL nlf (t ++ 10 :: r) = runL nlf t := by
  refine runL_eq (by have := runL_le nlf t; simp; omega) (fun c hc => ?_) (fun c hc => ?_)
  · rw [List.take_append_of_le_length (runL_le nlf t)] at hc
    exact runL_all nlf t c hc
  · rw [List.drop_append_of_le_length (runL_le nlf t)] at hc
    cases hd : t.drop (runL nlf t) with
    | nil => rw [hd] at hc; simp at hc; subst hc; rfl
    | cons a b =>
      rw [hd] at hc; simp at hc; subst hc
      exact runL_stop nlf t a (by rw [hd]; rfl)

theorem goes_end (r : List UInt8) : Goes r (r ++ [10, 41]) := by
  cases r with
  | nil => exact .inr ⟨rfl, rfl⟩
  | cons a b => exact .inl rfl

theorem map_ok {x : Tok} {R : Res} {T : List Tok} (h : R.map (x :: ·) = .ok T) : ∃ T1, R = .ok T1 ∧ T = x :: T1 := by
  cases R with
  | error f => cases h
  | ok T1 => cases h; exact ⟨T1, rfl, rfl⟩

theorem toks_shut (a b : Nat) : toks [41] a b = .ok [⟨7, a, b, 0, [41]⟩, ⟨8, a, b + 1, 0, []⟩] := by
  have h1 : (one [41]).err = 0 := by decide
  have h2 : (one [41]).size = 1 := by decide
  have h3 : (one [41]).kind = 7 := by decide
  have h4 : (one [41]).num = 0 := by decide
  have h5 : (one [41]).text = [41] := by decide
  rw [toks_tok 41 [] a b (by unfold isGap; decide) h1, h2, h3, h4, h5]
  show (toks [] a (b + 1)).map _ = _
  rw [toks_nil]
  rfl

theorem toks_brk (n : Nat) : ∀ (l : List UInt8), l.length < n → ∀ a b T, toks l a b = .ok T → ∀ a' b', ∃ T', toks (l ++ [10, 41]) a' b' = .ok T' ∧ Brk T T' := by
  induction n with
  | zero => intro l h; omega
  | succ n ih =>
    intro l hl a b T e a' b'
    cases l with
    | nil =>
      rw [toks_nil] at e
      cases e
      refine ⟨_, ?_, Brk.last (e := ⟨8, a, b, 0, []⟩) (p := ⟨7, a' + 1, 1, 0, [41]⟩) (e' := ⟨8, a' + 1, 1 + 1, 0, []⟩) rfl rfl rfl rfl⟩
      show toks (10 :: [41]) a' b' = _
      rw [toks_lf, toks_shut]
    | cons c t =>
      simp only [List.length_cons] at hl
      rw [List.cons_append]
      by_cases h10 : c = 10
      · subst h10
        rw [toks_lf] at e ⊢
        exact ih t (by omega) _ _ _ e _ _
      · by_cases hb : c = 32 ∨ c = 9 ∨ c = 13
        · rw [toks_blank _ _ _ _ hb] at e ⊢
          exact ih t (by omega) _ _ _ e _ _
        · by_cases h35 : c = 35
          · subst h35
            rw [toks_note] at e ⊢
            rw [run_nlf_app, List.drop_append_of_le_length (runL_le nlf t)]
            exact ih _ (by rw [List.length_drop]; omega) _ _ _ e _ _
          · have hg : ¬ isGap c := by
              unfold isGap
              rintro (h | h | h | h | h)
              · exact h10 h
              · exact hb (.inl h)
              · exact hb (.inr (.inl h))
              · exact hb (.inr (.inr h))
              · exact h35 h
            by_cases h0 : (one (c :: t)).err = 0
            · rw [toks_tok c t a b hg h0] at e
              obtain ⟨T1, e1, rfl⟩ := map_ok e
              have hk := one_ok (c :: t) (by simp) h0
              have ho : one (c :: (t ++ [10, 41])) = one (c :: t) := by
                have := one_local (c :: t) ((c :: t).drop (one (c :: t)).size ++ [10, 41]) (by simp) h0 (goes_end _)
                rw [← List.append_assoc, List.take_append_drop] at this
                exact this
              have h0' : (one (c :: (t ++ [10, 41]))).err = 0 := by rw [ho]; exact h0
              obtain ⟨T2, e2, hB⟩ := ih ((c :: t).drop (one (c :: t)).size) (by rw [List.length_drop, List.length_cons]; omega) _ _ _ e1 a' (b' + (one (c :: t)).size)
              refine ⟨_, ?_, Brk.cons (t' := ⟨(one (c :: t)).kind, a', b', (one (c :: t)).num, (one (c :: t)).text⟩) (ts' := T2) (one_kind _) ⟨rfl, rfl, rfl⟩ hB⟩
              rw [toks_tok c _ a' b' hg h0', ho, ← List.cons_append, List.drop_append_of_le_length hk.2, e2]
              rfl
            · rw [toks_bad c t a b hg h0] at e
              cases e

theorem toks_open (s : List UInt8) (a b : Nat) : toks (40 :: s) a b = (toks s a (b + 1)).map (⟨7, a, b, 0, [40]⟩ :: ·) := by
  have ho : one (40 :: s) = ⟨0, 1, 7, 0, [40]⟩ := by
    have hs : sgn (40 :: s) = 1 := by
      unfold sgn
      rw [if_neg ?_, if_pos (show (40 :: s).headD 0 ∈ ones from (by decide : (40 : UInt8) ∈ ones))]
      intro hm
      have h8 : ∀ x ∈ twos, x.head? ≠ some 40 := by decide
      exact h8 _ hm rfl
    show sgnOne (40 :: s) = _
    unfold sgnOne
    rw [hs]
    rfl
  have h0 : (one (40 :: s)).err = 0 := by rw [ho]
  rw [toks_tok 40 s a b (by unfold isGap; decide) h0, ho]
  rfl

end Go.Proofs.Ytbknflaooemigaa
