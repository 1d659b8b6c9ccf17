/-
  Plain facts on notes: a token hangs on its own bytes, and on what cannot go on with it; notes and blanks at the ends and beginnings of lines. No function of the program is spoken of. Conditions: as said.
-/
import Derived.Test.YtddeiidkmihkkaaAlk
import Derived.Test.YtddeiidkmihkkaaPlc
namespace Go.Proofs.Ytddeiidkmihkkaa
set_option linter.unusedVariables false

/-- What may stand in the place of what is left: the same byte, or a blank for the end of a line. -/
def Goes (r m : List UInt8) : Prop := r.head? = m.head? ∨ ((r.head? = none ∨ r.head? = some 10) ∧ m.head? = some 32)

theorem goes_not {p : UInt8 → Bool} {r m : List UInt8} (h : Goes r m) (hp : p 32 = false) (h0 : ∀ c, r.head? = some c → p c = false) : ∀ c, m.head? = some c → p c = false := by
  intro c hc
  rcases h with h | ⟨_, h⟩
  · exact h0 c (by rw [h, hc])
  · rw [h] at hc; simp at hc; subst hc; exact hp

theorem run_zero_head {p : UInt8 → Bool} {r : List UInt8} (h : runL p r = 0) : ∀ c, r.head? = some c → p c = false := by
  intro c hc
  cases r with
  | nil => simp at hc
  | cons d t =>
    simp at hc; subst hc
    cases hp : p d with
    | false => rfl
    | true => rw [runL_cons hp] at h; omega

theorem take_head {l : List UInt8} {n : Nat} (m : List UInt8) (hn : 1 ≤ n) (hl : l ≠ []) : (l.take n ++ m).headD 0 = l.headD 0 := by
  cases l with
  | nil => exact absurd rfl hl
  | cons c t => rw [show n = (n - 1) + 1 by omega, List.take_succ_cons]; rfl

theorem numK_of {x l : List UInt8} (h1 : runL dgt x = runL dgt l) (h2 : isC x = isC l) : numK x = numK l := by unfold numK; rw [h1, h2]

theorem one_local (l m : List UInt8) (hl : l ≠ []) (h : (one l).err = 0) (hg : Goes (l.drop (one l).size) m) : one (l.take (one l).size ++ m) = one l := by
  have hk := one_ok l hl h
  have hhd := take_head (l := l) (n := (one l).size) m hk.1 hl
  unfold one at *
  rw [hhd]
  split at h
  · rename_i h1
    rw [if_pos h1] at hg hhd hk ⊢
    rw [if_pos h1]
    have hn : runL nam (l.take (runL nam l) ++ m) = runL nam l := by
      rw [runL_app (runL_all nam l), runL_zero (goes_not hg (by decide) (runL_stop nam l)), List.length_take]
      simp only at hk; omega
    show (⟨0, runL nam (l.take (runL nam l) ++ m), namK (l.take (runL nam l) ++ m), 0, (l.take (runL nam l) ++ m).take (runL nam (l.take (runL nam l) ++ m))⟩ : One) = ⟨0, runL nam l, namK l, 0, l.take (runL nam l)⟩
    have ht : (l.take (runL nam l) ++ m).take (runL nam l) = l.take (runL nam l) := List.take_left' (by rw [List.length_take]; simp only at hk; omega)
    have hK : namK (l.take (runL nam l) ++ m) = namK l := by unfold namK; rw [hn, ht, show (l.take (runL nam l) ++ m).headD 0 = l.headD 0 from hhd]
    rw [hK, hn, ht]
  · rename_i h1
    rw [if_neg h1] at hg hhd hk ⊢
    rw [if_neg h1]
    split at h
    · rename_i h2
      rw [if_pos h2] at hg hhd hk ⊢
      rw [if_pos h2]
      unfold numOne at *
      split at h
      · simp [bad] at h
      · rename_i h3
        rw [if_neg h3] at hg hhd hk ⊢
        split at h
        · simp [bad] at h
        · rename_i h4
          rw [if_neg h4] at hg hhd hk ⊢
          simp only at hg hhd hk
          have h0 : runL nam (l.drop (numK l)) = 0 := by omega
          have hm := goes_not hg (by decide) (run_zero_head h0)
          have hm0 : runL nam m = 0 := runL_zero hm
          have hlen : (l.take (numK l)).length = numK l := by rw [List.length_take]; omega
          have hmd : ∀ c, m.head? = some c → dgt c = false := fun c hc => by
            have := hm c hc
            unfold nam at this
            cases hd : dgt c with
            | false => rfl
            | true => rw [hd] at this; simp at this
          have hrd : runL dgt (l.take (numK l) ++ m) = runL dgt l ∧ isC (l.take (numK l) ++ m) = isC l := by
            cases hc : isC l with
            | true =>
              have hk1 : numK l = runL dgt l + 1 := by rw [numK, if_pos hc]
              have hc2 := hc
              unfold isC at hc2
              rw [decide_eq_true_eq] at hc2
              obtain ⟨r, hr⟩ : ∃ r, l.drop (runL dgt l) = 105 :: r := by
                cases hd : l.drop (runL dgt l) with
                | nil => rw [hd] at hc2; simp at hc2
                | cons a b => rw [hd] at hc2; simp at hc2; exact ⟨b, by rw [hc2]⟩
              have htk : l.take (numK l) ++ m = l.take (runL dgt l) ++ 105 :: m := by
                rw [hk1, List.take_add, hr]; simp
              have hrun : runL dgt (l.take (numK l) ++ m) = runL dgt l := by
                rw [htk, runL_app (runL_all dgt l), runL_none (by decide), List.length_take]
                have := runL_le dgt l; omega
              refine ⟨hrun, ?_⟩
              unfold isC
              rw [hrun, htk, List.drop_left' (by rw [List.length_take]; have := runL_le dgt l; omega)]
              simp
            | false =>
              have hk1 : numK l = runL dgt l := by rw [numK, hc]; rfl
              have hrun : runL dgt (l.take (numK l) ++ m) = runL dgt l := by
                rw [hk1, runL_app (runL_all dgt l), runL_zero hmd, List.length_take]
                have := runL_le dgt l; omega
              refine ⟨hrun, ?_⟩
              unfold isC
              rw [hrun, hk1, List.drop_left' (by rw [List.length_take]; have := runL_le dgt l; omega), decide_eq_false_iff_not]
              intro he
              have := hm _ he
              exact absurd this (by decide)
          obtain ⟨hr1, hr2⟩ := hrd
          have hK : numK (l.take (numK l) ++ m) = numK l := numK_of hr1 hr2
          have hle : runL dgt l ≤ numK l := by unfold numK; split <;> omega
          have hD : numD (l.take (numK l) ++ m) = numD l := by
            unfold numD
            rw [hr1, List.take_append_of_le_length (by rw [hlen]; exact hle), List.take_take, Nat.min_eq_left hle]
          have hM : numM (l.take (numK l) ++ m) = numM l := by unfold numM; rw [hr2]
          rw [hK, hD, hM, hr2, List.drop_left' hlen, hm0, if_neg (by omega), if_neg h4]
    · rename_i h2
      rw [if_neg h2] at hg hhd hk ⊢
      rw [if_neg h2]
      split at h
      · rename_i h3
        rw [if_pos h3] at hg hhd hk ⊢
        rw [if_pos h3]
        unfold litOne at *
        split at h
        · rename_i h4
          rw [if_pos h4]
          show (if (readOf (l.take (readOf l).2.1 ++ m)).2.2 = true then _ else _) = _
          rw [read_take_app l h4 m, if_pos h4]
        · simp [bad] at h
      · rename_i h3
        rw [if_neg h3] at hg hhd hk ⊢
        rw [if_neg h3]
        unfold sgnOne at *
        split at h
        · simp [bad] at h
        · rename_i h4
          rw [if_neg h4] at hg hhd hk ⊢
          simp only at hg hhd hk
          have hlen : (l.take (sgn l)).length = sgn l := by rw [List.length_take]; omega
          have hs : sgn (l.take (sgn l) ++ m) = sgn l := by
            by_cases h5 : l.take 2 ∈ twos
            · have h6 := sgn_two h5
              rw [h6] at hlen ⊢
              exact sgn_two (by rw [List.take_left' hlen]; exact h5)
            · by_cases h6 : l.headD 0 ∈ ones
              · have h7 := sgn_one h5 h6
                rw [h7] at hlen hg hhd ⊢
                refine sgn_one ?_ (by rw [hhd]; exact h6)
                cases l with
                | nil => exact absurd rfl hl
                | cons c t =>
                  intro hm
                  simp only [List.take_succ_cons, List.take_zero, List.cons_append, List.nil_append, List.drop_succ_cons, List.drop_zero] at hm hg h5
                  rcases hg with hg | ⟨_, hg⟩
                  · apply h5
                    cases t with
                    | nil =>
                      cases m with
                      | nil => exact hm
                      | cons d r => simp at hg
                    | cons d r =>
                      cases m with
                      | nil => simp at hg
                      | cons e r' => simp at hg; subst hg; exact hm
                  · cases m with
                    | nil => simp at hg
                    | cons e r' =>
                      simp at hg; subst hg
                      have h8 : ∀ x ∈ twos, x[1]? ≠ some 32 := by decide
                      exact h8 _ hm rfl
              · exact absurd (sgn_no h5 h6) h4
          rw [hs, if_neg h4, List.take_left' hlen]

/-- Notes at the ends of lines, blanks at their beginnings. -/
def trL (note : List UInt8) : List UInt8 → List UInt8
  | [] => []
  | c :: t => if c = 10 then 32 :: 35 :: (note ++ 10 :: 32 :: 9 :: trL note t) else c :: trL note t

theorem trL_lf (note t : List UInt8) : trL note (10 :: t) = 32 :: 35 :: (note ++ 10 :: 32 :: 9 :: trL note t) := by rw [trL, if_pos rfl]
theorem trL_c {c : UInt8} (note t : List UInt8) (h : c ≠ 10) : trL note (c :: t) = c :: trL note t := by rw [trL, if_neg h]
theorem trL_app (note x y : List UInt8) : trL note (x ++ y) = trL note x ++ trL note y := by
  induction x with
  | nil => rfl
  | cons c t ih =>
    by_cases h : c = 10
    · subst h; rw [List.cons_append, trL_lf, trL_lf, ih]; simp
    · rw [List.cons_append, trL_c _ _ h, trL_c _ _ h, ih]; rfl
theorem trL_nolf (note : List UInt8) {x : List UInt8} (h : ∀ c ∈ x, c ≠ 10) : trL note x = x := by
  induction x with
  | nil => rfl
  | cons c t ih => rw [trL_c _ _ (h c (by simp)), ih (fun d hd => h d (by simp [hd]))]
theorem trL_len (note : List UInt8) (x : List UInt8) : (trL note x).length ≤ x.length * (note.length + 5) := by
  induction x with
  | nil => simp [trL]
  | cons c t ih =>
    have e : (t.length + 1) * (note.length + 5) = t.length * (note.length + 5) + (note.length + 5) := by rw [Nat.add_mul]; omega
    by_cases h : c = 10
    · subst h; rw [trL_lf]; simp only [List.length_cons, List.length_append]; omega
    · rw [trL_c _ _ h]; simp only [List.length_cons]; omega

theorem nlf_all {x : List UInt8} (h : ∀ c ∈ x, c ≠ 10) : ∀ c ∈ x, nlf c = true := fun c hc => by simp [nlf, h c hc]

theorem run_note {x : List UInt8} (h : ∀ c ∈ x, c ≠ 10) : runL nlf x = x.length := by
  have := runL_app (m := []) (nlf_all h)
  rw [List.append_nil] at this
  rw [this]; rfl
theorem run_note_lf {x : List UInt8} (h : ∀ c ∈ x, c ≠ 10) (m : List UInt8) : runL nlf (x ++ 10 :: m) = x.length := by
  rw [runL_app (nlf_all h), runL_none (by decide)]; rfl

theorem AlikeL.cons {t u : Tok} {l m : List Tok} (h1 : t.kind = u.kind ∧ t.num = u.num ∧ t.text = u.text) (h : AlikeL l m) : AlikeL (t :: l) (u :: m) := by
  refine ⟨by simp [h.1], fun k a b ha hb => ?_⟩
  cases k with
  | zero => simp at ha hb; subst ha hb; exact h1
  | succ k => exact h.2 k a b (by simpa using ha) (by simpa using hb)
theorem AlikeL.nil : AlikeL [] [] := ⟨rfl, fun k a b h => by simp at h⟩

theorem toks_end {note : List UInt8} (hn : ∀ c ∈ note, c ≠ 10) (a b : Nat) : ∃ a' b', toks (32 :: 35 :: note) a b = .ok [⟨8, a', b', 0, []⟩] := by
  rw [toks_blank _ _ _ _ (.inl rfl), toks_note, run_note hn, List.drop_length, toks_nil]
  exact ⟨_, _, rfl⟩

theorem notes_alike {note : List UInt8} (hn : ∀ c ∈ note, c ≠ 10) : ∀ n (l : List UInt8), l.length ≤ n → ∀ a b a' b' ts, toks l a b = .ok ts → ∃ ts', toks (trL note l ++ 32 :: 35 :: note) a' b' = .ok ts' ∧ AlikeL ts ts' := by
  intro n
  induction n with
  | zero =>
    intro l hl a b a' b' ts h
    obtain rfl : l = [] := List.eq_nil_of_length_eq_zero (by omega)
    rw [toks_nil] at h
    injection h with h; subst h
    obtain ⟨x, y, he⟩ := toks_end hn a' b'
    exact ⟨_, he, AlikeL.cons ⟨rfl, rfl, rfl⟩ AlikeL.nil⟩
  | succ n ih =>
    intro l hl a b a' b' ts h
    cases l with
    | nil =>
      rw [toks_nil] at h
      injection h with h; subst h
      obtain ⟨x, y, he⟩ := toks_end hn a' b'
      exact ⟨_, he, AlikeL.cons ⟨rfl, rfl, rfl⟩ AlikeL.nil⟩
    | cons c t =>
      simp only [List.length_cons] at hl
      by_cases hg : isGap c
      · rcases hg with rfl | rfl | rfl | rfl | rfl
        · rw [toks_lf] at h
          rw [trL_lf]
          simp only [List.cons_append, List.append_assoc]
          rw [toks_blank _ _ _ _ (.inl rfl), toks_note, run_note_lf hn, List.drop_left, toks_lf, toks_blank _ _ _ _ (.inl rfl), toks_blank _ _ _ _ (.inr (.inl rfl))]
          exact ih t (by omega) _ _ _ _ _ h
        · rw [toks_blank _ _ _ _ (.inl rfl)] at h
          rw [trL_c _ _ (by decide), List.cons_append, toks_blank _ _ _ _ (.inl rfl)]
          exact ih t (by omega) _ _ _ _ _ h
        · rw [toks_blank _ _ _ _ (.inr (.inl rfl))] at h
          rw [trL_c _ _ (by decide), List.cons_append, toks_blank _ _ _ _ (.inr (.inl rfl))]
          exact ih t (by omega) _ _ _ _ _ h
        · rw [toks_blank _ _ _ _ (.inr (.inr rfl))] at h
          rw [trL_c _ _ (by decide), List.cons_append, toks_blank _ _ _ _ (.inr (.inr rfl))]
          exact ih t (by omega) _ _ _ _ _ h
        · rw [toks_note] at h
          rw [trL_c _ _ (by decide), List.cons_append, toks_note]
          have hp : ∀ c ∈ t.take (runL nlf t), c ≠ 10 := fun c hc => by
            have := runL_all nlf t c hc
            unfold nlf at this; simpa using this
          have hst := runL_stop nlf t
          have ht : trL note t = t.take (runL nlf t) ++ trL note (t.drop (runL nlf t)) := by
            conv => lhs; rw [← List.take_append_drop (runL nlf t) t, trL_app, trL_nolf note hp]
          have hle := runL_le nlf t
          rw [ht]
          cases hr : t.drop (runL nlf t) with
          | nil =>
            rw [hr, toks_nil] at h
            injection h with h; subst h
            have hall : ∀ c ∈ t.take (runL nlf t) ++ trL note [] ++ 32 :: 35 :: note, c ≠ 10 := by
              intro c hc
              simp only [trL, List.append_nil, List.mem_append, List.mem_cons] at hc
              rcases hc with hc | rfl | rfl | hc
              · exact hp c hc
              · decide
              · decide
              · exact hn c hc
            rw [run_note hall, List.drop_length, toks_nil]
            exact ⟨_, rfl, AlikeL.cons ⟨rfl, rfl, rfl⟩ AlikeL.nil⟩
          | cons d t' =>
            have hd : d = 10 := by
              have := hst d (by rw [hr]; rfl)
              unfold nlf at this; simpa using this
            subst hd
            rw [hr, toks_lf] at h
            have hlt : t'.length ≤ n := by
              have := congrArg List.length hr
              simp at this; omega
            have hall : ∀ c ∈ t.take (runL nlf t) ++ 32 :: 35 :: note, c ≠ 10 := by
              intro c hc
              simp only [List.mem_append, List.mem_cons] at hc
              rcases hc with hc | rfl | rfl | hc
              · exact hp c hc
              · decide
              · decide
              · exact hn c hc
            have he : t.take (runL nlf t) ++ trL note (10 :: t') ++ 32 :: 35 :: note = (t.take (runL nlf t) ++ 32 :: 35 :: note) ++ 10 :: (32 :: 9 :: (trL note t' ++ 32 :: 35 :: note)) := by
              rw [trL_lf]; simp
            rw [he, run_note_lf hall, List.drop_left, toks_lf, toks_blank _ _ _ _ (.inl rfl), toks_blank _ _ _ _ (.inr (.inl rfl))]
            exact ih t' hlt _ _ _ _ _ h
      · by_cases he : (one (c :: t)).err = 0
        · have hk := one_ok (c :: t) (by simp) he
          have hnl := one_nolf (c :: t) (by simp) he
          rw [toks_tok _ _ _ _ hg he] at h
          cases hx : toks ((c :: t).drop (one (c :: t)).size) a (b + (one (c :: t)).size) with
          | error f => rw [hx] at h; simp [Except.map] at h
          | ok us =>
            rw [hx] at h
            simp only [Except.map] at h
            injection h with h
            have htr : trL note (c :: t) = (c :: t).take (one (c :: t)).size ++ trL note ((c :: t).drop (one (c :: t)).size) := by
              conv => lhs; rw [← List.take_append_drop (one (c :: t)).size (c :: t), trL_app, trL_nolf note hnl]
            have hgo : Goes ((c :: t).drop (one (c :: t)).size) (trL note ((c :: t).drop (one (c :: t)).size) ++ 32 :: 35 :: note) := by
              cases hr : (c :: t).drop (one (c :: t)).size with
              | nil => exact .inr ⟨.inl rfl, rfl⟩
              | cons d r =>
                by_cases hd : d = 10
                · subst hd; rw [trL_lf]; exact .inr ⟨.inr rfl, rfl⟩
                · rw [trL_c _ _ hd]; exact .inl rfl
            have hloc := one_local (c :: t) _ (by simp) he hgo
            rw [htr, List.append_assoc]
            have hlen : ((c :: t).take (one (c :: t)).size).length = (one (c :: t)).size := by rw [List.length_take]; omega
            obtain ⟨p, hp⟩ : ∃ p, (c :: t).take (one (c :: t)).size = c :: p := ⟨t.take ((one (c :: t)).size - 1), by
              conv => lhs; rw [show (one (c :: t)).size = ((one (c :: t)).size - 1) + 1 by omega]
              rw [List.take_succ_cons]⟩
            obtain ⟨ts', h1, h2⟩ := ih ((c :: t).drop (one (c :: t)).size) (by simp at hk ⊢; omega) _ _ a' (b' + (one (c :: t)).size) _ hx
            have hdrop := List.drop_left' (l₂ := trL note ((c :: t).drop (one (c :: t)).size) ++ 32 :: 35 :: note) hlen
            rw [hp, List.cons_append] at hloc hdrop
            rw [hp, List.cons_append, toks_tok _ _ _ _ hg (by rw [hloc]; exact he), hloc, hdrop, h1]
            refine ⟨_, rfl, ?_⟩
            rw [← h]
            exact AlikeL.cons ⟨rfl, rfl, rfl⟩ h2
        · rw [toks_bad _ _ _ _ hg he] at h; simp at h

end Go.Proofs.Ytddeiidkmihkkaa
