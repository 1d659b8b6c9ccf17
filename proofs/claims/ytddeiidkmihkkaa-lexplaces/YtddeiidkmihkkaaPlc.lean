/-
  Plain facts on places: what stands between tokens, the place behind bytes, tokens without line feeds. No function of the program is spoken of. Conditions: as said.
-/
import Derived.Test.YtddeiidkmihkkaaOne
namespace Go.Proofs.Ytddeiidkmihkkaa
set_option linter.unusedVariables false

theorem plc_app (x y : List UInt8) : ∀ a b, plc a b (x ++ y) = plc (plc a b x).1 (plc a b x).2 y := by
  induction x with
  | nil => intro a b; rfl
  | cons c t ih =>
    intro a b
    rw [List.cons_append, plc, plc]
    split
    · exact ih _ _
    · exact ih _ _

theorem plc_nolf {x : List UInt8} (h : ∀ c ∈ x, c ≠ 10) : ∀ a b, plc a b x = (a, b + x.length) := by
  induction x with
  | nil => intro a b; rfl
  | cons c t ih =>
    intro a b
    rw [plc, if_neg (h c (by simp)), ih (fun d hd => h d (by simp [hd]))]
    simp; omega

theorem plc_cases (x : List UInt8) : (∀ a b, plc a b x = (a, b + x.length)) ∨ ∃ k m, 1 ≤ k ∧ k ≤ x.length ∧ m ≤ x.length + 1 ∧ 1 ≤ m ∧ ∀ a b, plc a b x = (a + k, m) := by
  induction x with
  | nil => exact .inl fun a b => rfl
  | cons c t ih =>
    by_cases hc : c = 10
    · subst hc
      rcases ih with h | ⟨k, m, h1, h2, h3, h5, h4⟩
      · exact .inr ⟨1, 1 + t.length, by omega, by simp, by simp; omega, by omega, fun a b => by rw [plc, if_pos rfl, h]⟩
      · exact .inr ⟨k + 1, m, by omega, by simp; omega, by simp; omega, h5, fun a b => by rw [plc, if_pos rfl, h4]; simp; omega⟩
    · rcases ih with h | ⟨k, m, h1, h2, h3, h5, h4⟩
      · exact .inl fun a b => by rw [plc, if_neg hc, h]; simp; omega
      · exact .inr ⟨k, m, h1, by simp; omega, by simp; omega, h5, fun a b => by rw [plc, if_neg hc, h4]⟩

theorem skip_le : ∀ (l : List UInt8) (n : Bool), skipF n l ≤ l.length := by
  intro l
  induction l with
  | nil => intro n; simp [skipF]
  | cons c t ih =>
    intro n
    rw [skipF]
    have h1 := ih false
    have h2 := ih true
    split
    · simp; omega
    · split
      · simp; omega
      · split
        · simp; omega
        · simp

theorem skip_true (t : List UInt8) : skipF true t = runL nlf t + skipF false (t.drop (runL nlf t)) := by
  induction t with
  | nil => rfl
  | cons c t ih =>
    by_cases hc : c = 10
    · subst hc
      rw [runL_none (by decide), List.drop_zero, skip_lf, skip_lf]; omega
    · rw [skip_in t hc (.inl rfl), runL_cons (by simp [nlf, hc]), List.drop_succ_cons, ih]; omega

/-- Where nothing but a token, or the end, can stand. -/
def atTok (l : List UInt8) : Prop := ∀ c, l.head? = some c → ¬ isGap c

theorem skip_stop : ∀ n (l : List UInt8), l.length ≤ n → atTok (l.drop (skipF false l)) := by
  intro n
  induction n with
  | zero =>
    intro l hl
    obtain rfl : l = [] := List.eq_nil_of_length_eq_zero (by omega)
    intro c hc; simp at hc
  | succ n ih =>
    intro l hl
    cases l with
    | nil => intro c hc; simp at hc
    | cons c t =>
      simp only [List.length_cons] at hl
      by_cases hg : isGap c
      · rcases hg with rfl | rfl | rfl | rfl | rfl
        · rw [skip_lf, List.drop_succ_cons]; exact ih t (by omega)
        · rw [skip_blank t (.inl rfl), List.drop_succ_cons]; exact ih t (by omega)
        · rw [skip_blank t (.inr (.inl rfl)), List.drop_succ_cons]; exact ih t (by omega)
        · rw [skip_blank t (.inr (.inr rfl)), List.drop_succ_cons]; exact ih t (by omega)
        · rw [skip_in t (by decide) (.inr rfl), List.drop_succ_cons, skip_true, ← List.drop_drop]
          exact ih _ (by simp; omega)
      · rw [skip_tok t hg, List.drop_zero]
        intro d hd; simp at hd; subst hd; exact hg

theorem toks_skip : ∀ n (l : List UInt8), l.length ≤ n → ∀ a b, toks l a b = toks (l.drop (skipF false l)) (plc a b (l.take (skipF false l))).1 (plc a b (l.take (skipF false l))).2 := by
  intro n
  induction n with
  | zero =>
    intro l hl a b
    obtain rfl : l = [] := List.eq_nil_of_length_eq_zero (by omega)
    rfl
  | succ n ih =>
    intro l hl a b
    cases l with
    | nil => rfl
    | cons c t =>
      simp only [List.length_cons] at hl
      by_cases hg : isGap c
      · rcases hg with rfl | rfl | rfl | rfl | rfl
        · rw [skip_lf, List.drop_succ_cons, List.take_succ_cons, plc, if_pos rfl, toks_lf]; exact ih t (by omega) _ _
        · rw [skip_blank t (.inl rfl), List.drop_succ_cons, List.take_succ_cons, plc, if_neg (by decide), toks_blank _ _ _ _ (.inl rfl)]; exact ih t (by omega) _ _
        · rw [skip_blank t (.inr (.inl rfl)), List.drop_succ_cons, List.take_succ_cons, plc, if_neg (by decide), toks_blank _ _ _ _ (.inr (.inl rfl))]; exact ih t (by omega) _ _
        · rw [skip_blank t (.inr (.inr rfl)), List.drop_succ_cons, List.take_succ_cons, plc, if_neg (by decide), toks_blank _ _ _ _ (.inr (.inr rfl))]; exact ih t (by omega) _ _
        · rw [skip_in t (by decide) (.inr rfl), List.drop_succ_cons, List.take_succ_cons, plc, if_neg (by decide), toks_note, skip_true, ← List.drop_drop, List.take_add, plc_app]
          have hn : ∀ c ∈ t.take (runL nlf t), c ≠ 10 := fun c hc => by
            have := runL_all nlf t c hc
            unfold nlf at this; simpa using this
          rw [plc_nolf hn, List.length_take, Nat.min_eq_left (runL_le _ _)]
          rw [show b + (runL nlf t + 1) = b + 1 + runL nlf t by omega]
          exact ih _ (by simp; omega) _ _
      · rw [skip_tok t hg, List.drop_zero, List.take_zero]; rfl

theorem dg_nolf {c : UInt8} {x : Nat} (h : dg c = some x) : c ≠ 10 := fun e => by subst e; simp [dg] at h
theorem bk_nolf {c b : UInt8} (h : bk c = some b) : c ≠ 10 := fun e => by subst e; simp [bk] at h

theorem rb_nolf (l : List UInt8) (h : (rb l).2.2 = true) : ∀ c ∈ l.take (rb l).2.1, c ≠ 10 := by
  match l with
  | [] => simp
  | c :: t =>
    by_cases h1 : c.toNat < 32 ∨ 126 < c.toNat
    · simp [rb_out c t h1] at h
    · by_cases h2 : c = 92
      · subst h2
        match t with
        | [] => simp [rb_end] at h
        | d :: u =>
          by_cases h3 : d = 120
          · subst h3
            rw [rb_x] at h ⊢
            match u with
            | [] => simp [rd_nil] at h
            | e :: v =>
              cases he : dg e with
              | none => simp [rd_bad e v he] at h
              | some x =>
                match v with
                | [] => simp [rd_one e x he] at h
                | f :: v =>
                  cases hf : dg f with
                  | none => simp [rd_bad2 e f v x he hf] at h
                  | some y =>
                    rw [rd_two e f v x y he hf]
                    have a1 := dg_nolf he
                    have a2 := dg_nolf hf
                    simp [a1, a2]
          · cases hb : bk d with
            | none => simp [rb_no d u h3 hb] at h
            | some b =>
              rw [rb_bk d u h3 b hb]
              have a1 := bk_nolf hb
              simp [a1]
      · rw [rb_plain c t h1 h2]
        have a1 : c ≠ 10 := fun e => by rw [e] at h1; exact h1 (.inl (by decide))
        simp [a1]

theorem scan_nolf : ∀ n (m : List UInt8), m.length ≤ n → (scan m).2.2 = true → ∀ c ∈ m.take (scan m).2.1, c ≠ 10 := by
  intro n
  induction n with
  | zero =>
    intro m hm h
    obtain rfl : m = [] := List.eq_nil_of_length_eq_zero (by omega)
    simp
  | succ n ih =>
    intro m hm h
    by_cases hq : m.head? = some 34
    · rw [scan_quote m hq]
      cases m with
      | nil => simp
      | cons c t => simp at hq; subst hq; simp
    · by_cases hb : (rb m).2.2 = true
      · have hs := scan_step m hq hb
        have hz := rb_size m hb
        rw [hs] at h
        have hi := ih (m.drop (rb m).2.1) (by simp; omega) h
        rw [hs]
        show ∀ c ∈ m.take ((rb m).2.1 + (scan (m.drop (rb m).2.1)).2.1), c ≠ 10
        rw [List.take_add]
        intro c hc
        rcases List.mem_append.1 hc with hc | hc
        · exact rb_nolf m hb c hc
        · exact hi c hc
      · rw [scan_bad m hq (by simpa using hb)] at h
        simp at h

theorem nam_nolf {c : UInt8} (h : nam c = true) : c ≠ 10 := fun e => by subst e; exact absurd h (by decide)
theorem dgt_nolf {c : UInt8} (h : dgt c = true) : c ≠ 10 := fun e => by subst e; exact absurd h (by decide)

theorem one_nolf (l : List UInt8) (hl : l ≠ []) (h : (one l).err = 0) : ∀ c ∈ l.take (one l).size, c ≠ 10 := by
  unfold one at *
  split at h
  · rename_i h1
    rw [if_pos h1]
    exact fun c hc => nam_nolf (runL_all nam l c hc)
  · rename_i h1
    rw [if_neg h1]
    split at h
    · rename_i h2
      rw [if_pos h2]
      unfold numOne at *
      split at h
      · simp [bad] at h
      · rename_i h3
        rw [if_neg h3]
        split at h
        · simp [bad] at h
        · rename_i h4
          rw [if_neg h4]
          show ∀ c ∈ l.take (numK l), c ≠ 10
          unfold numK
          split
          · rename_i h5
            unfold isC at h5
            rw [decide_eq_true_eq] at h5
            rw [List.take_add]
            intro c hc
            rcases List.mem_append.1 hc with hc | hc
            · exact dgt_nolf (runL_all dgt l c hc)
            · cases hd : l.drop (runL dgt l) with
              | nil => rw [hd] at h5; simp at h5
              | cons a b =>
                rw [hd] at h5 hc
                simp at h5 hc
                subst hc; subst h5; decide
          · exact fun c hc => dgt_nolf (runL_all dgt l c hc)
    · rename_i h2
      rw [if_neg h2]
      split at h
      · rename_i h3
        rw [if_pos h3]
        unfold litOne at *
        split at h
        · rename_i h4
          rw [if_pos h4]
          obtain ⟨t, rfl⟩ := read_head l h4
          rw [read_quote] at h4 ⊢
          show ∀ c ∈ (34 :: t).take (1 + (scan t).2.1), c ≠ 10
          rw [show 1 + (scan t).2.1 = (scan t).2.1 + 1 by omega, List.take_succ_cons]
          intro c hc
          rcases List.mem_cons.1 hc with rfl | hc
          · decide
          · exact scan_nolf _ t (Nat.le_refl _) h4 c hc
        · simp [bad] at h
      · rename_i h3
        rw [if_neg h3]
        unfold sgnOne at *
        split at h
        · simp [bad] at h
        · rename_i h4
          rw [if_neg h4]
          show ∀ c ∈ l.take (sgn l), c ≠ 10
          by_cases h5 : l.take 2 ∈ twos
          · rw [sgn_two h5]
            have h6 : ∀ x ∈ twos, ∀ c ∈ x, c ≠ 10 := by decide
            exact h6 _ h5
          · by_cases h6 : l.headD 0 ∈ ones
            · rw [sgn_one h5 h6]
              cases l with
              | nil => exact absurd rfl hl
              | cons c t =>
                have h7 : ∀ x ∈ ones, x ≠ 10 := by decide
                have := h7 _ h6
                simpa using this
            · exact absurd (sgn_no h5 h6) h4

end Go.Proofs.Ytddeiidkmihkkaa
