/-
  Plain facts on where tokens stand: places rise, and each token's bytes stand at its place. No function of the program is spoken of. Conditions: as said.
-/
import Derived.Test.YtddeiidkmihkkaaPlc
namespace Go.Proofs.Ytddeiidkmihkkaa
set_option linter.unusedVariables false

theorem plc_lt (l : List UInt8) (p q : Nat) (hpq : p < q) (hq : q ≤ l.length) {a b c d : Nat} (h1 : plc 1 1 (l.take p) = (a, b)) (h2 : plc 1 1 (l.take q) = (c, d)) : a < c ∨ (a = c ∧ b < d) := by
  have e : l.take q = l.take p ++ (l.drop p).take (q - p) := by
    conv => lhs; rw [show q = p + (q - p) by omega, List.take_add]
  have hlen : ((l.drop p).take (q - p)).length = q - p := by rw [List.length_take, List.length_drop]; omega
  rw [e, plc_app, h1] at h2
  rcases plc_cases ((l.drop p).take (q - p)) with hc | ⟨k, m, a1, a2, a3, a5, a4⟩
  · rw [hc, hlen] at h2
    simp only [Prod.mk.injEq] at h2
    omega
  · rw [a4] at h2
    simp only [Prod.mk.injEq] at h2
    omega

theorem plc_bnd (l : List UInt8) (p : Nat) (hp : p ≤ l.length) {a b : Nat} (h : plc 1 1 (l.take p) = (a, b)) : a ≤ p + 1 ∧ b ≤ p + 1 := by
  have hlen : (l.take p).length = p := by rw [List.length_take]; omega
  rcases plc_cases (l.take p) with hc | ⟨k, m, a1, a2, a3, a5, a4⟩
  · rw [hc, hlen] at h
    simp only [Prod.mk.injEq] at h
    omega
  · rw [a4] at h
    rw [hlen] at a2 a3
    simp only [Prod.mk.injEq] at h
    omega

theorem plc_next (l : List UInt8) (p : Nat) (hp : p < l.length) {a b : Nat} (h : plc 1 1 (l.take p) = (a, b)) : plc 1 1 (l.take (p + 1)) = if l[p] = 10 then (a + 1, 1) else (a, b + 1) := by
  rw [List.take_succ_eq_append_getElem hp, plc_app, h]
  show plc a b [l[p]] = _
  rw [plc]
  split <;> rfl

theorem one_kind (l : List UInt8) (h : (one l).err = 0) : (one l).kind ≠ 8 := by
  unfold one at *
  split at h
  · rename_i h1
    rw [if_pos h1]
    show namK l ≠ 8
    unfold namK; split
    · decide
    · split <;> decide
  · rename_i h1
    rw [if_neg h1]
    split at h
    · rename_i h2
      rw [if_pos h2]
      unfold numOne at *
      split at h
      · simp [bad] at h
      · rename_i h3
        rw [if_neg h3]
        split at h
        · simp [bad] at h
        · rename_i h4
          rw [if_neg h4]
          show (if isC l = true then 4 else 3) ≠ 8
          split <;> decide
    · rename_i h2
      rw [if_neg h2]
      split at h
      · rename_i h3
        rw [if_pos h3]
        unfold litOne at *
        split at h
        · rename_i h4; rw [if_pos h4]; show 5 ≠ 8; decide
        · simp [bad] at h
      · rename_i h3
        rw [if_neg h3]
        unfold sgnOne at *
        split at h
        · simp [bad] at h
        · rename_i h4; rw [if_neg h4]; show 7 ≠ 8; decide

/-- From a byte on these tokens stand. -/
inductive Loc (l : List UInt8) : Nat → List Tok → Prop
  | fin {p : Nat} {t : Tok} (hp : p ≤ l.length) (h : plc 1 1 l = (t.line, t.col)) (hk : t.kind = 8) : Loc l p [t]
  | tok {p o : Nat} {t : Tok} {ts : List Tok} (hp : p ≤ o) (ho : o < l.length) (h : plc 1 1 (l.take o) = (t.line, t.col)) (he : (one (l.drop o)).err = 0)
      (h1 : (one (l.drop o)).kind = t.kind) (h2 : (one (l.drop o)).num = t.num) (h3 : (one (l.drop o)).text = t.text) (hk : t.kind ≠ 8) (r : Loc l (o + 1) ts) : Loc l p (t :: ts)

theorem Loc.weak {l : List UInt8} {p q : Nat} {ts : List Tok} (h : Loc l p ts) (hq : q ≤ p) : Loc l q ts := by
  cases h with
  | fin hp h hk => exact .fin (by omega) h hk
  | tok hp ho h he h1 h2 h3 hk r => exact .tok (by omega) ho h he h1 h2 h3 hk r

theorem drop_cons' (l : List UInt8) (p : Nat) (hp : p < l.length) : l.drop p = l[p] :: l.drop (p + 1) := List.drop_eq_getElem_cons hp

theorem toks_loc (l : List UInt8) : ∀ n p, l.length - p ≤ n → p ≤ l.length → ∀ a b ts, plc 1 1 (l.take p) = (a, b) → toks (l.drop p) a b = .ok ts → Loc l p ts := by
  intro n
  induction n with
  | zero =>
    intro p hn hp a b ts hpl h
    obtain rfl : p = l.length := by omega
    rw [List.drop_length, toks_nil] at h
    injection h with h; subst h
    rw [List.take_length] at hpl
    exact .fin (Nat.le_refl _) hpl rfl
  | succ n ih =>
    intro p hn hp a b ts hpl h
    by_cases hlt : p < l.length
    · have hd := drop_cons' l p hlt
      have hnx := plc_next l p hlt hpl
      rw [hd] at h
      by_cases hg : isGap l[p]
      · rcases hg with e | e | e | e | e
        · rw [e] at hnx h
          rw [toks_lf] at h
          rw [if_pos rfl] at hnx
          exact (ih (p + 1) (by omega) (by omega) _ _ _ hnx h).weak (by omega)
        · rw [e] at hnx h
          rw [toks_blank _ _ _ _ (.inl rfl)] at h
          rw [if_neg (by decide)] at hnx
          exact (ih (p + 1) (by omega) (by omega) _ _ _ hnx h).weak (by omega)
        · rw [e] at hnx h
          rw [toks_blank _ _ _ _ (.inr (.inl rfl))] at h
          rw [if_neg (by decide)] at hnx
          exact (ih (p + 1) (by omega) (by omega) _ _ _ hnx h).weak (by omega)
        · rw [e] at hnx h
          rw [toks_blank _ _ _ _ (.inr (.inr rfl))] at h
          rw [if_neg (by decide)] at hnx
          exact (ih (p + 1) (by omega) (by omega) _ _ _ hnx h).weak (by omega)
        · rw [e] at hnx h
          rw [toks_note, List.drop_drop] at h
          rw [if_neg (by decide)] at hnx
          have hle := runL_le nlf (l.drop (p + 1))
          rw [List.length_drop] at hle
          refine (ih (p + 1 + runL nlf (l.drop (p + 1))) (by omega) (by omega) a (b + (runL nlf (l.drop (p + 1)) + 1)) ts ?_ h).weak (by omega)
          rw [List.take_add, plc_app, hnx]
          have hp : ∀ c ∈ (l.drop (p + 1)).take (runL nlf (l.drop (p + 1))), c ≠ 10 := fun c hc => by
            have := runL_all nlf (l.drop (p + 1)) c hc
            unfold nlf at this; simpa using this
          rw [plc_nolf hp, List.length_take, List.length_drop]
          simp only [Prod.mk.injEq, true_and]; omega
      · by_cases he : (one (l[p] :: l.drop (p + 1))).err = 0
        · rw [toks_tok _ _ _ _ hg he] at h
          rw [← hd] at h he
          have hne : l.drop p ≠ [] := by rw [hd]; exact List.cons_ne_nil _ _
          have hk := one_ok (l.drop p) hne he
          have hnl := one_nolf (l.drop p) hne he
          rw [List.length_drop] at hk
          rw [List.drop_drop] at h
          cases hx : toks (l.drop (p + (one (l.drop p)).size)) a (b + (one (l.drop p)).size) with
          | error f => rw [hx] at h; simp [Except.map] at h
          | ok us =>
            rw [hx] at h
            simp only [Except.map] at h
            injection h with h
            subst h
            refine .tok (Nat.le_refl _) hlt hpl he rfl rfl rfl (one_kind _ he) ((ih (p + (one (l.drop p)).size) (by omega) (by omega) a (b + (one (l.drop p)).size) us ?_ hx).weak (by omega))
            rw [List.take_add, plc_app, hpl, plc_nolf hnl, List.length_take, List.length_drop]
            simp only [Prod.mk.injEq, true_and]; omega
        · rw [toks_bad _ _ _ _ hg he] at h; simp at h
    · obtain rfl : p = l.length := by omega
      rw [List.drop_length, toks_nil] at h
      injection h with h; subst h
      rw [List.take_length] at hpl
      exact .fin (Nat.le_refl _) hpl rfl

end Go.Proofs.Ytddeiidkmihkkaa
