/-
  Plain facts: which digits are a number above a bound of nineteen digits. No program is spoken of. Conditions: those that are said.
-/
import Derived.Test.YtddeiidkmihkkaaNDec
namespace Go.Proofs.Ytddeiidkmihkkaa.Nm
open Go.RowKit

theorem valL_cons (c : UInt8) (l : List UInt8) : valL (c :: l) = (c.toNat - 48) * 10 ^ l.length + valL l := by
  refine snoc_ind (P := fun l => valL (c :: l) = (c.toNat - 48) * 10 ^ l.length + valL l) ?_ ?_ l
  · show 0 * 10 + (c.toNat - 48) = (c.toNat - 48) * 10 ^ 0 + 0
    omega
  · intro l d ih
    rw [← List.cons_append, valL_snoc, ih, valL_snoc, List.length_append, List.length_singleton, Nat.pow_succ, Nat.add_mul, ← Nat.mul_assoc]; omega
theorem valL_lt (l : List UInt8) (h : l.all digB = true) : valL l < 10 ^ l.length := by
  revert h
  refine snoc_ind (P := fun l => l.all digB = true → valL l < 10 ^ l.length) ?_ ?_ l
  · intro _; exact Nat.zero_lt_one
  · intro l d ih h
    rw [List.all_append] at h
    simp only [Bool.and_eq_true, List.all_cons, List.all_nil, Bool.and_true] at h
    obtain ⟨h1, h2⟩ := h
    unfold digB at h2; simp at h2
    have := ih h1
    rw [valL_snoc, List.length_append, List.length_singleton, Nat.pow_succ]; omega
theorem all_cons {c : UInt8} {l : List UInt8} (h : (c :: l).all digB = true) : (48 ≤ c.toNat ∧ c.toNat ≤ 57) ∧ l.all digB = true := by
  simp only [List.all_cons, Bool.and_eq_true] at h
  refine ⟨?_, h.2⟩
  have := h.1; unfold digB at this; simpa using this

/-- Of digits of the same count the lesser text is the lesser number. -/
theorem less_val : ∀ (a b : List UInt8), a.all digB = true → b.all digB = true → a.length = b.length → Op.bytesLess a b = decide (valL a < valL b)
  | [], [], _, _, _ => by simp [Op.bytesLess]
  | [], _ :: _, _, _, h => by simp at h
  | _ :: _, [], _, _, h => by simp at h
  | c :: x, d :: y, ha, hb, h => by
    obtain ⟨hc, hx⟩ := all_cons ha
    obtain ⟨hd, hy⟩ := all_cons hb
    have hl : x.length = y.length := by simpa using h
    rw [valL_cons, valL_cons, Op.bytesLess, less_val x y hx hy hl, hl]
    have b1 := valL_lt x hx
    have b2 := valL_lt y hy
    rw [hl] at b1
    generalize 10 ^ y.length = T at *
    rw [Bool.eq_iff_iff]
    simp only [Bool.or_eq_true, Bool.and_eq_true, decide_eq_true_eq, beq_iff_eq, UInt8.lt_iff_toNat_lt]
    rcases Nat.lt_trichotomy c.toNat d.toNat with q | q | q
    · have : (c.toNat - 48 + 1) * T ≤ (d.toNat - 48) * T := Nat.mul_le_mul_right _ (by omega)
      rw [Nat.add_mul] at this
      constructor
      · intro _; omega
      · intro _; exact Or.inl q
    · have e : c = d := UInt8.toNat_inj.1 q
      subst e
      constructor
      · rintro (h1 | ⟨_, h1⟩) <;> omega
      · intro h1; exact Or.inr ⟨rfl, by omega⟩
    · have : (d.toNat - 48 + 1) * T ≤ (c.toNat - 48) * T := Nat.mul_le_mul_right _ (by omega)
      rw [Nat.add_mul] at this
      constructor
      · rintro (h1 | ⟨h1, _⟩)
        · omega
        · rw [h1] at q; omega
      · intro h1; omega
theorem val_inj : ∀ (a b : List UInt8), a.all digB = true → b.all digB = true → a.length = b.length → valL a = valL b → a = b
  | [], [], _, _, _, _ => rfl
  | [], _ :: _, _, _, h, _ => by simp at h
  | _ :: _, [], _, _, h, _ => by simp at h
  | c :: x, d :: y, ha, hb, h, hv => by
    obtain ⟨hc, hx⟩ := all_cons ha
    obtain ⟨hd, hy⟩ := all_cons hb
    have hl : x.length = y.length := by simpa using h
    rw [valL_cons, valL_cons, hl] at hv
    have b1 := valL_lt x hx
    have b2 := valL_lt y hy
    rw [hl] at b1
    have hcd : c.toNat = d.toNat := by
      generalize 10 ^ y.length = T at *
      rcases Nat.lt_trichotomy c.toNat d.toNat with q | q | q
      · have : (c.toNat - 48 + 1) * T ≤ (d.toNat - 48) * T := Nat.mul_le_mul_right _ (by omega)
        rw [Nat.add_mul] at this; omega
      · exact q
      · have : (d.toNat - 48 + 1) * T ≤ (c.toNat - 48) * T := Nat.mul_le_mul_right _ (by omega)
        rw [Nat.add_mul] at this; omega
    have e : c = d := UInt8.toNat_inj.1 hcd
    subst e
    rw [val_inj x y hx hy hl (by omega)]

/-- Above the bound: more digits, or as many and a greater text. -/
theorem over19 (l m : List UInt8) (hl : l.all digB = true) (hm : m.all digB = true) (hm19 : m.length = 19) (hh : l.headD 0 ≠ 48 ∨ l.length ≤ 1) (hM : valL m ≤ 9223372036854775808) (hM2 : 9223372036854775807 ≤ valL m) :
    (decide (19 < l.length) || (decide (l.length = 19) && (!Op.bytesLess l m && !(l == m)))) = decide (valL m < valL l) := by
  have p18 : (10 : Nat) ^ 18 = 1000000000000000000 := by decide
  have p19 : (10 : Nat) ^ 19 = 10000000000000000000 := by decide
  have hlt := valL_lt l hl
  rcases Nat.lt_trichotomy l.length 19 with q | q | q
  · have : 10 ^ l.length ≤ 10 ^ 18 := Nat.pow_le_pow_right (by omega) (by omega)
    rw [decide_eq_false (show ¬ 19 < l.length by omega), decide_eq_false (show ¬ l.length = 19 by omega), decide_eq_false (show ¬ valL m < valL l by omega)]; rfl
  · rw [decide_eq_false (show ¬ 19 < l.length by omega), decide_eq_true q, less_val l m hl hm (by omega)]
    by_cases h : valL m < valL l
    · have h1 : ¬ valL l < valL m := by omega
      have h2 : ¬ l = m := by intro e; rw [e] at h; omega
      simp [h, h1, h2]
    · by_cases h1 : valL l < valL m
      · simp [h, h1]
      · have h2 : l = m := val_inj l m hl hm (by omega) (by omega)
        simp [h2]
  · have hne : l ≠ [] := by intro e; rw [e] at q; simp at q
    have hge : 10 ^ 19 ≤ valL l := by
      cases l with
      | nil => exact absurd rfl hne
      | cons c x =>
        obtain ⟨hc, hx⟩ := all_cons hl
        have h48 : c.toNat ≠ 48 := by
          rcases hh with hh | hh
          · intro e; exact hh (UInt8.toNat_inj.1 e)
          · omega
        rw [valL_cons]
        have : 1 * 10 ^ x.length ≤ (c.toNat - 48) * 10 ^ x.length := Nat.mul_le_mul_right _ (by omega)
        have h19 : 10 ^ 19 ≤ 10 ^ x.length := Nat.pow_le_pow_right (by omega) (by simp at q; omega)
        omega
    rw [decide_eq_true (show 19 < l.length by omega), decide_eq_true (show valL m < valL l by omega)]; rfl

end Go.Proofs.Ytddeiidkmihkkaa.Nm
