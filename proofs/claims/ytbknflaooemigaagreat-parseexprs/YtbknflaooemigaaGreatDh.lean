/-
 The document's reading as plain functions: how far each goes, how many nodes it makes. Conditions: the tokens end in an end.
-/
import Derived.Test.YtbknflaooemigaaGreatDg
namespace Go.Proofs.YtbknflaooemigaaGreat
set_option linter.unusedVariables false
section
variable {T : List Tok}

theorem fit_opens (hE : Ends T) {s : S} {n : Nat} (h : Fit T (n + 1) s) {x : List UInt8} (hx : isS T s x = true) : Fit T n (opensS T s x) := by
 obtain ⟨h1, h2, h3⟩ := h
 have hc := is_c hx
 have hl := last_end hE h1 (sees_ne hc.2)
 obtain ⟨o1, o2, o3, o4⟩ := opens_f hE h1 x
 have := h3 hc.1
 exact ⟨o1, by omega, fun h => by have := o4 h; omega⟩

theorem bnd_kind (hE : Ends T) (n : Nat) : ∀ s, Fit T n s → Bnd T s (kindS T n s) ∧ (kindS T n s).1.length + s.I ≤ (kindS T n s).2.I + 2 := by
 induction n with
 | zero => intro s h; have := h.2.1; omega
 | succ n ih =>
  intro s h
  have h1 := h.1
  unfold kindS
  split
  ·obtain ⟨m1, m2, m3, m4, m5⟩ := must_f hE h1 wInt
   rename_i hx
   have e : (mustS T s wInt).I = s.I + 1 := by simp [mustS, hx]
   refine ⟨⟨m2, m1, fun hc => absurd (is_c hx).1 hc, fun h => ⟨(is_c hx).1, ?_⟩, ?_⟩, ?_⟩ <;> simp [ndS] <;> omega
  ·split
   ·obtain ⟨m1, m2, m3, m4, m5⟩ := must_f hE h1 wBool
    rename_i hx
    have e : (mustS T s wBool).I = s.I + 1 := by simp [mustS, hx]
    refine ⟨⟨m2, m1, fun hc => absurd (is_c hx).1 hc, fun h => ⟨(is_c hx).1, ?_⟩, ?_⟩, ?_⟩ <;> simp [ndS] <;> omega
   ·split
    ·obtain ⟨m1, m2, m3, m4, m5⟩ := must_f hE h1 wStr
     rename_i hx
     have e : (mustS T s wStr).I = s.I + 1 := by simp [mustS, hx]
     refine ⟨⟨m2, m1, fun hc => absurd (is_c hx).1 hc, fun h => ⟨(is_c hx).1, ?_⟩, ?_⟩, ?_⟩ <;> simp [ndS] <;> omega
    ·split
     ·obtain ⟨m1, m2, m3, m4, m5⟩ := must_f hE h1 wComp
      rename_i hx
      have e : (mustS T s wComp).I = s.I + 1 := by simp [mustS, hx]
      refine ⟨⟨m2, m1, fun hc => absurd (is_c hx).1 hc, fun h => ⟨(is_c hx).1, ?_⟩, ?_⟩, ?_⟩ <;> simp [ndS] <;> omega
     ·split
      ·rename_i hx
       obtain ⟨o1, o2, o3, o4⟩ := opens_f hE h1 [91]
       obtain ⟨⟨k1, k2, k3, k4, k5⟩, k6⟩ := ih _ (fit_opens hE h hx)
       obtain ⟨t1, t2, t3, t4⟩ := shuts_f hE k2 [93]
       by_cases hb : (opensS T s [91]).c = 0
       ·have := o4 hb
        refine ⟨⟨by show s.I ≤ (shutsS _ _ _).I; omega, t1, fun hc => absurd (is_c hx).1 hc, fun h => ⟨(is_c hx).1, ?_⟩, ?_⟩, ?_⟩
        ·have a1 := t4 h; have a2 := k4 a1.1; simp only [ndS_len]; omega
        ·simp only [ndS_len]; omega
        ·simp only [ndS_len]; omega
       ·have a1 := k3 hb
        have a2 := t3 (by rw [a1.2.1]; exact hb)
        refine ⟨⟨by show s.I ≤ (shutsS _ _ _).I; omega, t1, fun hc => absurd (is_c hx).1 hc, fun h => absurd h (by rw [a2.2, a1.2.1]; exact hb), ?_⟩, ?_⟩
        ·simp only [ndS_len]; omega
        ·simp only [ndS_len]; omega
      ·obtain ⟨m1, m2, m3, m4, m5⟩ := word_f hE h1 2 (by decide)
       refine ⟨⟨m2, m1, fun hc => by rw [m4 hc]; exact ⟨rfl, rfl, by simp [ndS]⟩, fun h => ⟨(m5 h).1, ?_⟩, ?_⟩, ?_⟩
       ·have := m5 h; simp [ndS]; omega
       ·simp [ndS]; omega
       ·simp [ndS]; omega

theorem one_f {s : S} (h1 : s.I < T.length) : (oneS T s).I < T.length ∧ s.I ≤ (oneS T s).I ∧ (s.I + 1 < T.length → (oneS T s).I = s.I + 1) ∧ (oneS T s).c = s.c := by
 unfold oneS; exact ⟨by show min _ _ < _; omega, by show _ ≤ min _ _; omega, fun h => by show min _ _ = _; omega, rfl⟩
theorem comma_f (hE : Ends T) {s : S} (hs : s.I < T.length) (j : Nat) : (commaS T j s).I < T.length ∧ s.I ≤ (commaS T j s).I ∧ (s.c ≠ 0 → commaS T j s = s) ∧ ((commaS T j s).c = 0 → s.c = 0) := by
 unfold commaS
 split
 ·obtain ⟨m1, m2, m3, m4, m5⟩ := must_f hE hs [44]
  exact ⟨m1, m2, m4, fun h => (m5 h).1⟩
 ·exact ⟨hs, Nat.le_refl _, fun _ => rfl, id⟩

variable {E : S → Rs} {n : Nat}
theorem fit_up {s s' : S} (h : Fit T n s) (h1 : s'.I < T.length) (hI : s.I ≤ s'.I) (hc : s'.c = 0 → s.c = 0) : Fit T n s' := ⟨h1, h.2.1, fun h0 => by have := h.2.2 (hc h0); omega⟩

theorem bnd_argsL (hE : Ends T) (hB : Bd T n E) (m : Nat) : ∀ (j : Nat) (all : List Nd) (s : S), Fit T n s → s.I ≤ (argsL T E m j all s).2.I ∧ (argsL T E m j all s).2.I < T.length ∧ (s.c ≠ 0 → argsL T E m j all s = (all, s)) ∧ ((argsL T E m j all s).2.c = 0 → s.c = 0 ∧ (argsL T E m j all s).1.length + s.I ≤ (argsL T E m j all s).2.I + all.length) ∧ (argsL T E m j all s).1.length + s.I ≤ (argsL T E m j all s).2.I + all.length + 3 := by
 induction m with
 | zero => intro j all s h; exact ⟨Nat.le_refl _, h.1, fun _ => rfl, fun h => ⟨h, by show all.length + s.I ≤ s.I + all.length; omega⟩, by show all.length + s.I ≤ s.I + all.length + 3; omega⟩
 | succ m ih =>
  intro j all s h
  unfold argsL
  split
  ·rename_i hx
   obtain ⟨c1, c2, c3, c4⟩ := comma_f hE h.1 j
   have hf := fit_up h c1 c2 c4
   obtain ⟨b1, b2, b3, b4, b5⟩ := hB _ hf
   obtain ⟨i1, i2, i3, i4, i5⟩ := ih (j + 1) (all ++ (E (commaS T j s)).1) (E (commaS T j s)).2 (fit_up hf b2 b1 (fun h => (b4 h).1))
   refine ⟨by omega, i2, fun hc => absurd hx.1 hc, fun h0 => ⟨hx.1, ?_⟩, ?_⟩
   ·have a1 := i4 h0
    have a2 := b4 a1.1
    rw [List.length_append] at a1
    omega
   ·by_cases hg : (E (commaS T j s)).2.c = 0
    ·have a2 := b4 hg
     rw [List.length_append] at i5
     omega
    ·rw [i3 hg]
     simp only [List.length_append]
     omega
  ·exact ⟨Nat.le_refl _, h.1, fun _ => rfl, fun h => ⟨h, by show all.length + s.I ≤ s.I + all.length; omega⟩, by show all.length + s.I ≤ s.I + all.length + 3; omega⟩

/-- In round brackets. -/
theorem bnd_args (hE : Ends T) (hB : Bd T n E) (m : Nat) {s : S} (h : Fit T n (opensS T s [40])) (h1 : s.I < T.length) : s.I ≤ (argsS T E m s).2.I ∧ (argsS T E m s).2.I < T.length ∧ ((argsS T E m s).2.c = 0 → s.c = 0 ∧ (argsS T E m s).1.length + s.I + 2 ≤ (argsS T E m s).2.I) ∧ (argsS T E m s).1.length + s.I ≤ (argsS T E m s).2.I + 3 := by
 obtain ⟨o1, o2, o3, o4⟩ := opens_f hE h1 [40]
 obtain ⟨i1, i2, i3, i4, i5⟩ := bnd_argsL hE hB m 0 [] _ h
 obtain ⟨t1, t2, t3, t4⟩ := shuts_f hE i2 [41]
 unfold argsS
 refine ⟨by show _ ≤ (shutsS _ _ _).I; omega, t1, fun h0 => ?_, ?_⟩
 ·have a1 := t4 h0
  have a2 := i4 a1.1
  have a3 := o4 a2.1
  exact ⟨a3.1, by simp only [List.length_nil] at a2; show (argsL _ _ _ _ _ _).1.length + s.I + 2 ≤ (shutsS _ _ _).I; omega⟩
 ·simp only [List.length_nil] at i5
  show (argsL _ _ _ _ _ _).1.length + s.I ≤ (shutsS _ _ _).I + 3
  omega
end
end Go.Proofs.YtbknflaooemigaaGreat
