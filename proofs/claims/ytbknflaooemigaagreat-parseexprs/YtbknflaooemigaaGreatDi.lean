/-
 The document's reading as plain functions: how far atoms, what stands behind them, unary signs and levels go, how many nodes they make. Conditions: the tokens end in an end.
-/
import Derived.Test.YtbknflaooemigaaGreatDh
namespace Go.Proofs.YtbknflaooemigaaGreat
set_option linter.unusedVariables false
section
variable {T : List Tok} {E U : S → Rs} {n : Nat}

theorem fit_of {s s' : S} (h : Fit T (n + 1) s) (hl : s.I + 1 < T.length) (hc : s.c = 0) (h1 : s'.I < T.length) (h2 : s'.c = 0 → s.I + 1 ≤ s'.I) : Fit T n s' := by
 have := h.2.2 hc
 exact ⟨h1, by omega, fun h0 => by have := h2 h0; omega⟩

theorem bnd_leaf {s : S} (hc : s.c = 0) (h1 : s.I < T.length) (hl : s.I + 1 < T.length) (k : Nat) (t : Tok) (x : List UInt8) (m : Int) : Bnd T s (ndS k t x m [], oneS T s) := by
 obtain ⟨o1, o2, o3, o4⟩ := one_f (T := T) h1
 have := o3 hl
 exact ⟨o2, o1, fun h => absurd hc h, fun _ => ⟨hc, by simp [ndS]; omega⟩, by simp [ndS]; omega⟩

theorem bnd_ite {s : S} {p : Prop} [Decidable p] {a b : Rs} (h1 : p → Bnd T s a) (h2 : ¬ p → Bnd T s b) : Bnd T s (if p then a else b) := by
 by_cases h : p
 ·rw [if_pos h]; exact h1 h
 ·rw [if_neg h]; exact h2 h
theorem bnd_atom (hE : Ends T) (hB : Bd T n E) : Bd T (n + 1) (atomS T E (n + 1)) := by
 intro s h
 have h1 := h.1
 unfold atomS
 refine bnd_ite (fun hc => ?_) (fun hc => ?_)
 ·skip
  exact ⟨Nat.le_refl _, h1, fun _ => ⟨rfl, rfl, by simp⟩, fun h => absurd h hc, by show 1 + s.I ≤ s.I + 3; omega⟩
 ·replace hc : s.c = 0 := Decidable.not_not.1 hc
  have hK : (nowS T s).kind ≠ 8 → s.I + 1 < T.length := fun hk => last_end hE h1 hk
  have hI : ∀ {x}, isS T s x = true → s.I + 1 < T.length := fun hx => hK (sees_ne (is_c hx).2)
  refine bnd_ite (fun hk => ?_) (fun h' => ?_)
  ·skip
   exact bnd_leaf hc h1 (hK (by omega)) _ _ _ _
  ·refine bnd_ite (fun hk => ?_) (fun h' => ?_)
   ·skip
    exact bnd_leaf hc h1 (hK (by omega)) _ _ _ _
   ·refine bnd_ite (fun hk => ?_) (fun h' => ?_)
    ·skip
     exact bnd_leaf hc h1 (hK (by omega)) _ _ _ _
    ·refine bnd_ite (fun hx => ?_) (fun h' => ?_)
     ·skip
      exact bnd_leaf hc h1 (hI hx) _ _ _ _
     ·refine bnd_ite (fun hx => ?_) (fun h' => ?_)
      ·skip
       exact bnd_leaf hc h1 (hI hx) _ _ _ _
      ·refine bnd_ite (fun hx => ?_) (fun h' => ?_)
       ·skip
        exact bnd_leaf hc h1 (hI hx) _ _ _ _
       ·obtain ⟨p1, p2, p3, p4⟩ := one_f (T := T) h1
        refine bnd_ite (fun hk => ?_) (fun h' => ?_)
        ·skip
         exact bnd_leaf hc h1 (hK (by omega)) _ _ _ _
        ·refine bnd_ite (fun hk => ?_) (fun h' => ?_)
         ·skip
          have hl := hK (by omega)
          have pe := p3 hl
          obtain ⟨o1, o2, o3, o4⟩ := opens_f hE p1 [40]
          obtain ⟨a1, a2, a3, a4⟩ := bnd_args hE hB (n + 1) (s := oneS T s) (fit_of h hl hc o1 (fun h0 => by have := o4 h0; omega)) p1
          refine ⟨by show s.I ≤ (argsS _ _ _ _).2.I; omega, a2, fun h => absurd hc h, fun h0 => ⟨hc, ?_⟩, ?_⟩
          ·have := a3 h0; simp only [ndS_len]; omega
          ·simp only [ndS_len]; omega
         ·refine bnd_ite (fun hx => ?_) (fun h' => ?_)
          ·skip
           have hl := hI hx
           obtain ⟨o1, o2, o3, o4⟩ := opens_f hE h1 [40]
           obtain ⟨b1, b2, b3, b4, b5⟩ := hB _ (fit_opens hE h hx)
           obtain ⟨t1, t2, t3, t4⟩ := shuts_f hE b2 [41]
           refine ⟨by show s.I ≤ (shutsS _ _ _).I; omega, t1, fun h => absurd hc h, fun h0 => ⟨hc, ?_⟩, ?_⟩
           ·have x1 := t4 h0; have x2 := b4 x1.1; have x3 := o4 x2.1; show (E _).1.length + s.I ≤ (shutsS _ _ _).I; omega
           ·show (E _).1.length + s.I ≤ (shutsS _ _ _).I + 3
            by_cases hb : (opensS T s [40]).c = 0
            ·have := o4 hb; omega
            ·have := b3 hb; omega
          ·refine bnd_ite (fun hx => ?_) (fun h' => ?_)
           ·skip
            have hl := hI hx.1
            have pe := p3 hl
            have hfk : Fit T (n + 1) (oneS T s) := fit_up h p1 p2 (fun _ => hc)
            obtain ⟨⟨k1, k2, k3, k4, k5⟩, k6⟩ := bnd_kind hE (n + 1) (oneS T s) hfk
            obtain ⟨o1, o2, o3, o4⟩ := opens_f hE k2 [40]
            obtain ⟨b1, b2, b3, b4, b5⟩ := hB (opensS T (kindS T (n + 1) (oneS T s)).2 [40]) (fit_of h hl hc o1 (fun h0 => by have := o4 h0; have := k4 this.1; omega))
            obtain ⟨t1, t2, t3, t4⟩ := shuts_f hE b2 [41]
            refine ⟨by show s.I ≤ (shutsS _ _ _).I; omega, t1, fun h => absurd hc h, fun h0 => ⟨hc, ?_⟩, ?_⟩
            ·have x1 := t4 h0; have x2 := b4 x1.1; have x3 := o4 x2.1; have x4 := k4 x3.1; simp only [ndS_len, List.length_append]; omega
            ·simp only [ndS_len, List.length_append]
             by_cases hg : (kindS T (n + 1) (oneS T s)).2.c = 0
             ·have x4 := k4 hg
              by_cases hb : (opensS T (kindS T (n + 1) (oneS T s)).2 [40]).c = 0
              ·have := o4 hb; omega
              ·have := b3 hb; omega
             ·have x5 := o3 hg
              have := b3 (by rw [x5.2]; exact hg)
              omega
           ·refine bnd_ite (fun hx => ?_) (fun h' => ?_)
            ·skip
             have hl := hI hx
             have pe := p3 hl
             obtain ⟨m1, m2, m3, m4, m5⟩ := word_f hE p1 2 (by decide)
             obtain ⟨o1, o2, o3, o4⟩ := opens_f hE m1 [40]
             obtain ⟨t1, t2, t3, t4⟩ := shuts_f hE o1 [41]
             refine ⟨by show s.I ≤ (shutsS _ _ _).I; omega, t1, fun h => absurd hc h, fun h0 => ⟨hc, ?_⟩, ?_⟩
             ·have x1 := t4 h0; have x2 := o4 x1.1; simp only [ndS_len, List.length_nil]; omega
             ·simp only [ndS_len, List.length_nil]; omega
            ·refine ⟨by rw [failS_I]; exact Nat.le_refl _, by rw [failS_I]; exact h1, fun h => absurd hc h, fun h0 => ?_, by rw [failS_I]; show 1 + s.I ≤ s.I + 3; omega⟩
             rw [failS, if_pos hc] at h0
             exact absurd h0 (by simp)

theorem bnd_postL (hE : Ends T) (hB : Bd T n E) (m : Nat) : ∀ (x : List Nd) (s : S), Fit T (n + 1) s → s.I ≤ (postLS T E m x s).2.I ∧ (postLS T E m x s).2.I < T.length ∧ (s.c ≠ 0 → postLS T E m x s = (x, s)) ∧ ((postLS T E m x s).2.c = 0 → s.c = 0 ∧ (postLS T E m x s).1.length + s.I ≤ (postLS T E m x s).2.I + x.length) ∧ (postLS T E m x s).1.length + s.I ≤ (postLS T E m x s).2.I + x.length + 3 := by
 induction m with
 | zero => intro x s h; exact ⟨Nat.le_refl _, h.1, fun _ => rfl, fun h => ⟨h, by show x.length + s.I ≤ s.I + x.length; omega⟩, by show x.length + s.I ≤ s.I + x.length + 3; omega⟩
 | succ m ih =>
  intro x s h
  have h1 := h.1
  unfold postLS
  split
  ·rename_i hx
   have hc := (is_c hx).1
   obtain ⟨o1, o2, o3, o4⟩ := opens_f hE h1 [91]
   obtain ⟨b1, b2, b3, b4, b5⟩ := hB _ (fit_opens hE h hx)
   obtain ⟨t1, t2, t3, t4⟩ := shuts_f hE b2 [93]
   obtain ⟨i1, i2, i3, i4, i5⟩ := ih (ndS 28 (nowS T s) [] 0 (x ++ (E (opensS T s [91])).1)) (shutsS T (E (opensS T s [91])).2 [93]) (fit_up h t1 (by omega) (fun _ => hc))
   refine ⟨by omega, i2, fun h => absurd hc h, fun h0 => ⟨hc, ?_⟩, ?_⟩
   ·have a1 := i4 h0; have a2 := t4 a1.1; have a3 := b4 a2.1; have a4 := o4 a3.1
    rw [ndS_len, List.length_append] at a1; omega
   ·by_cases hg : (shutsS T (E (opensS T s [91])).2 [93]).c = 0
    ·have a2 := t4 hg; have a3 := b4 a2.1; have a4 := o4 a3.1
     rw [ndS_len, List.length_append] at i5; omega
    ·rw [i3 hg]
     simp only [ndS_len, List.length_append]
     by_cases hb : (opensS T s [91]).c = 0
     ·have := o4 hb; omega
     ·have := b3 hb; omega
  ·split
   ·rename_i hx
    have hc := (is_c hx).1
    obtain ⟨m1, m2, m3, m4, m5⟩ := must_f hE h1 [46]
    have me : (mustS T s [46]).I = s.I + 1 := by simp [mustS, hx]
    obtain ⟨q1, q2, q3, q4, q5⟩ := word_f hE m1 1 (by decide)
    obtain ⟨i1, i2, i3, i4, i5⟩ := ih (ndS 29 (nowS T s) (nowS T (mustS T s [46])).text 0 x) (wordS T (mustS T s [46]) 1) (fit_up h q1 (by omega) (fun _ => hc))
    rw [ndS_len] at i4 i5
    refine ⟨by omega, i2, fun h => absurd hc h, fun h0 => ⟨hc, ?_⟩, ?_⟩
    ·have a1 := i4 h0; omega
    ·omega
   ·exact ⟨Nat.le_refl _, h.1, fun _ => rfl, fun h => ⟨h, by show x.length + s.I ≤ s.I + x.length; omega⟩, by show x.length + s.I ≤ s.I + x.length + 3; omega⟩

theorem bnd_post (hE : Ends T) (hB : Bd T n E) : Bd T (n + 1) (postS T E (n + 1)) := by
 intro s h
 obtain ⟨a1, a2, a3, a4, a5⟩ := bnd_atom hE hB s h
 obtain ⟨i1, i2, i3, i4, i5⟩ := bnd_postL hE hB (n + 1) (atomS T E (n + 1) s).1 (atomS T E (n + 1) s).2 (fit_up h a2 a1 (fun h => (a4 h).1))
 unfold postS
 refine ⟨by omega, i2, fun hc => ?_, fun h0 => ?_, ?_⟩
 ·have := a3 hc
  rw [i3 (by rw [this.2.1]; exact hc)]
  exact this
 ·have x1 := i4 h0; have x2 := a4 x1.1; exact ⟨x2.1, by omega⟩
 ·by_cases hg : (atomS T E (n + 1) s).2.c = 0
  ·have := a4 hg; omega
  ·rw [i3 hg]; exact a5

theorem bnd_unary (hE : Ends T) {P : S → Rs} (hU : Bd T n U) (hP : Bd T (n + 1) P) : Bd T (n + 1) (unaryS T U P) := by
 intro s h
 have h1 := h.1
 have key : ∀ (x : List UInt8) (m : Int), isS T s x = true → Bnd T s (ndS 30 (nowS T s) [] m (U (opensS T s x)).1, downS (U (opensS T s x)).2) := fun x m hx => by
  have hc := (is_c hx).1
  obtain ⟨o1, o2, o3, o4⟩ := opens_f hE h1 x
  obtain ⟨b1, b2, b3, b4, b5⟩ := hU _ (fit_opens hE h hx)
  refine ⟨by show s.I ≤ (U _).2.I; omega, b2, fun h => absurd hc h, fun h0 => ⟨hc, ?_⟩, ?_⟩
  ·have x2 := b4 h0; have x3 := o4 x2.1; simp only [ndS_len]; show _ ≤ (U _).2.I; omega
  ·simp only [ndS_len]
   show _ ≤ (U _).2.I + 3
   by_cases hb : (opensS T s x).c = 0
   ·have := o4 hb; omega
   ·have := b3 hb; omega
 unfold unaryS
 split
 ·rename_i hx; exact key _ _ hx
 ·split
  ·rename_i hx; exact key _ _ hx
  ·exact hP s h

theorem any_c {s : S} {l : List (List UInt8)} (h : anyIs T s l = true) : s.c = 0 ∧ (nowS T s).text ∈ l ∧ isS T s (nowS T s).text = true := by
 obtain ⟨x, hx, h2⟩ := List.any_eq_true.1 h
 have h3 := is_c h2
 have e : (nowS T s).text = x := by have := h3.2; simp only [seesT, decide_eq_true_eq] at this; exact this.2
 exact ⟨h3.1, e ▸ hx, by rw [e]; exact h2⟩
theorem bnd_step (hE : Ends T) (hB : Bd T n E) {x : List Nd} {s : S} (h : Fit T n s) (ha : isS T s (nowS T s).text = true) : s.I + 1 ≤ (stepS T E x s).2.I ∧ (stepS T E x s).2.I < T.length ∧ ((stepS T E x s).2.c = 0 → (stepS T E x s).1.length + s.I ≤ (stepS T E x s).2.I + x.length) ∧ (stepS T E x s).1.length + s.I ≤ (stepS T E x s).2.I + x.length + 3 := by
 have hc := (is_c ha).1
 obtain ⟨m1, m2, m3, m4, m5⟩ := must_f hE h.1 (nowS T s).text
 have me : (mustS T s (nowS T s).text).I = s.I + 1 := by simp [mustS, ha]
 obtain ⟨b1, b2, b3, b4, b5⟩ := hB _ (fit_up h m1 m2 (fun _ => hc))
 unfold stepS
 refine ⟨by show _ ≤ (E _).2.I; omega, b2, fun h0 => ?_, ?_⟩
 ·have := b4 h0; simp only [ndS_len, List.length_append]; omega
 ·simp only [ndS_len, List.length_append]; omega
theorem bnd_chain (hE : Ends T) (hB : Bd T n E) (l : List (List UInt8)) (m : Nat) : ∀ (x : List Nd) (s : S), Fit T n s → s.I ≤ (chainS T E l m x s).2.I ∧ (chainS T E l m x s).2.I < T.length ∧ (s.c ≠ 0 → chainS T E l m x s = (x, s)) ∧ ((chainS T E l m x s).2.c = 0 → s.c = 0 ∧ (chainS T E l m x s).1.length + s.I ≤ (chainS T E l m x s).2.I + x.length) ∧ (chainS T E l m x s).1.length + s.I ≤ (chainS T E l m x s).2.I + x.length + 3 := by
 induction m with
 | zero => intro x s h; exact ⟨Nat.le_refl _, h.1, fun _ => rfl, fun h => ⟨h, by show x.length + s.I ≤ s.I + x.length; omega⟩, by show x.length + s.I ≤ s.I + x.length + 3; omega⟩
 | succ m ih =>
  intro x s h
  unfold chainS
  split
  ·rename_i hx
   obtain ⟨hc, -, ha⟩ := any_c hx
   obtain ⟨t1, t2, t3, t4⟩ := bnd_step (x := x) hE hB h ha
   obtain ⟨i1, i2, i3, i4, i5⟩ := ih (stepS T E x s).1 (stepS T E x s).2 (fit_up h t2 (by omega) (fun _ => hc))
   refine ⟨by omega, i2, fun h => absurd hc h, fun h0 => ⟨hc, ?_⟩, ?_⟩
   ·have a1 := i4 h0; have a2 := t3 a1.1; omega
   ·by_cases hg : (stepS T E x s).2.c = 0
    ·have a2 := t3 hg; omega
    ·rw [i3 hg]; exact t4
  ·exact ⟨Nat.le_refl _, h.1, fun _ => rfl, fun h => ⟨h, by show x.length + s.I ≤ s.I + x.length; omega⟩, by show x.length + s.I ≤ s.I + x.length + 3; omega⟩
theorem bnd_lev (hE : Ends T) (hU : Bd T n U) (m j : Nat) : Bd T n (levS T m U j) := by
 induction j with
 | zero => exact hU
 | succ j ih =>
  intro s h
  obtain ⟨a1, a2, a3, a4, a5⟩ := ih s h
  have hf : Fit T n (levS T m U j s).2 := fit_up h a2 a1 (fun h => (a4 h).1)
  unfold levS
  split
  ·split
   ·rename_i hx
    obtain ⟨hc, -, ha⟩ := any_c hx
    obtain ⟨t1, t2, t3, t4⟩ := bnd_step (x := (levS T m U j s).1) hE ih hf ha
    have := a4 hc
    refine ⟨by omega, t2, fun h => absurd this.1 h, fun h0 => ⟨this.1, ?_⟩, ?_⟩
    ·have := t3 h0; omega
    ·omega
   ·exact ih s h
  ·obtain ⟨i1, i2, i3, i4, i5⟩ := bnd_chain hE ih (sg (6 - j)) m (levS T m U j s).1 _ hf
   refine ⟨by omega, i2, fun hc => ?_, fun h0 => ?_, ?_⟩
   ·have := a3 hc
    rw [i3 (by rw [this.2.1]; exact hc)]
    exact this
   ·have x1 := i4 h0; have x2 := a4 x1.1; exact ⟨x2.1, by omega⟩
   ·by_cases hg : (levS T m U j s).2.c = 0
    ·have := a4 hg; omega
    ·rw [i3 hg]; exact a5
theorem bnd_eu (hE : Ends T) (n : Nat) : Bd T n (euS T n).1 ∧ Bd T n (euS T n).2 := by
 induction n with
 | zero => exact ⟨fun s h => by have := h.2.1; omega, fun s h => by have := h.2.1; omega⟩
 | succ n ih =>
  have hU := bnd_unary hE ih.2 (bnd_post hE ih.1)
  exact ⟨bnd_lev hE hU (n + 1) 6, hU⟩
end
end Go.Proofs.YtbknflaooemigaaGreat
