/-
  Nodes behind their children put ahead of them, over lists: from the last one on, with where the nodes that the next one belongs to begin. No function of the program is spoken of. Conditions: as said.
-/
import Derived.Test.YtbknflaooemigaaPm
namespace Go.Proofs.Ytbknflaooemigaa
set_option linter.unusedVariables false

def popB (k : Nat) : List Nat → List Nat
  | [] => []
  | x :: l => if k < x then popB k l else x :: l
def szN (l : List Nd) (k : Nat) : Nat := (nd l k).size.toNat
def updN (row : Nat → Nd) (p : Nat) (t : Nd) : Nat → Nd := fun x => if x = p then t else row x
def placeN (row : Nat → Nd) (p : Nat) (l : List Nd) : Nat → Nd := fun x => if p ≤ x ∧ x < p + l.length then nd l (x - p) else row x
def aheadG (l : List Nd) : Nat → List Nat → (Nat → Nd) → (Nat → Nd)
  | 0, _, row => row
  | k + 1, st, row => aheadG l k ((k - szN l k) :: popB k st) (updN row (k - szN l k + (popB k st).length) (nd l k))
def okG (l : List Nd) (n : Nat) : Nat → List Nat → Prop
  | 0, _ => True
  | k + 1, st => (nd l k).size = (szN l k : Nat) ∧ szN l k ≤ k ∧ k - szN l k + (popB k st).length < n ∧ okG l n k ((k - szN l k) :: popB k st)

theorem pop_junk {k : Nat} {junk st : List Nat} (hj : ∀ x ∈ junk, k < x) (hs : ∀ x ∈ st, x ≤ k) : popB k (junk ++ st) = st := by
  induction junk with
  | nil =>
    cases st with
    | nil => rfl
    | cons x l =>
      have := hs x (by simp)
      rw [List.nil_append, popB, if_neg (by omega)]
  | cons x l ih =>
    rw [List.cons_append, popB, if_pos (hj x (by simp))]
    exact ih fun y hy => hj y (by simp [hy])

theorem nd_app_left {a b : List Nd} {i : Nat} (h : i < a.length) : nd (a ++ b) i = nd a i := by
  unfold nd
  rw [List.getD_eq_getElem?_getD, List.getD_eq_getElem?_getD, List.getElem?_append_left h]
theorem nd_app_right {a b : List Nd} {i : Nat} : nd (a ++ b) (a.length + i) = nd b i := by
  unfold nd
  rw [List.getD_eq_getElem?_getD, List.getD_eq_getElem?_getD, List.getElem?_append_right (by omega), show a.length + i - a.length = i by omega]

theorem place_nil (row : Nat → Nd) (p : Nat) : placeN row p [] = row := by
  funext x
  unfold placeN
  rw [if_neg (by intro h; simp at h; omega)]

theorem place_cons (row : Nat → Nd) (p : Nat) (t : Nd) (a b : List Nd) : placeN (updN (placeN row (p + a.length + 1) b) p t) (p + 1) a = placeN row p (t :: (a ++ b)) := by
  funext x
  unfold placeN updN
  by_cases h1 : p + 1 ≤ x ∧ x < p + 1 + a.length
  · rw [if_pos h1, if_pos (by simp; omega), show x - p = (x - (p + 1)) + 1 by omega]
    unfold nd
    rw [List.getD_eq_getElem?_getD, List.getD_eq_getElem?_getD, List.getElem?_cons_succ, List.getElem?_append_left (by omega)]
  · rw [if_neg h1]
    by_cases h2 : x = p
    · rw [if_pos h2, if_pos (by simp; omega), h2, Nat.sub_self]; rfl
    · rw [if_neg h2]
      simp only
      by_cases h3 : p + a.length + 1 ≤ x ∧ x < p + a.length + 1 + b.length
      · rw [if_pos h3, if_pos (by simp; omega), show x - p = (a.length + (x - (p + a.length + 1))) + 1 by omega]
        unfold nd
        rw [List.getD_eq_getElem?_getD, List.getD_eq_getElem?_getD, List.getElem?_cons_succ, List.getElem?_append_right (by omega), show a.length + (x - (p + a.length + 1)) - a.length = x - (p + a.length + 1) by omega]
      · rw [if_neg h3, if_neg (by simp; omega)]

theorem ahead_forest (l : List Nd) (n : Nat) (F : Fo) : ∀ (o : Nat) (st junk : List Nat), (∀ i, i < F.cnt → nd l (o + i) = nd F.post i) → (∀ x ∈ st, x ≤ o) → (∀ x ∈ junk, o + F.cnt ≤ x) → o + F.cnt + st.length ≤ n →
    ∃ junk' : List Nat, (∀ x ∈ junk', o ≤ x) ∧ (∀ row, aheadG l (o + F.cnt) (junk ++ st) row = aheadG l o (junk' ++ st) (placeN row (o + st.length) F.pre)) ∧ (okG l n o (junk' ++ st) → okG l n (o + F.cnt) (junk ++ st)) := by
  induction F with
  | nil => exact fun o st junk _ _ hj _ => ⟨junk, hj, fun row => by rw [Fo.pre, place_nil]; rfl, id⟩
  | cons i k r ihk ihr =>
    intro o st junk hl hs hj hn
    have hc : (Fo.cons i k r).cnt = k.cnt + 1 + r.cnt := rfl
    rw [hc] at hl hj hn ⊢
    have hpk := post_len k
    have lk : ∀ x, x < k.cnt → nd l (o + x) = nd k.post x := fun x hx => by
      rw [hl x (by omega), Fo.post, nd_app_left (by omega)]
    have lm : nd l (o + k.cnt) = i.nd k.cnt := by
      rw [hl k.cnt (by omega), Fo.post, ← hpk]
      exact nd_app_right (i := 0)
    have lr : ∀ x, x < r.cnt → nd l (o + k.cnt + 1 + x) = nd r.post x := fun x hx => by
      rw [show o + k.cnt + 1 + x = o + (k.cnt + (1 + x)) by omega, hl _ (by omega), Fo.post, ← hpk, nd_app_right, show 1 + x = x + 1 by omega]
      rfl
    obtain ⟨j1, h1, h2, h3⟩ := ihr (o + k.cnt + 1) st junk lr (fun x hx => by have := hs x hx; omega) (fun x hx => by have := hj x hx; omega) (by omega)
    obtain ⟨j2, h4, h5, h6⟩ := ihk o (o :: st) [] lk (fun x hx => by
      rcases List.mem_cons.1 hx with rfl | hx
      · exact Nat.le_refl _
      · exact hs x hx) (fun x hx => by cases hx) (by simp; omega)
    have hp : popB (o + k.cnt) (j1 ++ st) = st := pop_junk (fun x hx => by have := h1 x hx; omega) (fun x hx => by have := hs x hx; omega)
    have hz : szN l (o + k.cnt) = k.cnt := by unfold szN; rw [lm]; simp [Inf.nd]
    refine ⟨j2 ++ [o], fun x hx => ?_, fun row => ?_, fun hok => ?_⟩
    · rcases List.mem_append.1 hx with hx | hx
      · exact h4 x hx
      · simp at hx; omega
    · rw [show o + (k.cnt + 1 + r.cnt) = o + k.cnt + 1 + r.cnt by omega, h2]
      show aheadG l (o + k.cnt) ((o + k.cnt - szN l (o + k.cnt)) :: popB (o + k.cnt) (j1 ++ st)) (updN _ (o + k.cnt - szN l (o + k.cnt) + (popB (o + k.cnt) (j1 ++ st)).length) (nd l (o + k.cnt))) = _
      rw [hp, hz, lm, show o + k.cnt - k.cnt = o by omega]
      have := h5 (updN (placeN row (o + k.cnt + 1 + st.length) r.pre) (o + st.length) (i.nd k.cnt))
      rw [List.nil_append] at this
      rw [this, List.append_assoc]
      have hq := place_cons row (o + st.length) (i.nd k.cnt) k.pre r.pre
      rw [pre_len] at hq
      rw [show o + (o :: st).length = o + st.length + 1 by simp; omega, show o + k.cnt + 1 + st.length = o + st.length + k.cnt + 1 by omega, hq]
      rfl
    · rw [show o + (k.cnt + 1 + r.cnt) = o + k.cnt + 1 + r.cnt by omega]
      refine h3 ⟨by rw [hz, lm]; rfl, by rw [hz]; omega, by rw [hp, hz]; omega, ?_⟩
      rw [hp, hz, show o + k.cnt - k.cnt = o by omega]
      have := h6 (by rw [List.append_assoc] at hok; exact hok)
      rw [List.nil_append] at this
      exact this

theorem ahead_all (F : Fo) (row : Nat → Nd) : aheadG F.post F.cnt [] row = placeN row 0 F.pre ∧ okG F.post F.cnt F.cnt [] := by
  obtain ⟨j, h1, h2, h3⟩ := ahead_forest F.post F.cnt F 0 [] [] (fun i hi => by rw [Nat.zero_add]) (fun x hx => by cases hx) (fun x hx => by cases hx) (by simp)
  simp only [Nat.zero_add, List.append_nil, List.length_nil] at h2 h3
  exact ⟨h2 row, h3 trivial⟩

end Go.Proofs.Ytbknflaooemigaa
