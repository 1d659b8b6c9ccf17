/-
  The plain heap: what an object costs, what a value names, what is put. Conditions: as said.
-/
import Derived.Test.YtfeeikajekemlaaRo
namespace Go.Proofs.Ytfeeikajekemlaa
set_option linter.unusedVariables false

/-- Cells of an object beside its own. -/
def part (o : Ob) : Nat := (o.text.size + 7) / 8 + o.vals.length
def cost (o : Ob) : Nat := if o.kind = 3 then (o.text.size + 7) / 8 + 1 else o.vals.length + 1
def costs : List Ob → Nat
  | [] => 0
  | o :: l => cost o + costs l
theorem costs_app (l m : List Ob) : costs (l ++ m) = costs l + costs m := by
  induction l with
  | nil => simp [costs]
  | cons o l ih => simp [costs, ih]; omega
theorem cost_pos (o : Ob) : 1 ≤ cost o := by unfold cost; split <;> omega
theorem costs_len (l : List Ob) : l.length ≤ costs l := by
  induction l with
  | nil => simp [costs]
  | cons o l ih => have := cost_pos o; simp [costs]; omega

/-- May an object be? -/
def mayB (o : Ob) : Bool := if o.kind = 3 then decide (0 < o.text.size) && decide (o.vals = []) && decide (o.of = 0) else (decide (o.kind = 6) || decide (o.kind = 7)) && decide (o.text.size = 0) && decide (0 ≤ o.of)

structure M where
  cells : Nat
  L : List Ob
def m0 : M := ⟨0, []⟩
structure OkM (room : Nat) (m : M) : Prop where
  sum : m.cells = costs m.L
  fits : m.cells ≤ room
  may : ∀ o ∈ m.L, mayB o = true
theorem ok0 (room : Nat) : OkM room m0 := ⟨rfl, Nat.zero_le _, fun o h => by cases h⟩

def nameB (L : List Ob) (v : Vl) : Bool := decide (1 ≤ v.n) && decide (v.n ≤ L.length) && ((ob L (v.n - 1).toNat).kind == v.kind)
def at_ (v : Vl) : Nat := (v.n - 1).toNat

/-- With an object more. -/
def mkM (m : M) (o : Ob) : M := ⟨m.cells + cost o, m.L ++ [o]⟩
def mkV (m : M) (o : Ob) : Vl := ⟨o.kind, m.L.length + 1, 0, 0⟩
def addB (room : Nat) (m : M) (o : Ob) : Bool := decide (m.cells + cost o ≤ room)
theorem ok_mk {room : Nat} {m : M} {o : Ob} (h : OkM room m) (hf : addB room m o = true) (ho : mayB o = true) : OkM room (mkM m o) := by
  unfold addB at hf
  refine ⟨?_, (by simpa using hf : m.cells + cost o ≤ room), fun x hx => ?_⟩
  · show m.cells + cost o = _
    rw [mkM, costs_app, h.sum]; simp [costs]
  · rcases List.mem_append.1 hx with hx | hx
    · exact h.may x hx
    · obtain rfl : x = o := by simpa using hx
      exact ho

/-- What a value is as a text. -/
def txB (L : List Ob) (v : Vl) : Bool := decide (v.kind = 3) && (decide (v.n = 0) || nameB L v)
def txS (L : List Ob) (v : Vl) : ByteArray := if v.kind = 3 ∧ v.n ≠ 0 ∧ nameB L v = true then (ob L (at_ v)).text else { data := #[] }
/-- The object that a value means; the empty text is one, too. -/
def meansB (L : List Ob) (v : Vl) : Bool := (decide (v.kind = 3) && decide (v.n = 0)) || nameB L v
def meant (L : List Ob) (v : Vl) : Ob := if v.kind = 3 ∧ v.n = 0 then ⟨3, 0, { data := #[] }, []⟩ else if nameB L v = true then ob L (at_ v) else ob0

def putO (o : Ob) (i : Nat) (x : Vl) : Ob := ⟨o.kind, o.of, o.text, o.vals.set i x⟩
/-- The trap of a Put. -/
def putT (L : List Ob) (v : Vl) (i : Int) : Nat := if v.kind = 3 ∨ ¬ nameB L v = true then 3 else if i < 0 ∨ ((ob L (at_ v)).vals.length : Int) ≤ i then 2 else 0
def putM (m : M) (v : Vl) (i : Int) (x : Vl) : M := if putT m.L v i = 0 then ⟨m.cells, m.L.set (at_ v) (putO (ob m.L (at_ v)) i.toNat x)⟩ else m

theorem ob_mem {L : List Ob} {i : Nat} (h : i < L.length) : ob L i ∈ L := by
  unfold ob; rw [List.getD_eq_getElem?_getD, List.getElem?_eq_getElem h]; exact List.getElem_mem h
theorem name_parts {L : List Ob} {v : Vl} (h : nameB L v = true) : 1 ≤ v.n ∧ v.n ≤ L.length ∧ at_ v < L.length ∧ v.n - 1 = (at_ v : Int) ∧ (ob L (at_ v)).kind = v.kind := by
  unfold nameB at h
  simp only [Bool.and_eq_true, decide_eq_true_eq, beq_iff_eq] at h
  obtain ⟨⟨h1, h2⟩, h3⟩ := h
  unfold at_
  exact ⟨h1, h2, by omega, by omega, h3⟩
theorem cost_put (o : Ob) (i : Nat) (x : Vl) : cost (putO o i x) = cost o := by simp [cost, putO]
theorem costs_set (L : List Ob) : ∀ (i : Nat) (o : Ob), i < L.length → cost o = cost (ob L i) → costs (L.set i o) = costs L := by
  induction L with
  | nil => intro i o h; simp at h
  | cons a L ih =>
    intro i o h e
    cases i with
    | zero => simp [costs, ob] at e ⊢; exact e
    | succ i =>
      simp only [List.set_cons_succ, costs]
      rw [ih i o (by simpa using h) (by simpa [ob] using e)]
theorem may_put {o : Ob} {i : Nat} {x : Vl} (h : mayB o = true) (h3 : o.kind ≠ 3) : mayB (putO o i x) = true := by
  unfold mayB at *
  rw [if_neg (show ¬ (putO o i x).kind = 3 from h3)]
  rw [if_neg h3] at h
  exact h
theorem OkM.put {room : Nat} {m : M} (h : OkM room m) (v : Vl) (i : Int) (x : Vl) : OkM room (putM m v i x) := by
  unfold putM
  by_cases ht : putT m.L v i = 0
  · rw [if_pos ht]
    unfold putT at ht
    by_cases h1 : v.kind = 3 ∨ ¬ nameB m.L v = true
    · rw [if_pos h1] at ht; cases ht
    · have hn : nameB m.L v = true := Classical.byContradiction fun hc => h1 (.inr hc)
      have h3 : v.kind ≠ 3 := fun hc => h1 (.inl hc)
      obtain ⟨_, _, hlt, _, hk⟩ := name_parts hn
      have hm := h.may _ (ob_mem hlt)
      refine ⟨?_, h.fits, fun o ho => ?_⟩
      · show m.cells = _
        rw [costs_set _ _ _ hlt (cost_put _ _ _), h.sum]
      · rcases List.mem_or_eq_of_mem_set ho with ho | rfl
        · exact h.may o ho
        · exact may_put hm (by rw [hk]; exact h3)
  · rw [if_neg ht]; exact h
theorem part_cost {o : Ob} (h : mayB o = true) : cost o = part o + 1 := by
  unfold mayB at h
  unfold cost part
  by_cases h3 : o.kind = 3
  · rw [if_pos h3] at h ⊢
    simp at h
    rw [h.1.2]; simp
  · rw [if_neg h3] at h ⊢
    simp at h
    rw [h.1.2]; simp

end Go.Proofs.Ytfeeikajekemlaa
