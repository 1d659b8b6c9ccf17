/-
  A store into a row that a call owns. Conditions: as said.
-/
import Derived.Test.YtfeeikajekemlaaRo
import Derived.Deep.AppendLies
namespace Go.Proofs.Ytfeeikajekemlaa
open Go.RowKit
set_option linter.unusedVariables false
set_option linter.unusedSimpArgs false

theorem vl_set' (l : List Vl) (i j : Nat) (x : Vl) (h : j < l.length) : vl (l.set i x) j = if j = i then x else vl l j := by
  unfold vl
  rw [List.getD_eq_getElem?_getD, List.getD_eq_getElem?_getD, List.getElem?_set]
  by_cases e : i = j
  · subst e; simp [h]
  · rw [if_neg e, if_neg (fun z => e z.symm)]
theorem oc_set (l : List Oc) (i j : Nat) (x : Oc) (h : j < l.length) : oc (l.set i x) j = if j = i then x else oc l j := by
  unfold oc
  rw [List.getD_eq_getElem?_getD, List.getD_eq_getElem?_getD, List.getElem?_set]
  by_cases e : i = j
  · subst e; simp [h]
  · rw [if_neg e, if_neg (fun z => e z.symm)]

/-- A block of cells, none frozen. -/
theorem own_row {w : World} {B e s n g cap : Nat} {xs : List Value} (h : w.ownsRow B e s (.slice (some ⟨g, 0, none⟩) n cap) n xs) : ∃ M F, w.rowIs g e M F ∧ n * s ≤ M ∧ (∀ i, i < n * s → xs[i]? = some (F i)) := by
  rcases h.2 with ⟨h', _⟩ | ⟨g', cap', cur, h', hb, hg, hnc, hcm, hcs, htake⟩
  · simp at h'
  · simp at h'
    obtain ⟨rfl, rfl⟩ := h'
    have hle : n * s ≤ cap * s := Nat.mul_le_mul_right s hnc
    refine ⟨cap * s, fun i => cur.getD i undef, ⟨cur, hg, hcs, fun i hi => ?_⟩, hle, fun i hi => ?_⟩
    · have : i < cur.size := by omega
      simp [Array.getD, this]
    · have : i < cur.size := by omega
      rw [← htake, List.getElem?_take, if_pos hi]
      simp [Array.getD, this]

theorem set4 {w : World} {g e M : Nat} {F : Nat → Value} (h : w.rowIs g e M F) (k : Nat) (u0 u1 u2 u3 : Value) :
    ((((w.setCell ⟨g, k, none⟩ u0).setCell ⟨g, k + 1, none⟩ u1).setCell ⟨g, k + 2, none⟩ u2).setCell ⟨g, k + 3, none⟩ u3).rowIs g e M (fun q => if q = k then u0 else if q = k + 1 then u1 else if q = k + 2 then u2 else if q = k + 3 then u3 else F q) :=
  ((((h.set _ _).set _ _).set _ _).set _ _).congr fun q hq => by
    by_cases e0 : q = k
    · subst e0; simp
    · by_cases e1 : q = k + 1
      · subst e1; simp
      · by_cases e2 : q = k + 2
        · subst e2; simp
        · by_cases e3 : q = k + 3
          · subst e3; simp
          · simp [e0, e1, e2, e3]

theorem ownV_form {w : World} {B : Nat} {v : Value} {l : List Vl} (h : OwnV w B v l) (h0 : 0 < l.length) : ∃ g cap, v = .slice (some ⟨g, 0, none⟩) l.length cap ∧ B ≤ g ∧ g < w.heap.size ∧ (∀ q, w.frozen? ⟨g, q, none⟩ = false) ∧ ∀ j, j < l.length → AtV w g (j * 4) (vl l j) := by
  have h' : w.ownsRow B 35 4 v l.length (fV l) := h
  obtain ⟨g, cap, rfl, hb, hg⟩ := h'.form h0
  refine ⟨g, cap, rfl, hb, hg, fun q => h'.frozenAt q, fun j hj => ?_⟩
  have key : ∀ r, r < 4 → w.cell? ⟨g, j * 4 + r, none⟩ = (vlCells (vl l j))[r]? := fun r hr => by
    rw [← fV_get l j hj r hr]
    exact h'.cellAt (j * 4 + r) (by omega)
  exact ⟨key 0 (by omega), key 1 (by omega), key 2 (by omega), key 3 (by omega)⟩
theorem ownO_form {w : World} {B : Nat} {v : Value} {l : List Oc} (h : OwnO w B v l) (h0 : 0 < l.length) : ∃ g cap, v = .slice (some ⟨g, 0, none⟩) l.length cap ∧ B ≤ g ∧ g < w.heap.size ∧ (∀ q, w.frozen? ⟨g, q, none⟩ = false) ∧ ∀ j, j < l.length → AtO w g (j * 4) (oc l j) := by
  have h' : w.ownsRow B 45 4 v l.length (fO l) := h
  obtain ⟨g, cap, rfl, hb, hg⟩ := h'.form h0
  refine ⟨g, cap, rfl, hb, hg, fun q => h'.frozenAt q, fun j hj => ?_⟩
  have key : ∀ r, r < 4 → w.cell? ⟨g, j * 4 + r, none⟩ = (ocCells (oc l j))[r]? := fun r hr => by
    rw [← fO_get l j hj r hr]
    exact h'.cellAt (j * 4 + r) (by omega)
  exact ⟨key 0 (by omega), key 1 (by omega), key 2 (by omega), key 3 (by omega)⟩

theorem ownV_set {P : Nat → Prop} {w : World} {B g n cap : Nat} {l : List Vl} (h : OwnV w B (.slice (some ⟨g, 0, none⟩) n cap) l) (hn : l.length = n) (hP : P g) (j : Nat) (x : Vl) :
    RV P ((((w.setCell ⟨g, j * 4, none⟩ (.int .u8 x.kind)).setCell ⟨g, j * 4 + 1, none⟩ (.int .i64 x.n)).setCell ⟨g, j * 4 + 2, none⟩ (.int .i64 x.re)).setCell ⟨g, j * 4 + 3, none⟩ (.int .i64 x.im)) (some ⟨g, 0, none⟩) (l.set j x) := by
  subst hn
  have h' : w.ownsRow B 35 4 (.slice (some ⟨g, 0, none⟩) l.length cap) l.length (fV l) := h
  obtain ⟨M, F, hr, hM, hF⟩ := own_row h'
  have h4 := set4 hr (j * 4) (.int .u8 x.kind) (.int .i64 x.n) (.int .i64 x.re) (.int .i64 x.im)
  intro i hi
  rw [List.length_set] at hi
  refine ⟨g, 0, rfl, hP, ?_⟩
  rw [vl_set' _ _ _ _ hi, Nat.zero_add]
  have key := fun (r : Nat) (hr' : r < 4) => h4.cell (i := i * 4 + r) (by omega)
  have hfl : ∀ r, r < 4 → F (i * 4 + r) = (vlCells (vl l i)).getD r (.bool false) := fun r hr' => by
    have h1 := hF (i * 4 + r) (by omega)
    rw [fV_get l i hi r hr'] at h1
    rw [List.getD_eq_getElem?_getD, h1]; rfl
  by_cases e : i = j
  · subst e
    rw [if_pos rfl]
    refine ⟨?_, ?_, ?_, ?_⟩
    · exact (key 0 (by omega)).trans (by simp)
    · exact (key 1 (by omega)).trans (by simp)
    · exact (key 2 (by omega)).trans (by simp)
    · exact (key 3 (by omega)).trans (by simp)
  · rw [if_neg e]
    have hne : ∀ r, r < 4 → (if i * 4 + r = j * 4 then (.int .u8 x.kind : Value) else if i * 4 + r = j * 4 + 1 then .int .i64 x.n else if i * 4 + r = j * 4 + 2 then .int .i64 x.re else if i * 4 + r = j * 4 + 3 then .int .i64 x.im else F (i * 4 + r)) = (vlCells (vl l i)).getD r (.bool false) := fun r hr' => by
      rw [if_neg (by omega), if_neg (by omega), if_neg (by omega), if_neg (by omega), hfl r hr']
    refine ⟨?_, ?_, ?_, ?_⟩
    · exact (key 0 (by omega)).trans (by rw [hne 0 (by omega)]; rfl)
    · exact (key 1 (by omega)).trans (by rw [hne 1 (by omega)]; rfl)
    · exact (key 2 (by omega)).trans (by rw [hne 2 (by omega)]; rfl)
    · exact (key 3 (by omega)).trans (by rw [hne 3 (by omega)]; rfl)
theorem ownO_set {P : Nat → Prop} {w : World} {B g n cap : Nat} {l : List Oc} (h : OwnO w B (.slice (some ⟨g, 0, none⟩) n cap) l) (hn : l.length = n) (hP : P g) (j : Nat) (x : Oc) :
    RO P ((((w.setCell ⟨g, j * 4, none⟩ (.int .u8 x.kind)).setCell ⟨g, j * 4 + 1, none⟩ (.int .i64 x.of)).setCell ⟨g, j * 4 + 2, none⟩ (.string x.text)).setCell ⟨g, j * 4 + 3, none⟩ (.slice x.a x.n x.c)) (some ⟨g, 0, none⟩) (l.set j x) := by
  subst hn
  have h' : w.ownsRow B 45 4 (.slice (some ⟨g, 0, none⟩) l.length cap) l.length (fO l) := h
  obtain ⟨M, F, hr, hM, hF⟩ := own_row h'
  have h4 := set4 hr (j * 4) (.int .u8 x.kind) (.int .i64 x.of) (.string x.text) (.slice x.a x.n x.c)
  intro i hi
  rw [List.length_set] at hi
  refine ⟨g, 0, rfl, hP, ?_⟩
  rw [oc_set _ _ _ _ hi, Nat.zero_add]
  have key := fun (r : Nat) (hr' : r < 4) => h4.cell (i := i * 4 + r) (by omega)
  have hfl : ∀ r, r < 4 → F (i * 4 + r) = (ocCells (oc l i)).getD r (.bool false) := fun r hr' => by
    have h1 := hF (i * 4 + r) (by omega)
    rw [fO_get l i hi r hr'] at h1
    rw [List.getD_eq_getElem?_getD, h1]; rfl
  by_cases e : i = j
  · subst e
    rw [if_pos rfl]
    refine ⟨?_, ?_, ?_, ?_⟩
    · exact (key 0 (by omega)).trans (by simp)
    · exact (key 1 (by omega)).trans (by simp)
    · exact (key 2 (by omega)).trans (by simp)
    · exact (key 3 (by omega)).trans (by simp)
  · rw [if_neg e]
    have hne : ∀ r, r < 4 → (if i * 4 + r = j * 4 then (.int .u8 x.kind : Value) else if i * 4 + r = j * 4 + 1 then .int .i64 x.of else if i * 4 + r = j * 4 + 2 then .string x.text else if i * 4 + r = j * 4 + 3 then .slice x.a x.n x.c else F (i * 4 + r)) = (ocCells (oc l i)).getD r (.bool false) := fun r hr' => by
      rw [if_neg (by omega), if_neg (by omega), if_neg (by omega), if_neg (by omega), hfl r hr']
    refine ⟨?_, ?_, ?_, ?_⟩
    · exact (key 0 (by omega)).trans (by rw [hne 0 (by omega)]; rfl)
    · exact (key 1 (by omega)).trans (by rw [hne 1 (by omega)]; rfl)
    · exact (key 2 (by omega)).trans (by rw [hne 2 (by omega)]; rfl)
    · exact (key 3 (by omega)).trans (by rw [hne 3 (by omega)]; rfl)

end Go.Proofs.Ytfeeikajekemlaa
