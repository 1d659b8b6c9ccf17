/-
 Contracts and plain facts on the way to PrettyTerms. Conditions: as each says.
-/
import Derived.Test.YtoaplbljflhheaaGreatTbx
set_option maxHeartbeats 40000000
set_option maxRecDepth 100000
set_option linter.unusedVariables false
set_option linter.unusedSimpArgs false
namespace Go.Proofs.YtoaplbljflhheaaGreat
open Go.RowKit Go.Sort
theorem Pl {l : List Nd} (h : Right (sz l) l.length) : (Cx (Na l)).map (·.1) = l.map Ko := by
 obtain ⟨h1, h2, h3⟩ := a0j h.ok l.length 0 l.length (Nat.zero_le _) (Nat.le_refl _) (by omega) (Lw h)
 refine List.ext_getElem? fun j => ?_
 rw [List.getElem?_map, List.getElem?_map]
 by_cases hj : j < l.length
 ·obtain ⟨f', _, h5⟩ := h3 j (by omega)
  rw [Nat.zero_add] at h5
  rw [Na, h5, List.getElem?_eq_getElem hj]
  simp [nd, List.getD_eq_getElem?_getD, List.getElem?_eq_getElem hj]
 ·rw [List.getElem?_eq_none (by rw [Ba, Na, h1]; omega), List.getElem?_eq_none (by omega)]
  rfl
theorem a2v {l : List Nd} (h : Right (sz l) l.length) : a6c (Na l) = 4 * (l.map fun x => x.text.size).sum + 68 * l.length := by
 have e : (Cx (Na l)).map (fun x => 4 * x.1.text.length + 68) = (l.map Ko).map fun i => 4 * i.text.length + 68 := by
  rw [← Pl h, List.map_map]
  rfl
 rw [a6c, e, List.map_map]
 clear e h
 induction l with
 | nil => rfl
 | cons x r ih =>
  simp only [List.map_cons, List.sum_cons, List.length_cons, Function.comp] at ih ⊢
  rw [ih]
  have : (Ko x).text.length = x.text.size := Array.length_toList
  rw [this]
  omega
theorem Ye {l : List Nd} (h : Right (sz l) l.length) (hwf : ∀ i, i < l.length → (nd l i).wf) : Kd (Na l) := fun x hx => by
 have : x.1 ∈ l.map Ko := by rw [← Pl h]; exact List.mem_map_of_mem hx
 obtain ⟨y, hy, e⟩ := List.mem_map.1 this
 obtain ⟨j, hj, e2⟩ := List.getElem_of_mem hy
 have := (hwf j hj).num.2
 rw [← e, ← e2]
 simpa [Ko, nd, List.getD_eq_getElem?_getD, List.getElem?_eq_getElem hj] using this
theorem b1s {l : List Nd} {i : Nat} (hi : i < l.length) : (nd l i).text.size ≤ (l.map fun x => x.text.size).sum := by
 have : ∀ (m : List Nd) (x : Nd), x ∈ m → x.text.size ≤ (m.map fun x => x.text.size).sum := fun m x hx => by
  induction m with
  | nil => cases hx
  | cons y r ih =>
   rw [List.map_cons, List.sum_cons]
   rcases List.mem_cons.1 hx with rfl | hx
   ·omega
   ·have := ih hx; omega
 refine this l _ ?_
 simp [nd, List.getD_eq_getElem?_getD, List.getElem?_eq_getElem hi]
noncomputable def D9 (l : List Nd) : List UInt8 := (txt (Na l) 0 0).2
theorem Yw {l : List Nd} (h : Right (sz l) l.length) (hwf : ∀ i, i < l.length → (nd l i).wf) (hn : l.length ≤ 4000) (hb : (l.map fun x => x.text.size).sum ≤ 100000) : (D9 l).length + l.length ≤ 100000000 := by
 obtain ⟨hc, _⟩ := N4 h
 have h1 := a7f (F := Na l) (by rw [hc]; exact h.pos) (Ye h hwf)
 rw [a2v h, hc] at h1
 have h2 : l.length * (3 * l.length) ≤ 4000 * (3 * 4000) := Nat.mul_le_mul hn (by omega)
 unfold D9
 omega
end Go.Proofs.YtoaplbljflhheaaGreat
