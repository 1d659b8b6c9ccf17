/-
 Contracts and plain facts on the way to PrettyExprs. Conditions: as each says.
-/
import Derived.Test.YtoaplbljflhheaaGreatKbx
set_option maxHeartbeats 40000000
set_option maxRecDepth 100000
set_option linter.unusedVariables false
set_option linter.unusedSimpArgs false
namespace Go.Proofs.YtoaplbljflhheaaGreat
open Go.RowKit Go.Sort
theorem On {l : List Nd} (h : Right (sz l) l.length) : (Fi (Hd l)).map (·.1) = l.map Cp := by
 obtain ⟨h1, h2, h3⟩ := Zg h.ok l.length 0 l.length (Nat.zero_le _) (Nat.le_refl _) (by omega) (Kn h)
 refine List.ext_getElem? fun j => ?_
 rw [List.getElem?_map, List.getElem?_map]
 by_cases hj : j < l.length
 ·obtain ⟨f', _, h5⟩ := h3 j (by omega)
  rw [Nat.zero_add] at h5
  rw [Hd, h5, List.getElem?_eq_getElem hj]
  simp [nd, List.getD_eq_getElem?_getD, List.getElem?_eq_getElem hj]
 ·rw [List.getElem?_eq_none (by rw [Br, Hd, h1]; omega), List.getElem?_eq_none (by omega)]
  rfl
theorem R6 {l : List Nd} (h : Right (sz l) l.length) : Ya (Hd l) = 4 * (l.map fun x => x.text.size).sum + 68 * l.length := by
 have e : (Fi (Hd l)).map (fun x => 4 * x.1.text.length + 68) = (l.map Cp).map fun i => 4 * i.text.length + 68 := by
  rw [← On h, List.map_map]
  rfl
 rw [Ya, e, List.map_map]
 clear e h
 induction l with
 | nil => rfl
 | cons x r ih =>
  simp only [List.map_cons, List.sum_cons, List.length_cons, Function.comp] at ih ⊢
  rw [ih]
  have : (Cp x).text.length = x.text.size := Array.length_toList
  rw [this]
  omega
theorem Oo {l : List Nd} (h : Right (sz l) l.length) (hwf : ∀ i, i < l.length → (nd l i).wf) : Pa (Hd l) := fun x hx => by
 have : x.1 ∈ l.map Cp := by rw [← On h]; exact List.mem_map_of_mem hx
 obtain ⟨y, hy, e⟩ := List.mem_map.1 this
 obtain ⟨j, hj, e2⟩ := List.getElem_of_mem hy
 have := (hwf j hj).num.2
 rw [← e, ← e2]
 simpa [Cp, nd, List.getD_eq_getElem?_getD, List.getElem?_eq_getElem hj] using this
theorem a4k {l : List Nd} {i : Nat} (hi : i < l.length) : (nd l i).text.size ≤ (l.map fun x => x.text.size).sum := by
 have : ∀ (m : List Nd) (x : Nd), x ∈ m → x.text.size ≤ (m.map fun x => x.text.size).sum := fun m x hx => by
  induction m with
  | nil => cases hx
  | cons y r ih =>
   rw [List.map_cons, List.sum_cons]
   rcases List.mem_cons.1 hx with rfl | hx
   ·omega
   ·have := ih hx; omega
 refine this l _ ?_
 simp [nd, List.getD_eq_getElem?_getD, List.getElem?_eq_getElem hi]
noncomputable def Cz (l : List Nd) : List UInt8 := (txt (Hd l) 0 0).2
theorem X1 {l : List Nd} (h : Right (sz l) l.length) (hwf : ∀ i, i < l.length → (nd l i).wf) (hn : l.length ≤ 4000) (hb : (l.map fun x => x.text.size).sum ≤ 100000) : (Cz l).length + l.length ≤ 100000000 := by
 obtain ⟨hc, _⟩ := Hc h
 have h1 := a5o (F := Hd l) (by rw [hc]; exact h.pos) (Oo h hwf)
 rw [R6 h, hc] at h1
 have h2 : l.length * (3 * l.length) ≤ 4000 * (3 * 4000) := Nat.mul_le_mul hn (by omega)
 unfold Cz
 omega
end Go.Proofs.YtoaplbljflhheaaGreat
