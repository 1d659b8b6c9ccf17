/-
  Rows of values by a function of the index, and a store of a value. Conditions: none.
-/
import Derived.Test.YtfeeikajekemlaaHp
namespace Go.Proofs.Ytfeeikajekemlaa
open Go.RowKit
set_option linter.unusedVariables false

theorem size0 : ({ data := #[] } : ByteArray).size = 0 := rfl
def flF (F : Nat → Vl) (j : Nat) : Value := (vlCells (F (j / 4))).getD (j % 4) (.bool false)
theorem flV_flF (l : List Vl) : flV l = flF (vl l) := rfl
theorem flF_at {w : World} {g n : Nat} {F : Nat → Vl} (h : w.rowIs g 35 (n * 4) (flF F)) {i : Nat} (hi : i < n) : AtV w g (i * 4) (F i) := by
  have key : ∀ r, r < 4 → w.cell? ⟨g, i * 4 + r, none⟩ = some ((vlCells (F i)).getD r (.bool false)) := fun r hr => by
    have := h.cell (i := i * 4 + r) (by omega)
    rw [this, flF, show (i * 4 + r) / 4 = i by omega, show (i * 4 + r) % 4 = r by omega]
  exact ⟨key 0 (by omega), key 1 (by omega), key 2 (by omega), key 3 (by omega)⟩
theorem flF_set {w : World} {g n : Nat} {F : Nat → Vl} (h : w.rowIs g 35 (n * 4) (flF F)) (i : Nat) (v : Vl) (G : Nat → Vl) (hG : ∀ x, x < n → G x = if x = i then v else F x) :
    ((((w.setCell ⟨g, i * 4, none⟩ (.int .u8 v.kind)).setCell ⟨g, i * 4 + 1, none⟩ (.int .i64 v.n)).setCell ⟨g, i * 4 + 2, none⟩ (.int .i64 v.re)).setCell ⟨g, i * 4 + 3, none⟩ (.int .i64 v.im)).rowIs g 35 (n * 4) (flF G) := by
  refine ((((h.set _ _).set _ _).set _ _).set _ _).congr fun j hj => ?_
  have hd : j / 4 < n := by omega
  unfold flF
  rw [hG _ hd]
  by_cases e : j / 4 = i
  · rw [if_pos e]
    have hr : j % 4 < 4 := Nat.mod_lt _ (by omega)
    have hj2 : j = i * 4 + j % 4 := by omega
    generalize j % 4 = r at *
    subst hj2
    match r, hr with
    | 0, _ => simp [vlCells]
    | 1, _ => simp [vlCells]
    | 2, _ => simp [vlCells]
    | 3, _ => simp [vlCells]
  · rw [if_neg e, if_neg (by omega), if_neg (by omega), if_neg (by omega), if_neg (by omega)]
theorem vl_rep (n i : Nat) (z : Vl) (h : i < n) : vl (List.replicate n z) i = z := by simp [vl, List.getD, h]
theorem vl_set (l : List Vl) (i j : Nat) (x : Vl) (h : j < l.length) : vl (l.set i x) j = if j = i then x else vl l j := by
  unfold vl
  rw [List.getD_eq_getElem?_getD, List.getD_eq_getElem?_getD, List.getElem?_set]
  by_cases e : i = j
  · subst e; simp [h]
  · rw [if_neg e, if_neg (fun z => e z.symm)]

end Go.Proofs.Ytfeeikajekemlaa
