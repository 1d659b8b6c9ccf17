/-
 Contracts and plain facts on the way to PrettyWrites. Conditions: as each says.
-/
import Derived.Test.YtoaplbljflhheaaGreatWbx
set_option maxHeartbeats 40000000
set_option maxRecDepth 100000
set_option linter.unusedVariables false
set_option linter.unusedSimpArgs false
namespace Go.Proofs.YtoaplbljflhheaaGreat
open Go.RowKit Go.Sort
theorem Oq {l : List Nd} (h : Right (sz l) l.length) : (Fl (Ey l)).map (·.1) = l.map Da := by
 obtain ⟨h1, h2, h3⟩ := Zt h.ok l.length 0 l.length (Nat.zero_le _) (Nat.le_refl _) (by omega) (Kk h)
 refine List.ext_getElem? fun j => ?_
 rw [List.getElem?_map, List.getElem?_map]
 by_cases hj : j < l.length
 ·obtain ⟨f', _, h5⟩ := h3 j (by omega)
  rw [Nat.zero_add] at h5
  rw [Ey, h5, List.getElem?_eq_getElem hj]
  simp [nd, List.getD_eq_getElem?_getD, List.getElem?_eq_getElem hj]
 ·rw [List.getElem?_eq_none (by rw [Bs, Ey, h1]; omega), List.getElem?_eq_none (by omega)]
  rfl
theorem Sj {l : List Nd} (h : Right (sz l) l.length) : Yp (Ey l) = 4 * (l.map fun x => x.text.size).sum + 68 * l.length := by
 have e : (Fl (Ey l)).map (fun x => 4 * x.1.text.length + 68) = (l.map Da).map fun i => 4 * i.text.length + 68 := by
  rw [← Oq h, List.map_map]
  rfl
 rw [Yp, e, List.map_map]
 clear e h
 induction l with
 | nil => rfl
 | cons x r ih =>
  simp only [List.map_cons, List.sum_cons, List.length_cons, Function.comp] at ih ⊢
  rw [ih]
  have : (Da x).text.length = x.text.size := Array.length_toList
  rw [this]
  omega
theorem Ot {l : List Nd} (h : Right (sz l) l.length) (hwf : ∀ i, i < l.length → (nd l i).wf) : Pb (Ey l) := fun x hx => by
 have : x.1 ∈ l.map Da := by rw [← Oq h]; exact List.mem_map_of_mem hx
 obtain ⟨y, hy, e⟩ := List.mem_map.1 this
 obtain ⟨j, hj, e2⟩ := List.getElem_of_mem hy
 have := (hwf j hj).num.2
 rw [← e, ← e2]
 simpa [Da, nd, List.getD_eq_getElem?_getD, List.getElem?_eq_getElem hj] using this
theorem Wv {l : List Nd} {i : Nat} (hi : i < l.length) : (nd l i).text.size ≤ (l.map fun x => x.text.size).sum := by
 have : ∀ (m : List Nd) (x : Nd), x ∈ m → x.text.size ≤ (m.map fun x => x.text.size).sum := fun m x hx => by
  induction m with
  | nil => cases hx
  | cons y r ih =>
   rw [List.map_cons, List.sum_cons]
   rcases List.mem_cons.1 hx with rfl | hx
   ·omega
   ·have := ih hx; omega
 refine this l _ ?_
 simp [nd, List.getD_eq_getElem?_getD, List.getElem?_eq_getElem hi]
noncomputable def Ec (l : List Nd) : List UInt8 := (txt (Ey l) 0 0).2
theorem O7 {l : List Nd} (h : Right (sz l) l.length) (hwf : ∀ i, i < l.length → (nd l i).wf) (hn : l.length ≤ 4000) (hb : (l.map fun x => x.text.size).sum ≤ 100000) : (Ec l).length + l.length ≤ 100000000 := by
 obtain ⟨hc, _⟩ := Fm h
 have h1 := a5x (F := Ey l) (by rw [hc]; exact h.pos) (Ot h hwf)
 rw [Sj h, hc] at h1
 have h2 : l.length * (3 * l.length) ≤ 4000 * (3 * 4000) := Nat.mul_le_mul hn (by omega)
 unfold Ec
 omega
theorem Q5 {w : World} {a : Option Addr} {n cap : Nat} {l : List Nd} (hlen : l.length = n) (hn : n ≤ 4000) (hrow : Row w a l) (hlow : a0r w a) (hb : (l.map fun x => x.text.size).sum ≤ 100000) {p : Bool} (hm : N1 l = p) :
  Calls Tryz.prog 10 #[.slice a n cap] w fun e w' => e = .returned (if p then .tuple #[.string (bs (Ec l)), .int .i64 0] else .tuple #[.string (bs []), .int .i64 1]) ∧ Below w.heap.size w w' := by
 cases p with
 | false => exact L7 hlen (by omega) hrow hm
 | true =>
  have hm2 := hm
  unfold N1 at hm2
  rw [Bool.and_eq_true, Bool.and_eq_true, decide_eq_true_eq] at hm2
  have hR := Hd.1 hm2.1.1
  have h1 : (nd l 0).kind = 1 := hm2.1.2
  have hwf : ∀ i, i < l.length → (nd l i).wf := fun i hi => by
   obtain ⟨_, _, _, _, h⟩ := hrow i hi
   exact h
  obtain ⟨hc, hall⟩ := Fm hR
  have hp := hR.pos
  subst hlen
  have hL := O7 hR hwf hn hb
  refine Q4 (F := Ey l) (S := Ec l) (fun mb => a7u hm hwf (fun i hi => Nat.le_trans (Wv hi) hb) a cap mb) hrow rfl (by omega) (by omega) hlow (by omega) ?_ rfl (by rw [hc]; exact hL) hm
  rw [(hall 0 hp).1]
  show (nd l 0).kind ≠ 14
  omega
end Go.Proofs.YtoaplbljflhheaaGreat
