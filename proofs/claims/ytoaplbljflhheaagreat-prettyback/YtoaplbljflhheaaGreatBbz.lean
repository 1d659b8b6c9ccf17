/-
 Contracts and plain facts on the way to PrettyBack. Conditions: as each says.
-/
import Derived.Test.YtoaplbljflhheaaGreatBby
set_option maxHeartbeats 40000000
set_option maxRecDepth 100000
set_option linter.unusedVariables false
set_option linter.unusedSimpArgs false
namespace Go.Proofs.YtoaplbljflhheaaGreat
open _root_.Go.Proofs.Tryz
section
open Go.RowKit Go.Sort
theorem Ud {l : List Nd} (h : Right (sz l) l.length) : (Dh (Ie l)).map (·.1) = l.map Gf := by
 obtain ⟨h1, h2, h3⟩ := a5j h.ok l.length 0 l.length (Nat.zero_le _) (Nat.le_refl _) (by omega) (Pd h);refine List.ext_getElem? fun j => ?_
 rw [List.getElem?_map, List.getElem?_map];by_cases hj : j < l.length
 ·obtain ⟨f', _, h5⟩ := h3 j (by omega);rw [Nat.zero_add] at h5;rw [Ie, h5, List.getElem?_eq_getElem hj];simp [nd, List.getD_eq_getElem?_getD, List.getElem?_eq_getElem hj]
 ·rw [List.getElem?_eq_none (by rw [Bd, Ie, h1]; omega), List.getElem?_eq_none (by omega)];rfl
theorem Yq {l : List Nd} (h : Right (sz l) l.length) : a31 (Ie l) = 4 * (l.map fun x => x.text.size).sum + 68 * l.length := by
 have e : (Dh (Ie l)).map (fun x => 4 * x.1.text.length + 68) = (l.map Gf).map fun i => 4 * i.text.length + 68 := by
  rw [<- Ud h, List.map_map];rfl
 rw [a31, e, List.map_map];clear e h
 induction l with
 | nil => rfl
 | cons x r ih =>
  simp only [List.map_cons, List.sum_cons, List.length_cons, Function.comp] at ih ⊢;rw [ih];have : (Gf x).text.length = x.text.size := Array.length_toList;rw [this];omega
theorem O8 {l : List Nd} (h : Right (sz l) l.length) (hwf : ∀ i, i < l.length -> (nd l i).wf) : Nu (Ie l) := fun x hx => by
 have : x.1 ∈ l.map Gf := by rw [<- Ud h]; exact List.mem_map_of_mem hx
 obtain ⟨y, hy, e⟩ := List.mem_map.1 this;obtain ⟨j, hj, e2⟩ := List.getElem_of_mem hy;have := (hwf j hj).num.2;rw [<- e, <- e2];simpa [Gf, nd, List.getD_eq_getElem?_getD, List.getElem?_eq_getElem hj] using this
theorem a2h {l : List Nd} {i : Nat} (hi : i < l.length) : (nd l i).text.size <= (l.map fun x => x.text.size).sum := by
 have : ∀ (m : List Nd) (x : Nd), x ∈ m -> x.text.size <= (m.map fun x => x.text.size).sum := fun m x hx => by
  induction m with
  | nil => cases hx
  | cons y r ih =>
   rw [List.map_cons, List.sum_cons];rcases List.mem_cons.1 hx with rfl | hx
   ·omega
   ·have := ih hx; omega
 refine this l _ ?_;simp [nd, List.getD_eq_getElem?_getD, List.getElem?_eq_getElem hi]
noncomputable def Di (l : List Nd) : List UInt8 := (txt (Ie l) 0 0).2
theorem Ur {l : List Nd} (h : Right (sz l) l.length) (hwf : ∀ i, i < l.length -> (nd l i).wf) (hn : l.length <= 4000) (hb : (l.map fun x => x.text.size).sum <= 100000) : (Di l).length + l.length <= 100000000 := by
 obtain ⟨hc, _⟩ := Gu h;have h1 := b25 (F := Ie l) (by rw [hc]; exact h.pos) (O8 h hwf);rw [Yq h, hc] at h1;have h2 : l.length * (3 * l.length) <= 4000 * (3 * 4000) := Nat.mul_le_mul hn (by omega);unfold Di;omega
theorem Wy {w : World} {a : Option Addr} {n cap : Nat} {l : List Nd} (hlen : l.length = n) (hn : n <= 4000) (hrow : Row w a l) (hlow : a6z w a) (hb : (l.map fun x => x.text.size).sum <= 100000) {p : Bool} (hm : Rq l = p) :
  Calls prog 10 #[.slice a n cap] w fun e w' => e = .returned (if p then .tuple #[.string (bs (Di l)), .int .i64 0] else .tuple #[.string (bs []), .int .i64 1]) ∧ Below w.heap.size w w' := by
 cases p with
 | false => exact a0t hlen (by omega) hrow hm
 | true =>
  have hm2 := hm;unfold Rq at hm2;rw [Bool.and_eq_true, Bool.and_eq_true, decide_eq_true_eq] at hm2;have hR := Kt.1 hm2.1.1;have h1 : (nd l 0).kind = 1 := hm2.1.2
  have hwf : ∀ i, i < l.length -> (nd l i).wf := fun i hi => by
   obtain ⟨_, _, _, _, h⟩ := hrow i hi;exact h
  obtain ⟨hc, hall⟩ := Gu hR;have hp := hR.pos;subst hlen;have hL := Ur hR hwf hn hb;refine Wx (F := Ie l) (S := Di l) (fun mb => b5e hm hwf (fun i hi => Nat.le_trans (a2h hi) hb) a cap mb) hrow rfl (by omega) (by omega) hlow (by omega) ?_ rfl (by rw [hc]; exact hL) hm;rw [(hall 0 hp).1];show (nd l 0).kind ≠ 14;omega
end
end Go.Proofs.YtoaplbljflhheaaGreat
