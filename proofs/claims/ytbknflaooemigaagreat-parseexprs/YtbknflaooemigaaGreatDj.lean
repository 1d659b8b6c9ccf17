/-
 The document's reading makes at least one node; a call's arguments round by round. No function of the program is spoken of. Conditions: as said.
-/
import Derived.Test.YtbknflaooemigaaGreatDp
namespace Go.Proofs.YtbknflaooemigaaGreat
open Go.RowKit
set_option linter.unusedVariables false

def Pos (T : List Tok) (m : Nat) (f : S → Rs) : Prop := ∀ s, Fit T m s → 1 ≤ (f s).1.length
theorem pos_ite {p : Prop} [Decidable p] {a b : Rs} (h1 : p → 1 ≤ a.1.length) (h2 : ¬ p → 1 ≤ b.1.length) : 1 ≤ (if p then a else b).1.length := by
 split
 ·rename_i h; exact h1 h
 ·rename_i h; exact h2 h
theorem pos_nd {k : Nat} {t : Tok} {x : List UInt8} {m : Int} {l : List Nd} {s : S} : 1 ≤ ((ndS k t x m l, s) : Rs).1.length := by
 show 1 ≤ (ndS k t x m l).length
 rw [ndS_len]; omega
section
variable {T : List Tok} {n : Nat} {E : S → Rs}
theorem pos_atom (hE : Ends T) (hP : Pos T n E) : Pos T (n + 1) (atomS T E (n + 1)) := by
 intro s h
 unfold atomS
 refine pos_ite (fun _ => Nat.le_refl _) fun _ => ?_
 refine pos_ite (fun _ => pos_nd) fun _ => ?_
 refine pos_ite (fun _ => pos_nd) fun _ => ?_
 refine pos_ite (fun _ => pos_nd) fun _ => ?_
 refine pos_ite (fun _ => pos_nd) fun _ => ?_
 refine pos_ite (fun _ => pos_nd) fun _ => ?_
 refine pos_ite (fun _ => pos_nd) fun _ => ?_
 refine pos_ite (fun _ => pos_nd) fun _ => ?_
 refine pos_ite (fun _ => pos_nd) fun _ => ?_
 refine pos_ite (fun hx => hP _ (fit_opens hE h hx)) fun _ => ?_
 refine pos_ite (fun _ => pos_nd) fun _ => ?_
 exact pos_ite (fun _ => pos_nd) fun _ => Nat.le_refl _
theorem pos_postL (m : Nat) : ∀ (x : List Nd) (s : S), 1 ≤ x.length → 1 ≤ (postLS T E m x s).1.length := by
 induction m with
 | zero => intro x s h; exact h
 | succ m ih =>
  intro x s h
  unfold postLS
  refine pos_ite (fun _ => ih _ _ (by rw [ndS_len]; omega)) fun _ => ?_
  exact pos_ite (fun _ => ih _ _ (by rw [ndS_len]; omega)) fun _ => h
theorem pos_unary {U P : S → Rs} (hP : Pos T n P) : Pos T n (unaryS T U P) := by
 intro s h
 unfold unaryS
 refine pos_ite (fun _ => pos_nd) fun _ => ?_
 exact pos_ite (fun _ => pos_nd) fun _ => hP s h
theorem pos_chain (l : List (List UInt8)) (m : Nat) : ∀ (x : List Nd) (s : S), 1 ≤ x.length → 1 ≤ (chainS T E l m x s).1.length := by
 induction m with
 | zero => intro x s h; exact h
 | succ m ih =>
  intro x s h
  unfold chainS
  exact pos_ite (fun _ => ih _ _ pos_nd) fun _ => h
theorem pos_lev {u : S → Rs} (m : Nat) (hU : Pos T n u) (j : Nat) : Pos T n (levS T m u j) := by
 induction j with
 | zero => exact hU
 | succ j ih =>
  intro s h
  unfold levS
  refine pos_ite (fun _ => pos_ite (fun _ => pos_nd) fun _ => ih s h) fun _ => ?_
  exact pos_chain _ _ _ _ (ih s h)
theorem pos_eu (hE : Ends T) (n : Nat) : Pos T n (euS T n).1 ∧ Pos T n (euS T n).2 := by
 induction n with
 | zero => exact ⟨fun s h => absurd h.2.1 (by omega), fun s h => absurd h.2.1 (by omega)⟩
 | succ n ih =>
  have hU : Pos T (n + 1) (unaryS T (euS T n).2 (postS T (euS T n).1 (n + 1))) := pos_unary fun s h => pos_postL _ _ _ (pos_atom hE ih.1 s h)
  exact ⟨pos_lev _ hU 6, hU⟩

def AInv (T : List Tok) (N : Nat) (E : S → Rs) (R : Rs) (m j : Nat) (all : List Nd) (s : S) : Prop := argsL T E m j all s = R ∧ Fit T N s ∧ (s.c = 0 → T.length ≤ s.I + m) ∧ (s.c = 0 → all.length ≤ s.I ∧ j ≤ s.I) ∧ all.length ≤ s.I + 3 ∧ j ≤ s.I + 1
theorem ainv_round {N : Nat} {R : Rs} {m j : Nat} {all : List Nd} {s : S} (hE : Ends T) (hB : Bd T N E) (hP : Pos T N E) (h : AInv T N E R m j all s) (hc : s.c = 0) (hx : isS T s [41] = false) :
  ∃ m', m = m' + 1 ∧ AInv T N E R m' (j + 1) (all ++ (E (commaS T j s)).1) (E (commaS T j s)).2 ∧ ((E (commaS T j s)).2.c = 0 → s.I < (E (commaS T j s)).2.I) ∧ Fit T N (commaS T j s) ∧ (E (commaS T j s)).1.length ≤ T.length + 3 := by
 obtain ⟨h1, h2, h3, h4, h5, h6⟩ := h
 have y1 := h3 hc
 have y2 := h2.1
 have y3 := h4 hc
 obtain ⟨m, rfl⟩ : ∃ m', m = m' + 1 := ⟨m - 1, by omega⟩
 obtain ⟨c1, c2, c3, c4⟩ := comma_f hE h2.1 j
 have hf : Fit T N (commaS T j s) := fit_up h2 c1 c2 c4
 obtain ⟨e1, e2, e3, e4, e5⟩ := hB _ hf
 have e6 := hP _ hf
 have hp : (E (commaS T j s)).2.c = 0 → s.I < (E (commaS T j s)).2.I := fun h0 => by have := (e4 h0).2; omega
 refine ⟨m, rfl, ⟨?_, fit_up h2 e2 (by omega) (fun h0 => hc), fun h0 => by have := hp h0; omega, fun h0 => ?_, ?_, by omega⟩, hp, hf, by omega⟩
 ·rw [← h1]; conv => rhs; unfold argsL; rw [if_pos ⟨hc, hx⟩]
 ·have := hp h0; have := (e4 h0).2; rw [List.length_append]; omega
 ·rw [List.length_append]; omega
theorem ainv_end {N : Nat} {R : Rs} {m j : Nat} {all : List Nd} {s : S} (h : AInv T N E R m j all s) (hx : ¬ (s.c = 0 ∧ isS T s [41] = false)) : (all, s) = R := by
 rw [← h.1]
 cases m with
 | zero => rfl
 | succ m => conv => rhs; unfold argsL; rw [if_neg hx]
end

theorem own_oth {w w' : World} {B b : Nat} {v : Value} {l : List Nd} (h : OwnN w B v l) (ho : Oth b w w') (hb : b < B) : OwnN w' B v l := by
 obtain ⟨h1, h2⟩ := h
 refine ⟨h1, ?_⟩
 rcases h2 with h2 | ⟨g, cap, cur, hv, hg, hh, r⟩
 ·exact Or.inl h2
 ·exact Or.inr ⟨g, cap, cur, hv, hg, by rw [ho.block g (by omega)]; exact hh, r⟩
theorem OwnN.carry {w w' : World} {B : Nat} {v : Value} {l : List Nd} (h : OwnN w B v l) (hb : Below w.heap.size w w') : OwnN w' B v l := ownN_carry h hb
theorem OwnN.oth {w w' : World} {B b : Nat} {v : Value} {l : List Nd} (h : OwnN w B v l) (ho : Oth b w w') (hb : b < B) : OwnN w' B v l := own_oth h ho hb
theorem bx_grown {w w' : World} {v : Value} {l : List Nd} {B b : Nat} {sl : Value} {I d c l' k : Int} (h : Bx w b sl I d c l' k) (hg : w.grownBy w' v.ownBlock) (ho : OwnN w B v l) (hB : b < B) : Bx w' b sl I d c l' k := by
 have hk := hg.block b h.lt (fun e => by have := (World.ownsRow.lt ho b e.symm).1; omega)
 exact ⟨(World.cell?_of_block hk).trans h.c0, (World.cell?_of_block hk).trans h.c1, (World.cell?_of_block hk).trans h.c2, (World.cell?_of_block hk).trans h.c3, (World.cell?_of_block hk).trans h.c4, (World.cell?_of_block hk).trans h.c5, fun o => by have := h.fz o; unfold World.frozen? at this ⊢; rw [hk]; exact this⟩
end Go.Proofs.YtbknflaooemigaaGreat
