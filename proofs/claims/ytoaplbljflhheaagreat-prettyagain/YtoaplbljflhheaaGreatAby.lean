/-
 Contracts and plain facts on the way to PrettyAgain. Conditions: as each says.
-/
import Derived.Test.YtoaplbljflhheaaGreatAbw
import Derived.Test.YtoaplbljflhheaaGreatAbf
set_option maxHeartbeats 40000000
set_option maxRecDepth 100000
set_option linter.unusedVariables false
set_option linter.unusedSimpArgs false
namespace Go.Proofs.YtoaplbljflhheaaGreat
open _root_.Go.Proofs.Tryz
section
theorem P8 {S S' : Nat → Int} {h : Nat} (e : ∀ j, S' (j + h) = S j) (stop : Nat) : ∀ (d k : Nat), stop - k ≤ d → Da S' (stop + h) (k + h) = (Da S stop k).map (List.map (· + h)) := by
 intro d
 induction d with
 | zero => intro k hd; rw [B0 (by omega), B0 (by omega)]; rfl
 | succ d ih =>
  intro k hd;by_cases hk : k < stop
  ·by_cases hb : S k < 0 ∨ (stop : Int) - 1 - k < S k
   ·rw [Ds hk hb, Ds (by omega) (by rw [e]; omega)]; rfl
   ·rw [Ch hk hb, Ch (by omega) (by rw [e]; omega), e, show k + h + 1 + (S k).toNat = k + 1 + (S k).toNat + h by omega, ih _ (by omega)];cases Da S stop (k + 1 + (S k).toNat) <;> simp
  ·rw [B0 hk, B0 (by omega)]; rfl
theorem a8l {S S' : Nat → Int} {h n j : Nat} (e : ∀ j, S' (j + h) = S j) (hk : Ok S' (n + h) (j + h)) : Ok S n j := by
 have l := hk.low;have u := hk.high;have c := hk.kids;rw [e] at l u c;refine ⟨l, by omega, ?_⟩;rw [show j + h + 1 + (S j).toNat = j + 1 + (S j).toNat + h by omega, show j + h + 1 = j + 1 + h by omega, P8 e _ _ _ (Nat.le_refl _), Option.isSome_map] at c;exact c
theorem a0q {S S' : Nat → Int} {h j : Nat} (e : ∀ j, S' (j + h) = S j) : B7 S' (j + h) = (B7 S j).map (· + h) := by
 unfold B7;rw [e, show j + h + 1 + (S j).toNat = j + 1 + (S j).toNat + h by omega, show j + h + 1 = j + 1 + h by omega, P8 e _ _ _ (Nat.le_refl _)];cases Da S (j + 1 + (S j).toNat) (j + 1) <;> rfl
theorem b3x {S : Nat → Int} {n m i x : Nat} (hk : Ok S m i) (hs : S i = n) (hl : B7 S i = [x]) : x = i + 1 ∧ 0 < n ∧ S (i + 1) = (n : Int) - 1 := by
 have c := Hh hk;rw [hl, hs, Int.toNat_natCast] at c;by_cases h0 : i + 1 < i + 1 + n
 ·by_cases hb : S (i + 1) < 0 ∨ ((i + 1 + n : Nat) : Int) - 1 - (i + 1 : Nat) < S (i + 1)
  ·rw [Ds h0 hb] at c; cases c
  ·rw [Ch h0 hb] at c;by_cases h2 : i + 1 + 1 + (S (i + 1)).toNat < i + 1 + n
   ·by_cases hb2 : S (i + 1 + 1 + (S (i + 1)).toNat) < 0 ∨ ((i + 1 + n : Nat) : Int) - 1 - (i + 1 + 1 + (S (i + 1)).toNat : Nat) < S (i + 1 + 1 + (S (i + 1)).toNat)
    ·rw [Ds h2 hb2] at c; cases c
    ·rw [Ch h2 hb2] at c
     cases hc : Da S (i + 1 + n) (i + 1 + 1 + (S (i + 1)).toNat + 1 + (S (i + 1 + 1 + (S (i + 1)).toNat)).toNat) with
     | none => rw [hc] at c; cases c
     | some l => rw [hc] at c; simp at c
   ·rw [B0 h2] at c;simp at c;omega
 ·rw [B0 h0] at c;cases c
theorem Ug {H l : List Nd} (j : Nat) : nd (H ++ l) (j + H.length) = nd l j := by
 unfold nd;rw [List.getD_eq_getElem?_getD, List.getElem?_append_right (by omega), Nat.add_sub_cancel, ← List.getD_eq_getElem?_getD]
theorem Wl {H l : List Nd} {j : Nat} (h : j < H.length) : nd (H ++ l) j = nd H j := by
 unfold nd;rw [List.getD_eq_getElem?_getD, List.getElem?_append_left h, ← List.getD_eq_getElem?_getD]
theorem a60 {H l : List Nd} {i : Nat} {P : Nat → Bool} (hi : H.length = i + 1) (hs : (nd H i).size = l.length) (hask : ∀ num ks, Il (nd H i).kind num ks = Ag [P] ks) (hm : Wo (H ++ l) = true) :
  Right (sz l) l.length ∧ P (nd l 0).kind = true ∧ ∀ p, p < l.length → b1b l p := by
 obtain ⟨hR, -, A⟩ := a38 hm;have e : ∀ j, sz (H ++ l) (j + H.length) = sz l j := fun j => by unfold sz; rw [Ug]
 have hlen : (H ++ l).length = l.length + H.length := by rw [List.length_append]; omega
 rw [hlen] at hR A;have hA := (A i (by omega)).2.2;rw [Wl (by omega), hask] at hA;have hl := Dp hA;rw [List.length_map] at hl
 obtain ⟨x, hx⟩ : ∃ x, B7 (sz (H ++ l)) i = [x] := by
  match hkk : B7 (sz (H ++ l)) i, hl with
  | [x], _ => exact ⟨x, rfl⟩
 obtain ⟨x0, x1, x2⟩ := b3x (hR.ok i (by omega)) (n := l.length) (by unfold sz; rw [Wl (by omega)]; exact hs) hx;rw [← hi] at x0 x2;have x2' := x2;rw [← Nat.zero_add H.length, e] at x2';refine ⟨⟨x1, x2', fun j hj => a8l e (hR.ok (j + H.length) (by omega))⟩, ?_, fun p hp => ?_⟩
 ·have := Cb hA (i := 0) (by simp);rw [hx] at this;have this : P (Cv (H ++ l) x) = true := this;rw [x0, Cv, ← Nat.zero_add H.length, Ug] at this;exact this
 ·have := A (p + H.length) (by omega);unfold b1b at this ⊢;rw [Ug, a0q e, List.map_map] at this
  have e2 : (Cv (H ++ l)) ∘ (· + H.length) = Cv l := by
   funext q;simp only [Function.comp, Cv];rw [Ug]
  rw [e2] at this;exact this
noncomputable def U1 (l : List Nd) : Bool := Wo (N7 l.length ++ l)
theorem a91 {l : List Nd} (h : U1 l = true) : Right (sz l) l.length ∧ Ah (nd l 0).kind = true ∧ ∀ p, p < l.length → b1b l p := a60 (i := 4) (P := Ah) rfl rfl (fun _ _ => rfl) h
end
end Go.Proofs.YtoaplbljflhheaaGreat
