/-
 Contracts and plain facts on the way to PrettyWrites. Conditions: as each says.
-/
import Derived.Test.YtoaplbljflhheaaGreatWbx
import Derived.Test.YtoaplbljflhheaaGreatWbh
set_option maxHeartbeats 40000000
set_option maxRecDepth 100000
set_option linter.unusedVariables false
set_option linter.unusedSimpArgs false
namespace Go.Proofs.YtoaplbljflhheaaGreat
theorem K9 {S S' : Nat → Int} {h : Nat} (e : ∀ j, S' (j + h) = S j) (stop : Nat) : ∀ (d k : Nat), stop - k ≤ d → Bw S' (stop + h) (k + h) = (Bw S stop k).map (List.map (· + h)) := by
 intro d
 induction d with
 | zero => intro k hd; rw [A8 (by omega), A8 (by omega)]; rfl
 | succ d ih =>
  intro k hd
  by_cases hk : k < stop
  ·by_cases hb : S k < 0 ∨ (stop : Int) - 1 - k < S k
   ·rw [Bv hk hb, Bv (by omega) (by rw [e]; omega)]; rfl
   ·rw [Bd hk hb, Bd (by omega) (by rw [e]; omega), e, show k + h + 1 + (S k).toNat = k + 1 + (S k).toNat + h by omega, ih _ (by omega)]
    cases Bw S stop (k + 1 + (S k).toNat) <;> simp
  ·rw [A8 hk, A8 (by omega)]; rfl
theorem a2i {S S' : Nat → Int} {h n j : Nat} (e : ∀ j, S' (j + h) = S j) (hk : Ok S' (n + h) (j + h)) : Ok S n j := by
 have l := hk.low
 have u := hk.high
 have c := hk.kids
 rw [e] at l u c
 refine ⟨l, by omega, ?_⟩
 rw [show j + h + 1 + (S j).toNat = j + 1 + (S j).toNat + h by omega, show j + h + 1 = j + 1 + h by omega, K9 e _ _ _ (Nat.le_refl _), Option.isSome_map] at c
 exact c
theorem Ve {S S' : Nat → Int} {h j : Nat} (e : ∀ j, S' (j + h) = S j) : Ai S' (j + h) = (Ai S j).map (· + h) := by
 unfold Ai
 rw [e, show j + h + 1 + (S j).toNat = j + 1 + (S j).toNat + h by omega, show j + h + 1 = j + 1 + h by omega, K9 e _ _ _ (Nat.le_refl _)]
 cases Bw S (j + 1 + (S j).toNat) (j + 1) <;> rfl
theorem a7a {S : Nat → Int} {n m i x : Nat} (hk : Ok S m i) (hs : S i = n) (hl : Ai S i = [x]) : x = i + 1 ∧ 0 < n ∧ S (i + 1) = (n : Int) - 1 := by
 have c := B8 hk
 rw [hl, hs, Int.toNat_natCast] at c
 by_cases h0 : i + 1 < i + 1 + n
 ·by_cases hb : S (i + 1) < 0 ∨ ((i + 1 + n : Nat) : Int) - 1 - (i + 1 : Nat) < S (i + 1)
  ·rw [Bv h0 hb] at c; cases c
  ·rw [Bd h0 hb] at c
   by_cases h2 : i + 1 + 1 + (S (i + 1)).toNat < i + 1 + n
   ·by_cases hb2 : S (i + 1 + 1 + (S (i + 1)).toNat) < 0 ∨ ((i + 1 + n : Nat) : Int) - 1 - (i + 1 + 1 + (S (i + 1)).toNat : Nat) < S (i + 1 + 1 + (S (i + 1)).toNat)
    ·rw [Bv h2 hb2] at c; cases c
    ·rw [Bd h2 hb2] at c
     cases hc : Bw S (i + 1 + n) (i + 1 + 1 + (S (i + 1)).toNat + 1 + (S (i + 1 + 1 + (S (i + 1)).toNat)).toNat) with
     | none => rw [hc] at c; cases c
     | some l => rw [hc] at c; simp at c
   ·rw [A8 h2] at c
    simp at c
    omega
 ·rw [A8 h0] at c
  cases c
theorem Ph {H l : List Nd} (j : Nat) : nd (H ++ l) (j + H.length) = nd l j := by
 unfold nd
 rw [List.getD_eq_getElem?_getD, List.getElem?_append_right (by omega), Nat.add_sub_cancel, ← List.getD_eq_getElem?_getD]
theorem Rh {H l : List Nd} {j : Nat} (h : j < H.length) : nd (H ++ l) j = nd H j := by
 unfold nd
 rw [List.getD_eq_getElem?_getD, List.getElem?_append_left h, ← List.getD_eq_getElem?_getD]
theorem a00 {H l : List Nd} {i : Nat} {P : Nat → Bool} (hi : H.length = i + 1) (hs : (nd H i).size = l.length) (hask : ∀ num ks, C2 (nd H i).kind num ks = A3 [P] ks) (hm : N1 (H ++ l) = true) :
  Right (sz l) l.length ∧ P (nd l 0).kind = true ∧ ∀ p, p < l.length → Qb l p := by
 obtain ⟨hR, -, A⟩ := Rn hm
 have e : ∀ j, sz (H ++ l) (j + H.length) = sz l j := fun j => by unfold sz; rw [Ph]
 have hlen : (H ++ l).length = l.length + H.length := by rw [List.length_append]; omega
 rw [hlen] at hR A
 have hA := (A i (by omega)).2.2
 rw [Rh (by omega), hask] at hA
 have hl := Ed hA
 rw [List.length_map] at hl
 obtain ⟨x, hx⟩ : ∃ x, Ai (sz (H ++ l)) i = [x] := by
  match hkk : Ai (sz (H ++ l)) i, hl with
  | [x], _ => exact ⟨x, rfl⟩
 obtain ⟨x0, x1, x2⟩ := a7a (hR.ok i (by omega)) (n := l.length) (by unfold sz; rw [Rh (by omega)]; exact hs) hx
 rw [← hi] at x0 x2
 have x2' := x2
 rw [← Nat.zero_add H.length, e] at x2'
 refine ⟨⟨x1, x2', fun j hj => a2i e (hR.ok (j + H.length) (by omega))⟩, ?_, fun p hp => ?_⟩
 ·have := Ct hA (i := 0) (by simp)
  rw [hx] at this
  have this : P (Ag (H ++ l) x) = true := this
  rw [x0, Ag, ← Nat.zero_add H.length, Ph] at this
  exact this
 ·have := A (p + H.length) (by omega)
  unfold Qb at this ⊢
  rw [Ph, Ve e, List.map_map] at this
  have e2 : (Ag (H ++ l)) ∘ (· + H.length) = Ag l := by
   funext q
   simp only [Function.comp, Ag]
   rw [Ph]
  rw [e2] at this
  exact this
noncomputable def P5 (l : List Nd) : Bool := N1 (Jo l.length ++ l)
theorem a3s {l : List Nd} (h : P5 l = true) : Right (sz l) l.length ∧ Bc (nd l 0).kind = true ∧ ∀ p, p < l.length → Qb l p := a00 (i := 4) (P := Bc) rfl rfl (fun _ _ => rfl) h
end Go.Proofs.YtoaplbljflhheaaGreat
