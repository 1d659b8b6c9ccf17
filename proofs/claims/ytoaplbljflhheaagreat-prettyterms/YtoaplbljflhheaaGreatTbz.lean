/-
 Contracts and plain facts on the way to PrettyTerms. Conditions: as each says.
-/
import Derived.Test.YtoaplbljflhheaaGreatTbx
import Derived.Test.YtoaplbljflhheaaGreatTbg
set_option maxHeartbeats 40000000
set_option maxRecDepth 100000
set_option linter.unusedVariables false
set_option linter.unusedSimpArgs false
namespace Go.Proofs.YtoaplbljflhheaaGreat
theorem Mj {S S' : Nat → Int} {h : Nat} (e : ∀ j, S' (j + h) = S j) (stop : Nat) : ∀ (d k : Nat), stop - k ≤ d → Ch S' (stop + h) (k + h) = (Ch S stop k).map (List.map (· + h)) := by
 intro d
 induction d with
 | zero => intro k hd; rw [Bj (by omega), Bj (by omega)]; rfl
 | succ d ih =>
  intro k hd
  by_cases hk : k < stop
  ·by_cases hb : S k < 0 ∨ (stop : Int) - 1 - k < S k
   ·rw [C1 hk hb, C1 (by omega) (by rw [e]; omega)]; rfl
   ·rw [Bx hk hb, Bx (by omega) (by rw [e]; omega), e, show k + h + 1 + (S k).toNat = k + 1 + (S k).toNat + h by omega, ih _ (by omega)]
    cases Ch S stop (k + 1 + (S k).toNat) <;> simp
  ·rw [Bj hk, Bj (by omega)]; rfl
theorem a3e {S S' : Nat → Int} {h n j : Nat} (e : ∀ j, S' (j + h) = S j) (hk : Ok S' (n + h) (j + h)) : Ok S n j := by
 have l := hk.low
 have u := hk.high
 have c := hk.kids
 rw [e] at l u c
 refine ⟨l, by omega, ?_⟩
 rw [show j + h + 1 + (S j).toNat = j + 1 + (S j).toNat + h by omega, show j + h + 1 = j + 1 + h by omega, Mj e _ _ _ (Nat.le_refl _), Option.isSome_map] at c
 exact c
theorem Vx {S S' : Nat → Int} {h j : Nat} (e : ∀ j, S' (j + h) = S j) : Bn S' (j + h) = (Bn S j).map (· + h) := by
 unfold Bn
 rw [e, show j + h + 1 + (S j).toNat = j + 1 + (S j).toNat + h by omega, show j + h + 1 = j + 1 + h by omega, Mj e _ _ _ (Nat.le_refl _)]
 cases Ch S (j + 1 + (S j).toNat) (j + 1) <;> rfl
theorem a8r {S : Nat → Int} {n m i x : Nat} (hk : Ok S m i) (hs : S i = n) (hl : Bn S i = [x]) : x = i + 1 ∧ 0 < n ∧ S (i + 1) = (n : Int) - 1 := by
 have c := Et hk
 rw [hl, hs, Int.toNat_natCast] at c
 by_cases h0 : i + 1 < i + 1 + n
 ·by_cases hb : S (i + 1) < 0 ∨ ((i + 1 + n : Nat) : Int) - 1 - (i + 1 : Nat) < S (i + 1)
  ·rw [C1 h0 hb] at c; cases c
  ·rw [Bx h0 hb] at c
   by_cases h2 : i + 1 + 1 + (S (i + 1)).toNat < i + 1 + n
   ·by_cases hb2 : S (i + 1 + 1 + (S (i + 1)).toNat) < 0 ∨ ((i + 1 + n : Nat) : Int) - 1 - (i + 1 + 1 + (S (i + 1)).toNat : Nat) < S (i + 1 + 1 + (S (i + 1)).toNat)
    ·rw [C1 h2 hb2] at c; cases c
    ·rw [Bx h2 hb2] at c
     cases hc : Ch S (i + 1 + n) (i + 1 + 1 + (S (i + 1)).toNat + 1 + (S (i + 1 + 1 + (S (i + 1)).toNat)).toNat) with
     | none => rw [hc] at c; cases c
     | some l => rw [hc] at c; simp at c
   ·rw [Bj h2] at c
    simp at c
    omega
 ·rw [Bj h0] at c
  cases c
theorem P2 {H l : List Nd} (j : Nat) : nd (H ++ l) (j + H.length) = nd l j := by
 unfold nd
 rw [List.getD_eq_getElem?_getD, List.getElem?_append_right (by omega), Nat.add_sub_cancel, ← List.getD_eq_getElem?_getD]
theorem Ry {H l : List Nd} {j : Nat} (h : j < H.length) : nd (H ++ l) j = nd H j := by
 unfold nd
 rw [List.getD_eq_getElem?_getD, List.getElem?_append_left h, ← List.getD_eq_getElem?_getD]
theorem a1x {H l : List Nd} {i : Nat} {P : Nat → Bool} (hi : H.length = i + 1) (hs : (nd H i).size = l.length) (hask : ∀ num ks, Fk (nd H i).kind num ks = Al [P] ks) (hm : a3u (H ++ l) = true) :
  Right (sz l) l.length ∧ P (nd l 0).kind = true ∧ ∀ p, p < l.length → a5x l p := by
 obtain ⟨hR, -, A⟩ := a8x hm
 have e : ∀ j, sz (H ++ l) (j + H.length) = sz l j := fun j => by unfold sz; rw [P2]
 have hlen : (H ++ l).length = l.length + H.length := by rw [List.length_append]; omega
 rw [hlen] at hR A
 have hA := (A i (by omega)).2.2
 rw [Ry (by omega), hask] at hA
 have hl := C9 hA
 rw [List.length_map] at hl
 obtain ⟨x, hx⟩ : ∃ x, Bn (sz (H ++ l)) i = [x] := by
  match hkk : Bn (sz (H ++ l)) i, hl with
  | [x], _ => exact ⟨x, rfl⟩
 obtain ⟨x0, x1, x2⟩ := a8r (hR.ok i (by omega)) (n := l.length) (by unfold sz; rw [Ry (by omega)]; exact hs) hx
 rw [← hi] at x0 x2
 have x2' := x2
 rw [← Nat.zero_add H.length, e] at x2'
 refine ⟨⟨x1, x2', fun j hj => a3e e (hR.ok (j + H.length) (by omega))⟩, ?_, fun p hp => ?_⟩
 ·have := Cc hA (i := 0) (by simp)
  rw [hx] at this
  have this : P (B7 (H ++ l) x) = true := this
  rw [x0, B7, ← Nat.zero_add H.length, P2] at this
  exact this
 ·have := A (p + H.length) (by omega)
  unfold a5x at this ⊢
  rw [P2, Vx e, List.map_map] at this
  have e2 : (B7 (H ++ l)) ∘ (· + H.length) = B7 l := by
   funext q
   simp only [Function.comp, B7]
   rw [P2]
  rw [e2] at this
  exact this
noncomputable def Ou (l : List Nd) : Bool := a3u (Kp l.length ++ l)
theorem a4q {l : List Nd} (h : Ou l = true) : Right (sz l) l.length ∧ Ak (nd l 0).kind = true ∧ ∀ p, p < l.length → a5x l p := a1x (i := 4) (P := Ak) rfl rfl (fun _ _ => rfl) h
end Go.Proofs.YtoaplbljflhheaaGreat
