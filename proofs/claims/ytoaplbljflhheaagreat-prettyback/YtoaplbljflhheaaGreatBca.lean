/-
 Contracts and plain facts on the way to PrettyBack. Conditions: as each says.
-/
import Derived.Test.YtoaplbljflhheaaGreatBby
import Derived.Test.YtoaplbljflhheaaGreatBbh
set_option maxHeartbeats 40000000
set_option maxRecDepth 100000
set_option linter.unusedVariables false
set_option linter.unusedSimpArgs false
namespace Go.Proofs.YtoaplbljflhheaaGreat
open _root_.Go.Proofs.Tryz
section
theorem Qb {S S' : Nat -> Int} {h : Nat} (e : ∀ j, S' (j + h) = S j) (stop : Nat) : ∀ (d k : Nat), stop - k <= d -> Cq S' (stop + h) (k + h) = (Cq S stop k).map (List.map (· + h)) := by
 intro d
 induction d with
 | zero => intro k hd; rw [Bj (by omega), Bj (by omega)]; rfl
 | succ d ih =>
  intro k hd;by_cases hk : k < stop
  ·by_cases hb : S k < 0 ∨ (stop : Int) - 1 - k < S k
   ·rw [Cp hk hb, Cp (by omega) (by rw [e]; omega)]; rfl
   ·rw [Bh hk hb, Bh (by omega) (by rw [e]; omega), e, show k + h + 1 + (S k).toNat = k + 1 + (S k).toNat + h by omega, ih _ (by omega)];cases Cq S stop (k + 1 + (S k).toNat) <;> simp
  ·rw [Bj hk, Bj (by omega)]; rfl
theorem a88 {S S' : Nat -> Int} {h n j : Nat} (e : ∀ j, S' (j + h) = S j) (hk : Ok S' (n + h) (j + h)) : Ok S n j := by
 have l := hk.low;have u := hk.high;have c := hk.kids;rw [e] at l u c;refine ⟨l, by omega, ?_⟩;rw [show j + h + 1 + (S j).toNat = j + 1 + (S j).toNat + h by omega, show j + h + 1 = j + 1 + h by omega, Qb e _ _ _ (Nat.le_refl _), Option.isSome_map] at c;exact c
theorem a07 {S S' : Nat -> Int} {h j : Nat} (e : ∀ j, S' (j + h) = S j) : A7 S' (j + h) = (A7 S j).map (· + h) := by
 unfold A7;rw [e, show j + h + 1 + (S j).toNat = j + 1 + (S j).toNat + h by omega, show j + h + 1 = j + 1 + h by omega, Qb e _ _ _ (Nat.le_refl _)];cases Cq S (j + 1 + (S j).toNat) (j + 1) <;> rfl
theorem b4k {S : Nat -> Int} {n m i x : Nat} (hk : Ok S m i) (hs : S i = n) (hl : A7 S i = [x]) : x = i + 1 ∧ 0 < n ∧ S (i + 1) = (n : Int) - 1 := by
 have c := Db hk;rw [hl, hs, Int.toNat_natCast] at c;by_cases h0 : i + 1 < i + 1 + n
 ·by_cases hb : S (i + 1) < 0 ∨ ((i + 1 + n : Nat) : Int) - 1 - (i + 1 : Nat) < S (i + 1)
  ·rw [Cp h0 hb] at c; cases c
  ·rw [Bh h0 hb] at c;by_cases h2 : i + 1 + 1 + (S (i + 1)).toNat < i + 1 + n
   ·by_cases hb2 : S (i + 1 + 1 + (S (i + 1)).toNat) < 0 ∨ ((i + 1 + n : Nat) : Int) - 1 - (i + 1 + 1 + (S (i + 1)).toNat : Nat) < S (i + 1 + 1 + (S (i + 1)).toNat)
    ·rw [Cp h2 hb2] at c; cases c
    ·rw [Bh h2 hb2] at c
     cases hc : Cq S (i + 1 + n) (i + 1 + 1 + (S (i + 1)).toNat + 1 + (S (i + 1 + 1 + (S (i + 1)).toNat)).toNat) with
     | none => rw [hc] at c; cases c
     | some l => rw [hc] at c; simp at c
   ·rw [Bj h2] at c;simp at c;omega
 ·rw [Bj h0] at c;cases c
theorem U2 {H l : List Nd} (j : Nat) : nd (H ++ l) (j + H.length) = nd l j := by
 unfold nd;rw [List.getD_eq_getElem?_getD, List.getElem?_append_right (by omega), Nat.add_sub_cancel, <- List.getD_eq_getElem?_getD]
theorem Xa {H l : List Nd} {j : Nat} (h : j < H.length) : nd (H ++ l) j = nd H j := by
 unfold nd;rw [List.getD_eq_getElem?_getD, List.getElem?_append_left h, <- List.getD_eq_getElem?_getD]
theorem a7c {H l : List Nd} {i : Nat} {P : Nat -> Bool} (hi : H.length = i + 1) (hs : (nd H i).size = l.length) (hask : ∀ num ks, Hl (nd H i).kind num ks = Ak [P] ks) (hm : Rq (H ++ l) = true) :
  Right (sz l) l.length ∧ P (nd l 0).kind = true ∧ ∀ p, p < l.length -> a69 l p := by
 obtain ⟨hR, -, A⟩ := Pq hm;have e : ∀ j, sz (H ++ l) (j + H.length) = sz l j := fun j => by unfold sz; rw [U2]
 have hlen : (H ++ l).length = l.length + H.length := by rw [List.length_append]; omega
 rw [hlen] at hR A;have hA := (A i (by omega)).2.2;rw [Xa (by omega), hask] at hA;have hl := Dr hA;rw [List.length_map] at hl
 obtain ⟨x, hx⟩ : ∃ x, A7 (sz (H ++ l)) i = [x] := by
  match hkk : A7 (sz (H ++ l)) i, hl with
  | [x], _ => exact ⟨x, rfl⟩
 obtain ⟨x0, x1, x2⟩ := b4k (hR.ok i (by omega)) (n := l.length) (by unfold sz; rw [Xa (by omega)]; exact hs) hx;rw [<- hi] at x0 x2;have x2' := x2;rw [<- Nat.zero_add H.length, e] at x2';refine ⟨⟨x1, x2', fun j hj => a88 e (hR.ok (j + H.length) (by omega))⟩, ?_, fun p hp => ?_⟩
 ·have := Cb hA (i := 0) (by simp);rw [hx] at this;have this : P (Ai (H ++ l) x) = true := this;rw [x0, Ai, <- Nat.zero_add H.length, U2] at this;exact this
 ·have := A (p + H.length) (by omega);unfold a69 at this ⊢;rw [U2, a07 e, List.map_map] at this
  have e2 : (Ai (H ++ l)) ∘ (· + H.length) = Ai l := by
   funext q;simp only [Function.comp, Ai];rw [U2]
  rw [e2] at this;exact this
noncomputable def Vp (l : List Nd) : Bool := Rq (N5 l.length ++ l)
theorem b0v {l : List Nd} (h : Vp l = true) : Right (sz l) l.length ∧ Am (nd l 0).kind = true ∧ ∀ p, p < l.length -> a69 l p := a7c (i := 4) (P := Am) rfl rfl (fun _ _ => rfl) h
end
end Go.Proofs.YtoaplbljflhheaaGreat
