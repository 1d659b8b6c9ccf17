/-
 Contracts and plain facts on the way to PrettyAgain. Conditions: as each says.
-/
import Derived.Test.YtoaplbljflhheaaGreatAad
import Derived.Test.YtoaplbljflhheaaGreatAan
import Derived.Test.YtoaplbljflhheaaGreatAaj
set_option maxHeartbeats 40000000
set_option maxRecDepth 100000
set_option linter.unusedVariables false
set_option linter.unusedSimpArgs false
namespace Go.Proofs.YtoaplbljflhheaaGreat
open _root_.Go.Proofs.Tryz
section
section
open Go.RowKit Go.Sort
theorem c16 {b : Bool} (h : b = false) (h2 : b = true) : False := by rw [h] at h2; cases h2
def c3h (s : ByteArray) (w : World) (R : List UInt8 × Nat × Bool) (v i : Value) (wr : World) : Prop :=
 ∃ (k : Nat) (x : List UInt8), 1 ≤ k ∧ k ≤ s.size ∧ i = .int .i64 k ∧ x.length ≤ k ∧ (x ++ (Eb (s.data.toList.drop k)).1, k + (Eb (s.data.toList.drop k)).2.1, (Eb (s.data.toList.drop k)).2.2) = R ∧
  Own wr w.heap.size v x ∧ Below w.heap.size w wr
theorem c3h.stop {s : ByteArray} {R : List UInt8 × Nat × Bool} {k m : Nat} {x : List UInt8} {b : UInt8} (hR : (x ++ (Eb (s.data.toList.drop k)).1, k + (Eb (s.data.toList.drop k)).2.1, (Eb (s.data.toList.drop k)).2.2) = R)
  (hq : ¬ (s.data.toList.drop k).head? = some 34) (hr : rb (s.data.toList.drop k) = (b, m, false)) : R.2 = (k + m, false) := by
 have hst := Kl (s.data.toList.drop k) hq (by rw [hr]);rw [hr] at hst;rw [← hR, hst]
end
end
section
section
open Go.RowKit Go.Sort
end
end
section
def N6 (n : Nd) : Inf := ⟨n.kind, 0, 0, n.num, n.text.data.toList⟩
def fo (l : List Nd) : Nat → Nat → Nat → Fo
 | 0, _, _ => .nil
 | f + 1, p, stop => if p < stop then .cons (N6 (nd l p)) (fo l f (p + 1) (p + 1 + (sz l p).toNat)) (fo l f (p + 1 + (sz l p).toNat) stop) else .nil
theorem b9j (l : List Nd) (f p : Nat) : fo l f p p = .nil := by
 cases f with
 | zero => rfl
 | succ f => rw [fo, if_neg (Nat.lt_irrefl _)]
theorem Xe {S : Nat → Int} {stop p : Nat} (hp : p < stop) (h : (Da S stop p).isSome = true) : 0 ≤ S p ∧ p + 1 + (S p).toNat ≤ stop ∧ (Da S stop (p + 1 + (S p).toNat)).isSome = true ∧ (Da S stop p).getD [] = p :: (Da S stop (p + 1 + (S p).toNat)).getD [] := by
 by_cases hb : S p < 0 ∨ (stop : Int) - 1 - p < S p
 ·rw [Ds hp hb] at h; cases h
 ·rw [Ch hp hb] at h;rw [Ch hp hb];rw [Option.isSome_map] at h;refine ⟨by omega, by omega, h, ?_⟩;obtain ⟨m, hm⟩ := Option.isSome_iff_exists.1 h;rw [hm];rfl
theorem a45 {l : List Nd} {n : Nat} (hok : ∀ j, j < n → Ok (sz l) n j) : ∀ (f p stop : Nat), p ≤ stop → stop ≤ n → stop - p ≤ f → (Da (sz l) stop p).isSome = true →
  (fo l f p stop).cnt = stop - p ∧ D0 (fo l f p stop) p = (Da (sz l) stop p).getD [] ∧
   ∀ j, j < stop - p → ∃ f', (sz l (p + j)).toNat ≤ f' ∧ (D6 (fo l f p stop))[j]? = some (N6 (nd l (p + j)), fo l f' (p + j + 1) (p + j + 1 + (sz l (p + j)).toNat)) := by
 intro f
 induction f with
 | zero =>
  intro p stop h1 h2 h3 h4;obtain rfl : p = stop := by omega
  exact ⟨by simp [fo, Fo.cnt], by rw [B0 (Nat.lt_irrefl _)]; rfl, fun j hj => absurd hj (by omega)⟩
 | succ f ih =>
  intro p stop h1 h2 h3 h4;by_cases hp : p < stop
  ·obtain ⟨s0, s1, s2, s3⟩ := Xe hp h4;have hk := (hok p (by omega)).kids;obtain ⟨a1, a2, a3⟩ := ih (p + 1) (p + 1 + (sz l p).toNat) (by omega) (by omega) (by omega) hk;obtain ⟨b1, b2, b3⟩ := ih (p + 1 + (sz l p).toNat) stop s1 h2 (by omega) s2;have hc : (fo l f (p + 1) (p + 1 + (sz l p).toNat)).cnt = (sz l p).toNat := by rw [a1]; omega
   rw [fo, if_pos hp];refine ⟨by rw [Fo.cnt, hc, b1]; omega, by rw [D0, hc, b2, s3], fun j hj => ?_⟩;by_cases hj0 : j = 0
   ·subst hj0;exact ⟨f, by rw [Nat.add_zero]; omega, by simp [D6]⟩
   ·obtain ⟨i, rfl⟩ : ∃ i, j = i + 1 := ⟨j - 1, by omega⟩;by_cases hi : i < (sz l p).toNat
    ·obtain ⟨f', h5, h6⟩ := a3 i (by omega);refine ⟨f', by rw [show p + (i + 1) = p + 1 + i by omega]; exact h5, ?_⟩;rw [D6, List.getElem?_cons_succ, List.getElem?_append_left (by rw [Bu, hc]; exact hi), h6, show p + (i + 1) = p + 1 + i by omega]
    ·obtain ⟨f', h5, h6⟩ := b3 (i - (sz l p).toNat) (by omega);have e : p + (i + 1) = p + 1 + (sz l p).toNat + (i - (sz l p).toNat) := by omega
     refine ⟨f', by rw [e]; exact h5, ?_⟩;rw [D6, List.getElem?_cons_succ, List.getElem?_append_right (by rw [Bu, hc]; omega), Bu, hc, h6, ← e]
  ·obtain rfl : p = stop := by omega
   rw [fo, if_neg hp];exact ⟨by simp [Fo.cnt], by rw [B0 hp]; rfl, fun j hj => absurd hj (by omega)⟩
def Qj (l : List Nd) : Fo := fo l l.length 0 l.length
theorem Pb {S : Nat → Int} {n : Nat} (h : Right S n) : (Da S n 0).isSome = true := by
 have h1 := h.all;have h2 := h.pos;rw [Ch h.pos (by omega), Option.isSome_map, B0 (by omega)];rfl
theorem Od {l : List Nd} (h : Right (sz l) l.length) : (Qj l).cnt = l.length ∧ ∀ p, p < l.length → (Ai (Qj l) p).1 = N6 (nd l p) ∧ (Ai (Qj l) p).2.cnt = (sz l p).toNat ∧ B7 (sz l) p = D0 (Ai (Qj l) p).2 (p + 1) := by
 obtain ⟨h1, h2, h3⟩ := a45 h.ok l.length 0 l.length (Nat.zero_le _) (Nat.le_refl _) (by omega) (Pb h);refine ⟨by rw [Qj, h1]; omega, fun p hp => ?_⟩;obtain ⟨f', h4, h5⟩ := h3 p (by omega);rw [Nat.zero_add] at h4 h5
 have e : Ai (Qj l) p = (N6 (nd l p), fo l f' (p + 1) (p + 1 + (sz l p).toNat)) := by
  unfold Ai Qj;rw [List.getD_eq_getElem?_getD, h5];rfl
 have hk := h.ok p hp;have hh := hk.high;have hl := hk.low;obtain ⟨c1, c2, _⟩ := a45 h.ok f' (p + 1) (p + 1 + (sz l p).toNat) (by omega) (by omega) (by omega) hk.kids;rw [e];exact ⟨rfl, by rw [c1]; omega, c2.symm⟩
end
end Go.Proofs.YtoaplbljflhheaaGreat
