/-
  What a Put that traps not leaves; objects of All, one element of which is set back. Conditions: as said.
-/
import Derived.Test.YtfeeikajekemlaaLp0
namespace Go.Proofs.Ytfeeikajekemlaa
open Go.RowKit
set_option linter.unusedVariables false
set_option linter.unusedSimpArgs false

theorem Tb.made {w w' : World} {own own' : Owns} {k p room t : Nat} {F : Nat → Value} {m : M} {a : Option Addr} {n c : Nat} (h : Tb w own k p room t F m a n c) (s : Stp w.heap.size k own own' w w') (hp : Hp w' own' k p room m) : Tb w' own' k p room t F m a n c :=
  ⟨hp, h.box.of_block (s.block _ h.box.lt (by rw [h.lab]; simp)), by rw [s.ownE _ h.box.lt]; exact h.lab, h.rl.kp (s.kp rfl hp.k0)⟩

theorem ob_set (L : List Ob) (j q : Nat) (o : Ob) (hq : q < L.length) : ob (L.set j o) q = if q = j then o else ob L q := by
  unfold ob
  rw [List.getD_eq_getElem?_getD, List.getD_eq_getElem?_getD, List.getElem?_set]
  by_cases e : j = q
  · subst e; simp [hq]
  · rw [if_neg e, if_neg (fun h => e h.symm)]

structure PutF (m : M) (v x : Vl) (i : Int) (j ii : Nat) : Prop where
  n : v.n = (j : Int) + 1
  ix : i = ii
  lt : j < m.L.length
  lt2 : ii < (ob m.L j).vals.length
  eq : putM m v i x = ⟨m.cells, m.L.set j (putO (ob m.L j) ii x)⟩
  means : meansB (putM m v i x).L v = true
  tx : inB i (meant (putM m v i x).L v).text.size = false
  vs : inB i (meant (putM m v i x).L v).vals.length = true
  get : getV (meant (putM m v i x).L v) i = x

theorem put_facts {room : Nat} {m : M} {v x : Vl} {i : Int} (hok : OkM room m) (hT : putT m.L v i = 0) : ∃ j ii : Nat, PutF m v x i j ii := by
  have h0 := hT
  unfold putT at hT
  by_cases h1 : v.kind = 3 ∨ ¬ nameB m.L v = true
  · rw [if_pos h1] at hT; cases hT
  rw [if_neg h1] at hT
  have hn : nameB m.L v = true := Classical.byContradiction fun hc => h1 (.inr hc)
  have h3 : v.kind ≠ 3 := fun hc => h1 (.inl hc)
  by_cases h2 : i < 0 ∨ ((ob m.L (at_ v)).vals.length : Int) ≤ i
  · rw [if_pos h2] at hT; cases hT
  obtain ⟨g1, g2, hlt, ge, hk⟩ := name_parts hn
  obtain ⟨ii, rfl⟩ : ∃ ii : Nat, i = ii := ⟨i.toNat, by omega⟩
  obtain ⟨j, hj⟩ : ∃ j, at_ v = j := ⟨_, rfl⟩
  rw [hj] at h2 hlt ge hk
  have heq : putM m v (ii : Int) x = ⟨m.cells, m.L.set j (putO (ob m.L j) ii x)⟩ := by
    unfold putM; rw [if_pos h0, hj]; simp
  have hob : ob (m.L.set j (putO (ob m.L j) ii x)) j = putO (ob m.L j) ii x := by rw [ob_set _ _ _ _ hlt, if_pos rfl]
  have hnm : nameB (m.L.set j (putO (ob m.L j) ii x)) v = true := by
    unfold nameB
    have e : (v.n - 1).toNat = j := hj
    rw [List.length_set, e, hob]
    simp [putO, hk, g1, g2]
  have hmn : meant (putM m v (ii : Int) x).L v = putO (ob m.L j) ii x := by
    rw [heq]; unfold meant
    rw [if_neg (fun c => h3 c.1), if_pos hnm, hj, hob]
  have hmay := hok.may _ (ob_mem hlt)
  have htx : (ob m.L j).text.size = 0 := by
    unfold mayB at hmay
    rw [if_neg (by omega)] at hmay
    simp at hmay
    rw [hmay.1.2]; rfl
  have hl2 : ii < (ob m.L j).vals.length := by omega
  have ht : inB (ii : Int) (meant (putM m v (ii : Int) x).L v).text.size = false := by
    rw [hmn]; show inB _ (ob m.L j).text.size = false
    rw [htx]; simp [inB]
  have hvv : inB (ii : Int) (meant (putM m v (ii : Int) x).L v).vals.length = true := by
    rw [hmn]; show inB _ ((ob m.L j).vals.set ii x).length = true
    rw [List.length_set]; simp [inB, hl2]
  refine ⟨j, ii, by omega, rfl, hlt, hl2, heq, ?_, ht, hvv, ?_⟩
  · rw [heq]; unfold meansB; rw [hnm]; simp
  · unfold getV
    rw [if_neg (by rw [ht]; simp), if_pos hvv, hmn]
    show vl ((ob m.L j).vals.set ii x) ((ii : Int)).toNat = x
    rw [Int.toNat_natCast, vl_set _ _ _ _ hl2, if_pos rfl]

/-- One element is set back. -/
theorem objs_reset {w : World} {B g n : Nat} {L : List Ob} {xs : Nat → Oc} {vb : Nat → Nat} {j ii : Nat} {x : Vl} (h : Objs w B g n n (L.set j (putO (ob L j) ii x)) xs vb) (hB : B ≤ g) (hn : L.length = n) (hj : j < n) (hii : ii < (ob L j).vals.length) (u : Vl) (hu : vl (ob L j).vals ii = u) :
    RL (fun b => B ≤ b) ((((w.setCell ⟨vb j, ii * 4, none⟩ (.int .u8 u.kind)).setCell ⟨vb j, ii * 4 + 1, none⟩ (.int .i64 u.n)).setCell ⟨vb j, ii * 4 + 2, none⟩ (.int .i64 u.re)).setCell ⟨vb j, ii * 4 + 3, none⟩ (.int .i64 u.im)) (some ⟨g, 0, none⟩) n n L := by
  have hobj : ∀ i, i < n → ob (L.set j (putO (ob L j) ii x)) i = if i = j then putO (ob L j) ii x else ob L i := fun i hi => ob_set _ _ _ _ (by omega)
  have hlen : ∀ i, i < n → (ob L i).vals.length = (xs i).n := fun i hi => by
    have := (h.vals i hi).1
    rw [hobj i hi] at this
    by_cases e : i = j
    · subst e; rw [if_pos rfl] at this; rw [← this]; simp [putO]
    · rw [if_neg e] at this; exact this
  have hnj : (xs j).n ≠ 0 := by have := hlen j hj; omega
  have hlo := h.lo j hj hnj
  obtain ⟨w', hw'⟩ : ∃ w', w' = ((((w.setCell ⟨vb j, ii * 4, none⟩ (.int .u8 u.kind)).setCell ⟨vb j, ii * 4 + 1, none⟩ (.int .i64 u.n)).setCell ⟨vb j, ii * 4 + 2, none⟩ (.int .i64 u.re)).setCell ⟨vb j, ii * 4 + 3, none⟩ (.int .i64 u.im)) := ⟨_, rfl⟩
  rw [← hw']
  have hE : ∀ b, b ≠ vb j → w'.heap[b]? = w.heap[b]? := fun b hb => by
    rw [hw']
    exact (set_other (q := ⟨vb j, ii * 4 + 3, none⟩) hb).trans ((set_other (q := ⟨vb j, ii * 4 + 2, none⟩) hb).trans ((set_other (q := ⟨vb j, ii * 4 + 1, none⟩) hb).trans (set_other (q := ⟨vb j, ii * 4, none⟩) hb)))
  have hrow : w'.rowIs g 45 (n * 4) (flO xs) := h.row.of_block (hE g (by omega))
  have hne : ∀ i, i < n → i ≠ j → (xs i).n ≠ 0 → vb i ≠ vb j := fun i hi hij hni => by
    rcases Nat.lt_or_gt_of_ne hij with hlt | hgt
    · have := h.inc i j hlt hj hni hnj; omega
    · have := h.inc j i hgt hi hnj hni; omega
  refine ⟨(List.range n).map xs, by simp, hn, (fun e => by cases e), fun i hi => ?_, fun i hi => ?_⟩
  · have hi' : i < n := by simpa using hi
    refine ⟨g, 0, rfl, hB, ?_⟩
    have e : oc ((List.range n).map xs) i = xs i := by simp [oc, List.getD, hi']
    rw [e, Nat.zero_add]
    exact flO_at hrow hi'
  · have e : oc ((List.range n).map xs) i = xs i := by simp [oc, List.getD, hi]
    rw [e]
    have hk := h.kind i hi
    have hf := h.of i hi
    have ht := h.text i hi
    have hv := h.vals i hi
    rw [hobj i hi] at hk hf ht hv
    by_cases ej : i = j
    · subst ej
      rw [if_pos rfl] at hk hf ht hv
      refine ⟨hk, hf, ht, hlen i hi, hv.2.1, ?_⟩
      rcases hv.2.2 with z | ⟨z1, z2⟩
      · exact absurd z hnj
      · have hw2 : w'.rowIs (vb i) 35 ((xs i).n * 4) (flF (vl (ob L i).vals)) := by
          rw [hw']
          refine flF_set z2 ii u _ fun q hq => ?_
          show vl (ob L i).vals q = if q = ii then u else vl ((ob L i).vals.set ii x) q
          have := hlen i hi
          by_cases eq : q = ii
          · subst eq; rw [if_pos rfl]; exact hu
          · rw [if_neg eq, vl_set _ _ _ _ (by omega), if_neg eq]
        exact va_rv (x := xs i) (vb := vb i) ⟨hlen i hi, hv.2.1, .inr ⟨z1, hw2⟩⟩ fun _ => hlo.1
    · rw [if_neg ej] at hk hf ht hv
      refine ⟨hk, hf, ht, hlen i hi, hv.2.1, ?_⟩
      exact va_rv (hv.of_block fun hni => hE _ (hne i hi ej hni)) fun hni => (h.lo i hi hni).1

end Go.Proofs.Ytfeeikajekemlaa
