/-
  A region that draws its order and makes a slice literal out of what it reckons ('append(xs, f(..), g(..))'): reads and calls of the head may come up behind the making if the making does not wait for them. No program is spoken of. Conditions: as said.
-/
import Derived.Test.YtfeeikajekemlaaBase
namespace Go.Proofs.Ytfeeikajekemlaa
open Go.Sort Go.RowKit
set_option linter.unusedVariables false

section
variable {P : Program} {ops : Array Oper} {md : Region.Mode} {W : World}

def builtB (md : Region.Mode) (ops : Array Oper) (n : Nat) : Bool :=
  Region.noSelect ops && decide (n + 1 < ops.size) && Region.sinkB md ops (n + 1) && Region.chainB md ops (n + 1) && Region.lexHead md ops (ops.size - n) n 0 (Array.replicate ops.size false) &&
  (List.range n).all (fun j => !Region.waitsFor md ops j n) && (List.range n).all (fun j => Region.waitsFor md ops n j || match ops[j]?, ops[n]? with
    | some oj, some oa => oa.apart ops oj
    | _, _ => false)

/-- What the making waits for is there; what is not there yet it does not wait for. -/
theorem not_waits {ls : Array Bool} {n i : Nat} (hr : n ∈ Region.ready md ops ls) (hi : ls.getD i true = false) : Region.waitsFor md ops n i = false := by
  cases h : Region.waitsFor md ops n i with
  | false => rfl
  | true =>
    obtain ⟨oj, hoj, e, he, hb, hon⟩ := Region.waitsFor_spec h
    obtain ⟨_, o', ho', hall⟩ := mem_ready.1 hr
    have : oj = o' := Option.some.inj (hoj.symm.trans ho')
    subst this
    have h2 := hall e he hb
    rw [hon, getD_both hi] at h2
    exact Bool.noConfusion h2

theorem BU.after {n g : Nat} {E : Act → Prop} {oa : Oper} {p : Value} {D : World → Prop} {Q : Exit → Act → World → Prop} (hoa : ops[n]? = some oa) (hsel : Region.noSelect ops = true)
    (hs : Region.sinkB md ops (n + 1) = true) (hc : Region.chainB md ops (n + 1) = true) (hn : n + 1 < ops.size)
    (hnw : ∀ j, j < n → Region.waitsFor md ops j n = false) (hap : ∀ j oj, j < n → ops[j]? = some oj → Region.waitsFor md ops n j = false → oa.apart ops oj = true)
    (hD : ∀ w w', D w → Below w.heap.size w w' → D w')
    (hend : ∀ ls a w, Region.seqB md ops g (n + 1) ls = true → Below W.heap.size W w → D w → E a → wpAny P md ops Q g ls (a.put oa.dst p) w) (f : Nat) :
    ∀ (ls : Array Bool) (a : Act) (w : World), HeadInv md ops (n + 1) ls → n ∈ Region.ready md ops ls → HU P md ops W n (g + 1) E f ls a → Below W.heap.size W w → D w →
      wpAny P md ops Q (f + g) (ls.setIfInBounds n true) (a.put oa.dst p) w := by
  induction f with
  | zero =>
    intro ls a w inv hun h hw hd
    rw [Nat.zero_add]
    have hsq : (decide (Region.ready md ops ls = [n]) && Region.seqB md ops g (n + 1) (ls.setIfInBounds n true)) = true := h.1
    rw [Bool.and_eq_true] at hsq
    exact hend _ _ _ hsq.2 hw hd h.2
  | succ f ih =>
    intro ls a w inv hnr h hw hd
    obtain ⟨⟨i0, hi0, hl0⟩, hall⟩ := h
    have inv' := inv.set hnr (by omega)
    rw [Nat.succ_add]
    refine ⟨fun h0 => ?_, fun i hi => ?_⟩
    · have := ready_mono hi0 (show i0 ≠ n by omega)
      rw [h0] at this; simp at this
    · have hin' : ¬ n + 1 ≤ i := fun hle => tail_waits hs hc hn inv' _ i0 rfl (by omega) (mem_ready.1 (ready_mono hi0 (show i0 ≠ n by omega))).1 i hle hi
      obtain ⟨hiu, oi, hoi, hdeps⟩ := mem_ready.1 hi
      have hne : i ≠ n := fun e => by
        subst e
        have hsz : i < ls.size := by rw [inv.size]; omega
        simp [hsz] at hiu
      have hin : i < n := by omega
      have hiu' : ls.getD i true = false := by rwa [getD_set_ne true (Ne.symm hne)] at hiu
      have hir : i ∈ Region.ready md ops ls := mem_ready.2 ⟨hiu', oi, hoi, fun e he hb => by
        have h1 := hdeps e he hb
        by_cases hen : e.on = n
        · have h2 : Region.waitsFor md ops i n = true := by
            unfold Region.waitsFor; simp only [hoi]
            exact Array.any_eq_true'.2 ⟨e, he, by rw [hb, hen]; simp⟩
          rw [hnw i hin] at h2; exact Bool.noConfusion h2
        · rwa [getD_set_ne false (fun x => hen x.symm)] at h1⟩
      refine qU_wp hoi (hap i oi hin hoi (not_waits hnr hiu')) (fun cs b => Region.noSelect_spec hsel i oi cs b hoi) hD (hall i hir hne).2 hw hd (fun a' w' hw' hd' hK => ?_)
      have := ih (ls.setIfInBounds i true) a' w' (inv.set hir (by omega)) (ready_mono hnr (Ne.symm hne)) hK hw' hd'
      rwa [Array.setIfInBounds_comm _ _ hne] at this

/-- What the making reads is there as soon as it may come up. -/
theorem BU.reads {n g : Nat} {E A : Act → Prop} (hE : ∀ a, E a → A a) (hA : ∀ i o a v, i < n → ops[i]? = some o → Region.waitsFor md ops n i = false → A (a.put o.dst v) → A a) (f : Nat) :
    ∀ (ls : Array Bool) (a : Act), n ∈ Region.ready md ops ls → HU P md ops W n g E f ls a → A a := by
  induction f with
  | zero => intro ls a _ h; exact hE _ h.2
  | succ f ih =>
    intro ls a hnr h
    obtain ⟨⟨i0, hi0, hl0⟩, hall⟩ := h
    obtain ⟨hiu, oi, hoi, _⟩ := mem_ready.1 hi0
    obtain ⟨v, _, hK⟩ := yU_of hoi (hall i0 hi0 (by omega)).2
    exact hA i0 oi a v hl0 hoi (not_waits hnr hiu) (ih _ _ (ready_mono hnr (by omega)) hK)

theorem BU.any {n g : Nat} {E A : Act → Prop} {oa : Oper} {O : Obj} {mk : Nat → Value} {D : Nat → World → Prop} {Q : Exit → Act → World → Prop} (hoa : ops[n]? = some oa) (hsel : Region.noSelect ops = true)
    (hs : Region.sinkB md ops (n + 1) = true) (hc : Region.chainB md ops (n + 1) = true) (hn : n + 1 < ops.size)
    (hnw : ∀ j, j < n → Region.waitsFor md ops j n = false) (hap : ∀ j oj, j < n → ops[j]? = some oj → Region.waitsFor md ops n j = false → oa.apart ops oj = true)
    (hD : ∀ b w w', D b w → Below w.heap.size w w' → D b w') (hD0 : ∀ w : World, W.heap.size ≤ w.heap.size → D w.heap.size (w.alloc O))
    (hE : ∀ a, E a → A a) (hA : ∀ i o a v, i < n → ops[i]? = some o → Region.waitsFor md ops n i = false → A (a.put o.dst v) → A a)
    (hal : ∀ (a : Act) (w : World) (K : Act → World → Prop), A a → K (a.put oa.dst (mk w.heap.size)) (w.alloc O) → wpOp P ops Q n K a w)
    (hend : ∀ b ls a w, Region.seqB md ops g (n + 1) ls = true → Below W.heap.size W w → D b w → E a → wpAny P md ops Q g ls (a.put oa.dst (mk b)) w) (f : Nat) :
    ∀ (ls : Array Bool) (a : Act) (w : World), HeadInv md ops (n + 1) ls → ls.getD n true = false → HU P md ops W n (g + 1) E f ls a → Below W.heap.size W w → wpAny P md ops Q (f + (g + 1)) ls a w := by
  have made : ∀ (f : Nat) (ls : Array Bool) (a : Act) (w : World), HeadInv md ops (n + 1) ls → n ∈ Region.ready md ops ls → HU P md ops W n (g + 1) E f ls a → Below W.heap.size W w →
      wpOp P ops Q n (wpAny P md ops Q (f + g) (ls.setIfInBounds n true)) a w := fun f ls a w inv hnr h hw =>
    hal _ _ _ (BU.reads hE hA f ls a hnr h) (BU.after hoa hsel hs hc hn hnw hap (hD w.heap.size) (hend w.heap.size) f ls a _ inv hnr h (hw.trans ((below_alloc w O).mono hw.size)) (hD0 w hw.size))
  induction f with
  | zero =>
    intro ls a w inv hun h hw
    have hsq : (decide (Region.ready md ops ls = [n]) && Region.seqB md ops g (n + 1) (ls.setIfInBounds n true)) = true := h.1
    rw [Bool.and_eq_true, decide_eq_true_eq] at hsq
    rw [Nat.zero_add]
    refine ⟨fun h0 => ?_, fun i hi => ?_⟩
    · rw [hsq.1] at h0; simp at h0
    · have hi' := hi
      rw [hsq.1] at hi'
      obtain rfl : i = n := by simpa using hi'
      have := made 0 ls a w inv hi h hw
      rwa [Nat.zero_add] at this
  | succ f ih =>
    intro ls a w inv hun h hw
    rw [show f + 1 + (g + 1) = (f + 1 + g) + 1 by omega]
    refine ⟨fun h0 => ?_, fun i hi => ?_⟩
    · obtain ⟨⟨i0, hi0, _⟩, _⟩ := h
      rw [h0] at hi0; simp at hi0
    · by_cases hin : i = n
      · subst hin; exact made (f + 1) ls a w inv hi h hw
      · obtain ⟨hlt, hq⟩ := h.2 i hi hin
        obtain ⟨_, oi, hoi, _⟩ := mem_ready.1 hi
        refine qU_wp0 hoi hq hw (fun a' w' hw' hK => ?_)
        have := ih (ls.setIfInBounds i true) a' w' (inv.set hi (by omega)) (by rw [getD_set_ne true hin]; exact hun) hK hw'
        rwa [show f + (g + 1) = f + 1 + g by omega] at this

theorem region_built {id : Nat} {Q : Exit → Act → World → Prop} {a : Act} {w : World} {l : List Oper} (n : Nat) (oa : Oper) (O : Obj) (mk : Nat → Value) (A : Act → Prop) (D : Nat → World → Prop) (hm : P.follows .mixedOrders = true) (hB : builtB .any l.toArray n = true)
    (hoa : l.toArray[n]? = some oa) (hA : ∀ i o a v, i < n → l.toArray[i]? = some o → Region.waitsFor .any l.toArray n i = false → A (a.put o.dst v) → A a)
    (hal : ∀ (a : Act) (w : World) (K : Act → World → Prop), A a → K (a.put oa.dst (mk w.heap.size)) (w.alloc O) → wpOp P l.toArray Q n K a w)
    (hD : ∀ b w w', D b w → Below w.heap.size w w' → D b w') (hD0 : ∀ w' : World, w.heap.size ≤ w'.heap.size → D w'.heap.size (w'.alloc O))
    (h : wpU P l.toArray w (fun a' => A a' ∧ ∀ b w', Below w.heap.size w w' → D b w' → wpList P l.toArray Q (l.drop (n + 1)) (a'.put oa.dst (mk b)) w') (l.take n) a) :
    (Code.region id l.toArray true).wp P Q a w := by
  unfold builtB at hB
  rw [Bool.and_eq_true, Bool.and_eq_true, Bool.and_eq_true, Bool.and_eq_true, Bool.and_eq_true, Bool.and_eq_true, decide_eq_true_eq] at hB
  obtain ⟨⟨⟨⟨⟨⟨hsel, hn⟩, hs⟩, hc⟩, hx⟩, hnw⟩, hap⟩ := hB
  have hsz : l.toArray.size = l.length := by simp
  have htl : (l.take n).length = n := by rw [List.length_take]; omega
  have hdl : (l.drop (n + 1)).length = l.toArray.size - (n + 1) := by rw [List.length_drop, hsz]
  have hg : l.toArray.size - n = l.toArray.size - (n + 1) + 1 := by omega
  have hun : (Array.replicate l.toArray.size false).getD n true = false := getD_in (by simp; omega) (getD_replicate_false _ _)
  have inv : HeadInv .any l.toArray (n + 1) (Array.replicate l.toArray.size false) :=
    ⟨by simp, fun j oj _ hl => by rw [getD_replicate_false] at hl; exact Bool.noConfusion hl, fun t _ ht => getD_in (by simpa using ht) (getD_replicate_false _ _)⟩
  have H := HU.lex (g := l.toArray.size - n) hsel hs hc hn (l.take n) 0 _ a (fun j hj => by rw [htl] at hj; simp [hj]) (by omega) inv (by rw [htl]; exact hx) h
  rw [hg] at H
  have H2 := BU.any (Q := Q) (mk := mk) hoa hsel hs hc hn (fun j hj => by
      have := List.all_eq_true.1 hnw j (List.mem_range.2 hj)
      simpa using this) (fun j oj hj hoj hw => by
      have := List.all_eq_true.1 hap j (List.mem_range.2 hj)
      rw [hw, hoj, hoa, Bool.false_or] at this; exact this) hD hD0 (fun a h => h.1) hA hal (fun b ls a' w' hsq hw' hd hE => by
      have := wpAny_of_seq (md := .any) (Q' := Q) (l.drop (n + 1)) (n + 1) ls (a'.put oa.dst (mk b)) w' (fun j => by simp [List.getElem?_drop]) (by rw [hdl]; exact hsq) (hE.2 b w' hw' hd)
      rwa [hdl] at this) _ _ _ { w with drawn := w.drawn + 1 } inv hun H ⟨rfl, rfl, rfl, Nat.le_refl _, fun _ _ => rfl⟩
  rw [htl, ← hg, show n + (l.toArray.size - n) = l.toArray.size by omega] at H2
  exact wp_region_any hm H2
end

end Go.Proofs.Ytfeeikajekemlaa
