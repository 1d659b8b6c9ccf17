/-
  Plain facts that every seat's texts lean on: endings, worlds that grow, cells that stay, bytes as lists, regions that draw their order. No program is spoken of. Conditions: as said.
-/
import Derived.WalkKit
import Derived.WalkSpells
import Derived.WalkLawsBesides
import Derived.Lib.Hide
import Derived.Handy
import Derived.Below
import Derived.BigQuiet
import Derived.Deep.QuietTactic
import Derived.Lib.QuietBelow
import Derived.StillTail
namespace Go.Proofs.Ytfeeikajekemlaa
open Go.Sort Go.RowKit

theorem ret_int {k : IntKind} {a b : Int} (h : a = b) : Ending.returned (.int k a) = .returned (.int k b) := by rw [h]

theorem ret_bool {a b : Bool} (h : a = b) : Ending.returned (.bool a) = .returned (.bool b) := by rw [h]

theorem ret_two {k : IntKind} {a b : Int} {c : Bool} (h : a = b) : Ending.returned (.tuple #[.int k a, .bool c]) = .returned (.tuple #[.int k b, .bool c]) := by rw [h]

theorem bcell {W w1 : World} (hb : Below W.heap.size W w1) : (∀ b o, b < W.heap.size → w1.cell? ⟨b, o, none⟩ = W.cell? ⟨b, o, none⟩) ∧ (∀ b o, b < W.heap.size → w1.frozen? ⟨b, o, none⟩ = W.frozen? ⟨b, o, none⟩) :=
  ⟨fun b o h => hb.cell (p := ⟨b, o, none⟩) h, fun b o h => hb.frozen (p := ⟨b, o, none⟩) h⟩

theorem below_step {w W w' : World} (h : Below w.heap.size w W) (k : Below W.heap.size W w') : Below w.heap.size w w' := h.trans (k.mono h.size)

theorem same_below {P : Program} {f : FuncId} {args : Array Value} {v : Value} {w : World} (h : Calls P f args w fun e w' => e = .returned v ∧ w = w') :
    Calls P f args w fun e w' => e = .returned v ∧ Below w.heap.size w w' := h.mono fun _ _ ⟨he, hw⟩ => ⟨he, hw ▸ Below.refl _ _⟩

theorem cell_carry {w w' : World} {b o : Nat} {v : Value} (h : Below w.heap.size w w') (q : w.cell? ⟨b, o, none⟩ = some v) : w'.cell? ⟨b, o, none⟩ = some v := by
  rw [(bcell h).1 b o (block_lt_of_cell q)]; exact q

theorem froz_carry {w w' : World} {b o : Nat} {v : Value} (h : Below w.heap.size w w') (q : w.cell? ⟨b, o, none⟩ = some v) {o' : Nat} (f : w.frozen? ⟨b, o', none⟩ = false) : w'.frozen? ⟨b, o', none⟩ = false := by
  rw [(bcell h).2 b o' (block_lt_of_cell q)]; exact f

theorem below_alloc (w : World) (O : Obj) : Below w.heap.size w (w.alloc O) := by go_grown

theorem cell_alloc {w : World} {b o : Nat} {v : Value} (q : w.cell? ⟨b, o, none⟩ = some v) (O : Obj) : (w.alloc O).cell? ⟨b, o, none⟩ = some v := cell_carry (below_alloc w O) q

theorem froz_alloc {w : World} {b o : Nat} {v : Value} (q : w.cell? ⟨b, o, none⟩ = some v) {o' : Nat} (f : w.frozen? ⟨b, o', none⟩ = false) (O : Obj) : (w.alloc O).frozen? ⟨b, o', none⟩ = false := froz_carry (below_alloc w O) q f

theorem below_drewN (w : World) (n : Nat) : Below w.heap.size w (w.drewN n) := ⟨rfl, rfl, rfl, Nat.le_refl _, fun _ _ => rfl⟩

theorem cell_other {w : World} {b b' : Nat} (o o' : Nat) (v : Value) (h : ¬ b = b') : (w.setCell ⟨b', o', none⟩ v).cell? ⟨b, o, none⟩ = w.cell? ⟨b, o, none⟩ := by
  exact World.cell?_setCell_other (h := fun e => h (by injection e with e1; exact e1.symm)) ..

/-- Bytes as a string. -/
def bs (l : List UInt8) : ByteArray := ⟨l.toArray⟩

theorem bs_size (l : List UInt8) : (bs l).size = l.length := by simp [bs, ByteArray.size]

theorem bs_list (l : List UInt8) : (bs l).data.toList = l := by simp [bs]

theorem bs_eta (s : ByteArray) : bs s.data.toList = s := by simp [bs]

theorem bs_app (l m : List UInt8) : bs l ++ bs m = bs (l ++ m) := by
  apply ByteArray.ext
  simp [bs]

theorem take_snoc (s : ByteArray) (k : Nat) (h : k < s.size) : s.data.toList.take (k + 1) = s.data.toList.take k ++ [s[k]] := by
  rw [List.take_succ_eq_append_getElem (by simpa using h)]; rfl

theorem size_list (s : ByteArray) : s.data.toList.length = s.size := by simp

theorem head_list (s : ByteArray) (h : 0 < s.size) : s.data.toList.headD 0 = s[0] := by
  have := take_snoc s 0 h
  rw [← List.take_append_drop 1 s.data.toList, this]; rfl

theorem empty_of (s : ByteArray) (h : ¬ 0 < s.size) : s = { data := #[] } := by
  have h2 : s.data.size = 0 := by have : s.data.size = s.size := rfl; omega
  apply ByteArray.ext
  exact Array.eq_empty_of_size_eq_zero h2

theorem ext_list (s : ByteArray) (i j : Nat) : (s.extract i j).data.toList = (s.data.toList.drop i).take (j - i) := by
  rw [ByteArray.data_extract, Array.toList_extract, List.extract_eq_take_drop]

theorem get_list (s : ByteArray) (k : Nat) (h : k < s.size) : s.data.toList[k]? = some s[k] := by
  rw [List.getElem?_eq_getElem (by rw [size_list]; exact h)]; rfl

theorem byte_eq {c : UInt8} {n : Nat} (hn : n < 256) (h : ((c.toNat : Int) == n) = true) : c = UInt8.ofNat n := by
  apply UInt8.toNat_inj.1
  rw [UInt8.toNat_ofNat_of_lt' (by simpa using hn)]
  have := eq_of_beq h
  omega

theorem bytes_eq {s t : ByteArray} (h : s.data.toList = t.data.toList) : s = t := by
  apply ByteArray.ext
  exact Array.toList_inj.1 h

theorem byte_ne {c : UInt8} {n : Nat} (hn : n < 256) (h : c ≠ UInt8.ofNat n) : ((c.toNat : Int) == n) = false := by
  rw [beq_eq_false_iff_ne]
  intro e
  apply h
  apply UInt8.toNat_inj.1
  rw [UInt8.toNat_ofNat_of_lt' (by simpa using hn)]
  omega

theorem bne_of {a b : Int} (h : ¬ a = b) : (a != b) = true := by rw [bne_iff_ne]; exact h

theorem b_ne {c : UInt8} {n : Nat} (hn : n < 256) (h : c ≠ UInt8.ofNat n) : ((c.toNat : Int) != n) = true := by
  rw [bne, byte_ne hn h]; rfl

section
variable {P : Program} {ops : Array Oper} {md : Region.Mode} {C : World → Prop}

/-- The head of the region, f operations still to come, in whatever order; E is asked behind them. -/
def Head (P : Program) (md : Region.Mode) (ops : Array Oper) (C : World → Prop) (n : Nat) (E : Array Bool → Act → Prop) : Nat → Array Bool → Act → Prop
  | 0, ls, a => E ls a
  | f + 1, ls, a => (∃ i, i ∈ Region.ready md ops ls) ∧ ∀ i, i ∈ Region.ready md ops ls → i < n ∧ qOp P ops C i (Head P md ops C n E f (ls.setIfInBounds i true)) a

theorem Head.any {n g : Nat} {E : Array Bool → Act → Prop} {Q : Exit → Act → World → Prop} (hE : ∀ ls a w, C w → E ls a → wpAny P md ops Q g ls a w) (f : Nat) :
    ∀ (ls : Array Bool) (a : Act) (w : World), C w → Head P md ops C n E f ls a → wpAny P md ops Q (f + g) ls a w := by
  induction f with
  | zero => intro ls a w hw h; rw [Nat.zero_add]; exact hE _ _ _ hw h
  | succ f ih =>
    intro ls a w hw h
    rw [Nat.succ_add]
    obtain ⟨⟨i0, hi0⟩, h⟩ := h
    exact ⟨fun h0 => by rw [h0] at hi0; simp at hi0, fun i hi => wpOp_of_qOp hw (fun a' w' hw' h' => ih _ a' w' hw' h') (h i hi).2⟩

/-- What may come up now may come up first. -/
theorem Head.first {n i : Nat} {o : Oper} {v : Value} {E : Array Bool → Act → Prop} (ho : ops[i]? = some o) (hsel : Region.noSelect ops = true)
    (hs : Region.sinkB md ops n = true) (hc : Region.chainB md ops n = true) (hn : n < ops.size) (hin : i < n)
    (hend : ∀ ls a, E ls a → ∀ j, j ∈ Region.ready md ops ls → n ≤ j) (f : Nat) :
    ∀ (ls : Array Bool) (a : Act), HeadInv md ops n ls →
      (∀ j oj, ops[j]? = some oj → j ≠ i → ls.getD j true = false → (∀ e ∈ oj.after, Region.binds md e = true → e.on ≠ i) → o.apart ops oj = true) →
      i ∈ Region.ready md ops ls → YieldsIn P ops C o v a → Head P md ops C n E f (ls.setIfInBounds i true) (a.put o.dst v) → Head P md ops C n E (f + 1) ls a := by
  have nosel := Region.noSelect_spec hsel
  induction f with
  | zero =>
    intro ls a inv _ hr hy h
    refine ⟨⟨i, hr⟩, fun j hj => ?_⟩
    have hjn : j < n := Nat.lt_of_not_le fun hle => tail_waits hs hc hn inv _ i rfl hin (mem_ready.1 hr).1 j hle hj
    refine ⟨hjn, ?_⟩
    by_cases e : j = i
    · rw [e]; exact hy.qOp ho h
    · have := hend _ _ h j (ready_mono hj e); omega
  | succ f ih =>
    intro ls a inv hfree hr hy h
    refine ⟨⟨i, hr⟩, fun j hj => ?_⟩
    have hun := (mem_ready.1 hr).1
    have hjn : j < n := Nat.lt_of_not_le fun hle => tail_waits hs hc hn inv _ i rfl hin hun j hle hj
    refine ⟨hjn, ?_⟩
    by_cases e : j = i
    · rw [e]; exact hy.qOp ho h
    · obtain ⟨hju, oj, hoj, hall⟩ := mem_ready.1 hj
      have hap := hfree j oj hoj e hju (fun x hx hb hxi => by
        have h1 := hall x hx hb
        rw [hxi, getD_both hun] at h1
        exact Bool.noConfusion h1)
      have hmid := qOp_put hoj hap (fun cs b => nosel i o cs b ho) (fun cs b => nosel j oj cs b hoj) hy (h.2 j (ready_mono hj e)).2
      refine qOp_mono (fun a' h' => ih _ a' (inv.set hj hjn) ?_ (ready_mono hr (Ne.symm e)) h'.1 (by rw [Array.setIfInBounds_comm _ _ e]; exact h'.2)) hmid
      intro k ok hk hki hku hno
      refine hfree k ok hk hki ?_ hno
      by_cases hjk : j = k
      · rw [← hjk]; exact hju
      · rwa [getD_set_ne true hjk] at hku

theorem Head.lex {n g : Nat} {E : Act → Prop} (hsel : Region.noSelect ops = true) (hs : Region.sinkB md ops n = true) (hc : Region.chainB md ops n = true) (hn : n < ops.size) (l : List Oper) :
    ∀ (k : Nat) (ls : Array Bool) (a : Act), (∀ j, j < l.length → l[j]? = ops[k + j]?) → k + l.length = n → HeadInv md ops n ls → Region.lexHead md ops g l.length k ls = true →
      wpQuiet P ops C E l a → Head P md ops C n (fun ls' a' => Region.seqB md ops g n ls' = true ∧ E a') l.length ls a := by
  induction l with
  | nil =>
    intro k ls a _ hk _ hB h
    obtain rfl : k = n := hk
    exact ⟨hB, h⟩
  | cons o l ih =>
    intro k ls a hl hk inv hB h
    have hk' : k + (l.length + 1) = n := hk
    have ho : ops[k]? = some o := (hl 0 (Nat.zero_lt_succ _)).symm
    have hB' : ((Region.ready md ops ls).contains k && Region.free md ops ls k && Region.lexHead md ops g l.length (k + 1) (ls.setIfInBounds k true)) = true := hB
    rw [Bool.and_eq_true, Bool.and_eq_true] at hB'
    obtain ⟨⟨hr, hf⟩, hB'⟩ := hB'
    have hr' : k ∈ Region.ready md ops ls := by simpa using hr
    have hq : qOp P ops C k (wpQuiet P ops C E l) a := by unfold qOp; rw [ho]; exact h
    obtain ⟨v, hy, hK⟩ := yieldsIn_of_qOp ho hq
    refine Head.first ho hsel hs hc hn (by omega) (fun _ _ hE => seqB_ready hE.1) l.length ls a inv (Region.free_spec ho hf) hr' hy ?_
    exact ih (k + 1) _ _ (fun j hj => by have := hl (j + 1) (Nat.succ_lt_succ hj); rw [List.getElem?_cons_succ] at this; rw [this]; congr 1; omega) (by omega) (inv.set hr' (by omega)) hB' hK

theorem region_tail {id : Nat} {Q : Exit → Act → World → Prop} {a : Act} {w : World} {l : List Oper} (n : Nat) (hm : P.follows .mixedOrders = true) (hB : Region.lexTailB .any l.toArray n = true)
    (hC : C { w with drawn := w.drawn + 1 })
    (h : wpQuiet P l.toArray C (fun a' => ∀ w', C w' → wpList P l.toArray Q (l.drop n) a' w') (l.take n) a) : (Code.region id l.toArray true).wp P Q a w := by
  unfold Region.lexTailB at hB
  rw [Bool.and_eq_true, Bool.and_eq_true, Bool.and_eq_true, Bool.and_eq_true, decide_eq_true_eq] at hB
  obtain ⟨⟨⟨⟨hsel, hn⟩, hs⟩, hc⟩, hx⟩ := hB
  have hsz : l.toArray.size = l.length := by simp
  have htl : (l.take n).length = n := by rw [List.length_take]; omega
  have hdl : (l.drop n).length = l.toArray.size - n := by rw [List.length_drop, hsz]
  have inv : HeadInv .any l.toArray n (Array.replicate l.toArray.size false) :=
    ⟨by simp, fun j oj _ hl => by rw [getD_replicate_false] at hl; exact Bool.noConfusion hl, fun t _ ht => getD_in (by simpa using ht) (getD_replicate_false _ _)⟩
  have H := Head.lex (g := l.toArray.size - n) hsel hs hc hn (l.take n) 0 _ a (fun j hj => by rw [htl] at hj; simp [hj]) (by omega) inv (by rw [htl]; exact hx) h
  have H2 := Head.any (Q := Q) (g := l.toArray.size - n) (fun ls a' w' hw' hE => by
    have := wpAny_of_seq (md := .any) (Q' := Q) (l.drop n) n ls a' w' (fun j => by simp [List.getElem?_drop]) (by rw [hdl]; exact hE.1) (hE.2 w' hw')
    rwa [hdl] at this) _ _ _ _ hC H
  rw [htl, show n + (l.toArray.size - n) = l.toArray.size by omega] at H2
  exact wp_region_any hm H2

/-- The same, at the class 'w, with blocks laid behind it'. -/
theorem region_tail_below {id : Nat} {Q : Exit → Act → World → Prop} {a : Act} {w : World} {l : List Oper} (n : Nat) (hm : P.follows .mixedOrders = true) (hB : Region.lexTailB .any l.toArray n = true)
    (h : wpQuiet P l.toArray (fun w' => ∃ p : Regrown, w' = grow (redrawn w p.d) p.os) (fun a' => ∀ w', (∃ p : Regrown, w' = grow (redrawn w p.d) p.os) → wpList P l.toArray Q (l.drop n) a' w') (l.take n) a) :
    (Code.region id l.toArray true).wp P Q a w :=
  region_tail (C := fun w' => ∃ p : Regrown, w' = grow (redrawn w p.d) p.os) n hm hB ⟨⟨w.drawn + 1, #[]⟩, by rw [grow_empty]; rfl⟩ h
end

/-- What a call leaves: all that was there is as it was. -/
def Aft (w w' : World) : Prop := Below w.heap.size w w'

section
variable {P : Program} {ops : Array Oper} {md : Region.Mode} {W : World}

/-- One value, in every world that has grown out of W. -/
def Uni (P : Program) (W : World) (o : Oper) (a : Act) (v : Value) : Prop := ∀ w, (∃ p : Regrown, w = grow (redrawn W p.d) p.os) → o.quietAt P a (Aft w) w v
def qU (P : Program) (ops : Array Oper) (W : World) (i : Nat) (K : Act → Prop) (a : Act) : Prop :=
  match ops[i]? with
  | none => K a
  | some o => if Region.wanted o (yielded ops a.tmps) = true then ∃ v, Uni P W o a v ∧ K (a.put o.dst v) else K (a.put o.dst undef)
def wpU (P : Program) (ops : Array Oper) (W : World) (E : Act → Prop) : List Oper → Act → Prop
  | [], a => E a
  | o :: rest, a => if Region.wanted o (yielded ops a.tmps) = true then ∃ v, Uni P W o a v ∧ wpU P ops W E rest (a.put o.dst v) else wpU P ops W E rest (a.put o.dst undef)
theorem wpU_nil {E : Act → Prop} {a : Act} (h : E a) : wpU P ops W E [] a := h
theorem wpU_step {E : Act → Prop} {a : Act} {o : Oper} {rest : List Oper}
    (h : ∀ K : Act → Prop, (∀ a, wpU P ops W E rest a → K a) →
      if Region.wanted o (yielded ops a.tmps) = true then ∃ v, (∀ w, (∃ p : Regrown, w = grow (redrawn W p.d) p.os) → o.quietAt P a (Aft w) w v) ∧ K (a.put o.dst v) else K (a.put o.dst undef)) : wpU P ops W E (o :: rest) a :=
  h _ (fun _ h => h)

theorem qU_mono {i : Nat} {a : Act} {K K' : Act → Prop} (h : ∀ a, K a → K' a) (hh : qU P ops W i K a) : qU P ops W i K' a := by
  unfold qU at *
  split <;> rename_i ho <;> simp only [ho] at hh
  · exact h _ hh
  · split at hh
    · rename_i hw; rw [if_pos hw]; obtain ⟨v, h1, h2⟩ := hh; exact ⟨v, h1, h _ h2⟩
    · rename_i hw; rw [if_neg hw]; exact h _ hh

def YU (P : Program) (ops : Array Oper) (W : World) (o : Oper) (v : Value) (a : Act) : Prop :=
  (Region.wanted o (yielded ops a.tmps) = true ∧ Uni P W o a v) ∨ (¬ Region.wanted o (yielded ops a.tmps) = true ∧ v = undef)
theorem YU.q {i : Nat} {o : Oper} {v : Value} {a : Act} {K : Act → Prop} (hi : ops[i]? = some o) (hy : YU P ops W o v a) (h : K (a.put o.dst v)) : qU P ops W i K a := by
  unfold qU; simp only [hi]
  rcases hy with ⟨hw, hu⟩ | ⟨hw, rfl⟩
  · rw [if_pos hw]; exact ⟨v, hu, h⟩
  · rw [if_neg hw]; exact h
theorem yU_of {i : Nat} {o : Oper} {a : Act} {K : Act → Prop} (hi : ops[i]? = some o) (h : qU P ops W i K a) : ∃ v, YU P ops W o v a ∧ K (a.put o.dst v) := by
  unfold qU at h; simp only [hi] at h
  split at h
  · rename_i hw; obtain ⟨v, h1, h2⟩ := h; exact ⟨v, .inl ⟨hw, h1⟩, h2⟩
  · rename_i hw; exact ⟨undef, .inr ⟨hw, rfl⟩, h⟩
theorem YU.same {o : Oper} {v : Value} {a a' : Act} (hy : YU P ops W o v a) (he : execOp a'.eval o = execOp a.eval o) (hw : Region.wanted o (yielded ops a'.tmps) = Region.wanted o (yielded ops a.tmps)) : YU P ops W o v a' := by
  unfold YU Uni Oper.quietAt at *
  rw [he, hw]; exact hy
theorem qU_put {j : Nat} {oi oj : Oper} {v : Value} {K : Act → Prop} {a : Act} (hj : ops[j]? = some oj) (hap : oi.apart ops oj = true)
    (hsi : ∀ cs b, oi.op ≠ .select cs b) (hsj : ∀ cs b, oj.op ≠ .select cs b) (hy : YU P ops W oi v a) (h : qU P ops W j K (a.put oi.dst v)) :
    qU P ops W j (fun a' => YU P ops W oi v a' ∧ K (a'.put oi.dst v)) a := by
  obtain ⟨h1, h2, h3⟩ := Oper.apart_spec hap
  obtain ⟨u, hu, hk⟩ := yU_of hj h
  refine YU.q hj (hu.same (execOp_put oj hsj a oi.dst v h1).symm (wanted_put oj a oi.dst v h1).symm) ⟨?_, ?_⟩
  · exact hy.same (execOp_put oi hsi a oj.dst u h3) (wanted_put oi a oj.dst u h3)
  · rw [← Act.put_comm a v u h2]; exact hk

/-- f operations of the head are still to come, and the making. -/
def HU (P : Program) (md : Region.Mode) (ops : Array Oper) (W : World) (n g : Nat) (E : Act → Prop) : Nat → Array Bool → Act → Prop
  | 0, ls, a => Region.seqB md ops g n ls = true ∧ E a
  | f + 1, ls, a => (∃ i, i ∈ Region.ready md ops ls ∧ i < n) ∧ ∀ i, i ∈ Region.ready md ops ls → i ≠ n → i < n ∧ qU P ops W i (HU P md ops W n g E f (ls.setIfInBounds i true)) a

theorem HU.first {n g i : Nat} {o : Oper} {v : Value} {E : Act → Prop} (ho : ops[i]? = some o) (hsel : Region.noSelect ops = true)
    (hs : Region.sinkB md ops (n + 1) = true) (hc : Region.chainB md ops (n + 1) = true) (hn : n + 1 < ops.size) (hin : i < n) (f : Nat) :
    ∀ (ls : Array Bool) (a : Act), HeadInv md ops (n + 1) ls →
      (∀ j oj, ops[j]? = some oj → j ≠ i → ls.getD j true = false → (∀ e ∈ oj.after, Region.binds md e = true → e.on ≠ i) → o.apart ops oj = true) →
      i ∈ Region.ready md ops ls → YU P ops W o v a → HU P md ops W n g E f (ls.setIfInBounds i true) (a.put o.dst v) → HU P md ops W n g E (f + 1) ls a := by
  have nosel := Region.noSelect_spec hsel
  have low : ∀ (ls : Array Bool), HeadInv md ops (n + 1) ls → i ∈ Region.ready md ops ls → ∀ j, j ∈ Region.ready md ops ls → j ≠ n → j < n := fun ls inv hr j hj hjn => by
    have : ¬ n + 1 ≤ j := fun hle => tail_waits hs hc hn inv _ i rfl (by omega) (mem_ready.1 hr).1 j hle hj
    omega
  induction f with
  | zero =>
    intro ls a inv _ hr hy h
    refine ⟨⟨i, hr, hin⟩, fun j hj hjn => ⟨low ls inv hr j hj hjn, ?_⟩⟩
    by_cases e : j = i
    · rw [e]; exact hy.q ho h
    · have h1 := seqB_ready h.1 j (ready_mono hj e)
      have h2 := low ls inv hr j hj hjn
      omega
  | succ f ih =>
    intro ls a inv hfree hr hy h
    have hun := (mem_ready.1 hr).1
    refine ⟨⟨i, hr, hin⟩, fun j hj hjn => ⟨low ls inv hr j hj hjn, ?_⟩⟩
    by_cases e : j = i
    · rw [e]; exact hy.q ho h
    · obtain ⟨hju, oj, hoj, hall⟩ := mem_ready.1 hj
      have hap := hfree j oj hoj e hju (fun x hx hb hxi => by
        have h1 := hall x hx hb
        rw [hxi, getD_both hun] at h1
        exact Bool.noConfusion h1)
      have hjl := low ls inv hr j hj hjn
      have hmid := qU_put hoj hap (fun cs b => nosel i o cs b ho) (fun cs b => nosel j oj cs b hoj) hy (h.2 j (ready_mono hj e) hjn).2
      refine qU_mono (fun a' h' => ih _ a' (inv.set hj (by omega)) ?_ (ready_mono hr (Ne.symm e)) h'.1 (by rw [Array.setIfInBounds_comm _ _ e]; exact h'.2)) hmid
      intro k ok hk hki hku hno
      refine hfree k ok hk hki ?_ hno
      by_cases hjk : j = k
      · rw [← hjk]; exact hju
      · rwa [getD_set_ne true hjk] at hku

theorem HU.lex {n g : Nat} {E : Act → Prop} (hsel : Region.noSelect ops = true) (hs : Region.sinkB md ops (n + 1) = true) (hc : Region.chainB md ops (n + 1) = true) (hn : n + 1 < ops.size) (l : List Oper) :
    ∀ (k : Nat) (ls : Array Bool) (a : Act), (∀ j, j < l.length → l[j]? = ops[k + j]?) → k + l.length = n → HeadInv md ops (n + 1) ls → Region.lexHead md ops g l.length k ls = true →
      wpU P ops W E l a → HU P md ops W n g E l.length ls a := by
  induction l with
  | nil =>
    intro k ls a _ hk _ hB h
    obtain rfl : k = n := hk
    exact ⟨hB, h⟩
  | cons o l ih =>
    intro k ls a hl hk inv hB h
    have hk' : k + (l.length + 1) = n := hk
    have ho : ops[k]? = some o := (hl 0 (Nat.zero_lt_succ _)).symm
    have hB' : ((Region.ready md ops ls).contains k && Region.free md ops ls k && Region.lexHead md ops g l.length (k + 1) (ls.setIfInBounds k true)) = true := hB
    rw [Bool.and_eq_true, Bool.and_eq_true] at hB'
    obtain ⟨⟨hr, hf⟩, hB'⟩ := hB'
    have hr' : k ∈ Region.ready md ops ls := by simpa using hr
    have hq : qU P ops W k (wpU P ops W E l) a := by unfold qU; rw [ho]; exact h
    obtain ⟨v, hy, hK⟩ := yU_of ho hq
    refine HU.first ho hsel hs hc hn (by omega) l.length ls a inv (Region.free_spec ho hf) hr' hy ?_
    exact ih (k + 1) _ _ (fun j hj => by have := hl (j + 1) (Nat.succ_lt_succ hj); rw [List.getElem?_cons_succ] at this; rw [this]; congr 1; omega) (by omega) (inv.set hr' (by omega)) hB' hK

theorem quietUpon_mono {C C' : World → Prop} {w : World} {v : Value} (h : ∀ w', C w' → C' w') : ∀ {r : Result Next}, Oper.quietUpon P C w v r → Oper.quietUpon P C' w v r := by
  intro r hr
  cases r with
  | halt x w' => exact hr
  | ok n w' =>
    cases n <;> first | exact hr | exact ⟨hr.1, hr.2.mono fun _ _ ⟨h1, h2⟩ => ⟨h1, h _ h2⟩⟩

/-- An operation of the head, whatever stands in the made variable's slot. -/
theorem qU_wp {i : Nat} {oa oi : Oper} {p : Value} {K : Act → Prop} {K' : Act → World → Prop} {Q : Exit → Act → World → Prop} {a : Act} {w : World} {D : World → Prop} (hoi : ops[i]? = some oi) (hap : oa.apart ops oi = true)
    (hsi : ∀ cs b, oi.op ≠ .select cs b) (hD : ∀ w w', D w → Below w.heap.size w w' → D w') (h : qU P ops W i K a) (hw : Below W.heap.size W w) (hd : D w)
    (hk : ∀ a' w', Below W.heap.size W w' → D w' → K a' → K' (a'.put oa.dst p) w') : wpOp P ops Q i K' (a.put oa.dst p) w := by
  obtain ⟨h1, h2, h3⟩ := Oper.apart_spec hap
  obtain ⟨v, hy, hK⟩ := yU_of hoi h
  unfold wpOp
  simp only [hoi]
  rw [wanted_put oi a oa.dst p h1]
  rcases hy with ⟨hwa, hu⟩ | ⟨hwa, rfl⟩
  · rw [if_pos hwa]
    left
    refine Oper.wp_of_quiet (C := fun w' => Below W.heap.size W w' ∧ D w') (K := fun a'' => ∃ a', a'' = a'.put oa.dst p ∧ K a') ⟨hw, hd⟩ (fun a'' w' hc hK' => ?_) ⟨v, fun w1 hc => ?_, _, (Act.put_comm a p v h2), hK⟩
    · obtain ⟨a', rfl, hK'⟩ := hK'
      exact hk _ _ hc.1 hc.2 hK'
    · have := hu w1 (regrown_of_below hc.1)
      unfold Oper.quietAt at *
      rw [execOp_put oi hsi a oa.dst p h1]
      exact quietUpon_mono (fun w' ha => ⟨hc.1.trans ((show Below w1.heap.size w1 w' from ha).mono hc.1.size), hD _ _ hc.2 ha⟩) this
  · rw [if_neg hwa, Act.put_comm a p undef h2]
    exact hk _ _ hw hd hK

theorem qU_wp0 {i : Nat} {oi : Oper} {K : Act → Prop} {K' : Act → World → Prop} {Q : Exit → Act → World → Prop} {a : Act} {w : World} (hoi : ops[i]? = some oi) (h : qU P ops W i K a) (hw : Below W.heap.size W w)
    (hk : ∀ a' w', Below W.heap.size W w' → K a' → K' a' w') : wpOp P ops Q i K' a w := by
  obtain ⟨v, hy, hK⟩ := yU_of hoi h
  unfold wpOp
  simp only [hoi]
  rcases hy with ⟨hwa, hu⟩ | ⟨hwa, rfl⟩
  · rw [if_pos hwa]
    left
    refine Oper.wp_of_quiet (C := fun w' => Below W.heap.size W w') (K := K) hw (fun a' w' hc hK' => hk _ _ hc hK') ⟨v, fun w1 hc => ?_, hK⟩
    exact quietUpon_mono (fun w' ha => hc.trans ((show Below w1.heap.size w1 w' from ha).mono hc.size)) (hu w1 (regrown_of_below hc))
  · rw [if_neg hwa]
    exact hk _ _ hw hK

def freshB (md : Region.Mode) (ops : Array Oper) (n : Nat) : Bool :=
  Region.noSelect ops && decide (n + 1 < ops.size) && Region.sinkB md ops (n + 1) && Region.chainB md ops (n + 1) && Region.lexHead md ops (ops.size - n) n 0 (Array.replicate ops.size false) &&
  (List.range n).all (fun j => !Region.waitsFor md ops j n) && (List.range n).all (fun j => match ops[j]?, ops[n]? with
    | some oj, some oa => oa.apart ops oj
    | _, _ => false)

theorem HU.after {n g : Nat} {E : Act → Prop} {oa : Oper} {p : Value} {D : World → Prop} {Q : Exit → Act → World → Prop} (hoa : ops[n]? = some oa) (hno : oa.after = #[]) (hsel : Region.noSelect ops = true)
    (hs : Region.sinkB md ops (n + 1) = true) (hc : Region.chainB md ops (n + 1) = true) (hn : n + 1 < ops.size)
    (hnw : ∀ j, j < n → Region.waitsFor md ops j n = false) (hap : ∀ j oj, j < n → ops[j]? = some oj → oa.apart ops oj = true)
    (hD : ∀ w w', D w → Below w.heap.size w w' → D w')
    (hend : ∀ ls a w, Region.seqB md ops g (n + 1) ls = true → Below W.heap.size W w → D w → E a → wpAny P md ops Q g ls (a.put oa.dst p) w) (f : Nat) :
    ∀ (ls : Array Bool) (a : Act) (w : World), HeadInv md ops (n + 1) ls → ls.getD n true = false → HU P md ops W n (g + 1) E f ls a → Below W.heap.size W w → D w →
      wpAny P md ops Q (f + g) (ls.setIfInBounds n true) (a.put oa.dst p) w := by
  induction f with
  | zero =>
    intro ls a w inv hun h hw hd
    rw [Nat.zero_add]
    have hsq : (decide (Region.ready md ops ls = [n]) && Region.seqB md ops g (n + 1) (ls.setIfInBounds n true)) = true := h.1
    rw [Bool.and_eq_true] at hsq
    exact hend _ _ _ hsq.2 hw hd h.2
  | succ f ih =>
    intro ls a w inv hun h hw hd
    obtain ⟨⟨i0, hi0, hl0⟩, hall⟩ := h
    have hnr : n ∈ Region.ready md ops ls := mem_ready.2 ⟨hun, oa, hoa, fun e he => by rw [hno] at he; simp at he⟩
    have inv' := inv.set hnr (by omega)
    rw [Nat.succ_add]
    refine ⟨fun h0 => ?_, fun i hi => ?_⟩
    · have := ready_mono hi0 (show i0 ≠ n by omega)
      rw [h0] at this; simp at this
    · have hin' : ¬ n + 1 ≤ i := fun hle => tail_waits hs hc hn inv' _ i0 rfl (by omega) (mem_ready.1 (ready_mono hi0 (show i0 ≠ n by omega))).1 i hle hi
      obtain ⟨hiu, oi, hoi, hdeps⟩ := mem_ready.1 hi
      have hne : i ≠ n := fun e => by
        subst e
        have hsz : i < ls.size := by rw [inv.size]; omega
        simp [hsz] at hiu
      have hin : i < n := by omega
      have hir : i ∈ Region.ready md ops ls := mem_ready.2 ⟨by rwa [getD_set_ne true (Ne.symm hne)] at hiu, oi, hoi, fun e he hb => by
        have h1 := hdeps e he hb
        by_cases hen : e.on = n
        · have h2 : Region.waitsFor md ops i n = true := by
            unfold Region.waitsFor; simp only [hoi]
            exact Array.any_eq_true'.2 ⟨e, he, by rw [hb, hen]; simp⟩
          rw [hnw i hin] at h2; exact Bool.noConfusion h2
        · rwa [getD_set_ne false (fun x => hen x.symm)] at h1⟩
      refine qU_wp hoi (hap i oi hin hoi) (fun cs b => Region.noSelect_spec hsel i oi cs b hoi) hD (hall i hir hne).2 hw hd (fun a' w' hw' hd' hK => ?_)
      have := ih (ls.setIfInBounds i true) a' w' (inv.set hir (by omega)) (by rw [getD_set_ne true hne]; exact hun) hK hw' hd'
      rwa [Array.setIfInBounds_comm _ _ hne] at this

theorem HU.any {n g : Nat} {E : Act → Prop} {oa : Oper} {O : Obj} {D : Nat → World → Prop} {Q : Exit → Act → World → Prop} (hoa : ops[n]? = some oa) (hno : oa.after = #[]) (hsel : Region.noSelect ops = true)
    (hs : Region.sinkB md ops (n + 1) = true) (hc : Region.chainB md ops (n + 1) = true) (hn : n + 1 < ops.size)
    (hnw : ∀ j, j < n → Region.waitsFor md ops j n = false) (hap : ∀ j oj, j < n → ops[j]? = some oj → oa.apart ops oj = true)
    (hD : ∀ b w w', D b w → Below w.heap.size w w' → D b w') (hD0 : ∀ w : World, W.heap.size ≤ w.heap.size → D w.heap.size (w.alloc O))
    (hal : ∀ (a : Act) (w : World) (K : Act → World → Prop), K (a.put oa.dst (.pointer (some ⟨w.heap.size, 0, none⟩))) (w.alloc O) → wpOp P ops Q n K a w)
    (hend : ∀ b ls a w, Region.seqB md ops g (n + 1) ls = true → Below W.heap.size W w → D b w → E a → wpAny P md ops Q g ls (a.put oa.dst (.pointer (some ⟨b, 0, none⟩))) w) (f : Nat) :
    ∀ (ls : Array Bool) (a : Act) (w : World), HeadInv md ops (n + 1) ls → ls.getD n true = false → HU P md ops W n (g + 1) E f ls a → Below W.heap.size W w → wpAny P md ops Q (f + (g + 1)) ls a w := by
  have made : ∀ (f : Nat) (ls : Array Bool) (a : Act) (w : World), HeadInv md ops (n + 1) ls → ls.getD n true = false → HU P md ops W n (g + 1) E f ls a → Below W.heap.size W w →
      wpOp P ops Q n (wpAny P md ops Q (f + g) (ls.setIfInBounds n true)) a w := fun f ls a w inv hun h hw =>
    hal _ _ _ (HU.after hoa hno hsel hs hc hn hnw hap (hD w.heap.size) (hend w.heap.size) f ls a _ inv hun h (hw.trans ((below_alloc w O).mono hw.size)) (hD0 w hw.size))
  have hnr : ∀ ls : Array Bool, ls.getD n true = false → n ∈ Region.ready md ops ls := fun ls hun => mem_ready.2 ⟨hun, oa, hoa, fun e he => by rw [hno] at he; simp at he⟩
  induction f with
  | zero =>
    intro ls a w inv hun h hw
    have hsq : (decide (Region.ready md ops ls = [n]) && Region.seqB md ops g (n + 1) (ls.setIfInBounds n true)) = true := h.1
    rw [Bool.and_eq_true, decide_eq_true_eq] at hsq
    rw [Nat.zero_add]
    refine ⟨fun h0 => ?_, fun i hi => ?_⟩
    · rw [hsq.1] at h0; simp at h0
    · rw [hsq.1] at hi
      obtain rfl : i = n := by simpa using hi
      have := made 0 ls a w inv hun h hw
      rwa [Nat.zero_add] at this
  | succ f ih =>
    intro ls a w inv hun h hw
    rw [show f + 1 + (g + 1) = (f + 1 + g) + 1 by omega]
    refine ⟨fun h0 => ?_, fun i hi => ?_⟩
    · have := hnr ls hun; rw [h0] at this; simp at this
    · by_cases hin : i = n
      · subst hin; exact made (f + 1) ls a w inv hun h hw
      · obtain ⟨hlt, hq⟩ := h.2 i hi hin
        obtain ⟨_, oi, hoi, _⟩ := mem_ready.1 hi
        refine qU_wp0 hoi hq hw (fun a' w' hw' hK => ?_)
        have := ih (ls.setIfInBounds i true) a' w' (inv.set hi (by omega)) (by rw [getD_set_ne true hin]; exact hun) hK hw'
        rwa [show f + (g + 1) = f + 1 + g by omega] at this

theorem region_fresh {id : Nat} {Q : Exit → Act → World → Prop} {a : Act} {w : World} {l : List Oper} (n : Nat) (oa : Oper) (O : Obj) (D : Nat → World → Prop) (hm : P.follows .mixedOrders = true) (hB : freshB .any l.toArray n = true)
    (hoa : l.toArray[n]? = some oa) (hno : oa.after = #[])
    (hal : ∀ (a : Act) (w : World) (K : Act → World → Prop), K (a.put oa.dst (.pointer (some ⟨w.heap.size, 0, none⟩))) (w.alloc O) → wpOp P l.toArray Q n K a w)
    (hD : ∀ b w w', D b w → Below w.heap.size w w' → D b w') (hD0 : ∀ w' : World, w.heap.size ≤ w'.heap.size → D w'.heap.size (w'.alloc O))
    (h : wpU P l.toArray w (fun a' => ∀ b w', Below w.heap.size w w' → D b w' → wpList P l.toArray Q (l.drop (n + 1)) (a'.put oa.dst (.pointer (some ⟨b, 0, none⟩))) w') (l.take n) a) :
    (Code.region id l.toArray true).wp P Q a w := by
  unfold freshB at hB
  rw [Bool.and_eq_true, Bool.and_eq_true, Bool.and_eq_true, Bool.and_eq_true, Bool.and_eq_true, Bool.and_eq_true, decide_eq_true_eq] at hB
  obtain ⟨⟨⟨⟨⟨⟨hsel, hn⟩, hs⟩, hc⟩, hx⟩, hnw⟩, hap⟩ := hB
  have hsz : l.toArray.size = l.length := by simp
  have htl : (l.take n).length = n := by rw [List.length_take]; omega
  have hdl : (l.drop (n + 1)).length = l.toArray.size - (n + 1) := by rw [List.length_drop, hsz]
  have hg : l.toArray.size - n = l.toArray.size - (n + 1) + 1 := by omega
  have hun : (Array.replicate l.toArray.size false).getD n true = false := getD_in (by simp; omega) (getD_replicate_false _ _)
  have inv : HeadInv .any l.toArray (n + 1) (Array.replicate l.toArray.size false) :=
    ⟨by simp, fun j oj _ hl => by rw [getD_replicate_false] at hl; exact Bool.noConfusion hl, fun t _ ht => getD_in (by simpa using ht) (getD_replicate_false _ _)⟩
  have H := HU.lex (g := l.toArray.size - n) hsel hs hc hn (l.take n) 0 _ a (fun j hj => by rw [htl] at hj; simp [hj]) (by omega) inv (by rw [htl]; exact hx) h
  rw [hg] at H
  have H2 := HU.any (Q := Q) hoa hno hsel hs hc hn (fun j hj => by
      have := List.all_eq_true.1 hnw j (List.mem_range.2 hj)
      simpa using this) (fun j oj hj hoj => by
      have := List.all_eq_true.1 hap j (List.mem_range.2 hj)
      rw [hoj, hoa] at this; exact this) hD hD0 hal (fun b ls a' w' hsq hw' hd hE => by
      have := wpAny_of_seq (md := .any) (Q' := Q) (l.drop (n + 1)) (n + 1) ls (a'.put oa.dst (.pointer (some ⟨b, 0, none⟩))) w' (fun j => by simp [List.getElem?_drop]) (by rw [hdl]; exact hsq) (hE b w' hw' hd)
      rwa [hdl] at this) _ _ _ { w with drawn := w.drawn + 1 } inv hun H ⟨rfl, rfl, rfl, Nat.le_refl _, fun _ _ => rfl⟩
  rw [htl, ← hg, show n + (l.toArray.size - n) = l.toArray.size by omega] at H2
  exact wp_region_any hm H2

theorem wpOp_of {i : Nat} {o : Oper} {a : Act} {w : World} {K : Act → World → Prop} {Q : Exit → Act → World → Prop} (ho : ops[i]? = some o) (hg : o.guard = none) (h : o.wp P a w K Q) : wpOp P ops Q i K a w := by
  unfold wpOp
  simp only [ho]
  rw [if_pos (by unfold Region.wanted; rw [hg])]
  exact .inl h
end

end Go.Proofs.Ytfeeikajekemlaa
