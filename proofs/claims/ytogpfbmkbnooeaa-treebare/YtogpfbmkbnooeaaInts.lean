/-
  Rows of ints that a call owns: made, appended to, read; rows of nodes at a known place. Conditions: as said (at most 100000000 elements).
-/
import Derived.Test.YtogpfbmkbnooeaaTr
namespace Go.Proofs.Ytogpfbmkbnooeaa
open Go.RowKit
set_option linter.unusedVariables false

/-- A row of nodes at a place. -/
def RowB (w : World) (b o : Nat) (l : List Nd) : Prop := ∀ i, i < l.length → At w b (o + i * 6) (nd l i) ∧ (nd l i).wf

theorem RowB.carry {w w' : World} {b o : Nat} {l : List Nd} (h : RowB w b o l) (hb : Below w.heap.size w w') : RowB w' b o l := fun i hi => ⟨(h i hi).1.carry hb, (h i hi).2⟩

theorem Row.block {w : World} {a : Option Addr} {l : List Nd} (h : Row w a l) (hl : l ≠ []) : ∃ b o, a = some ⟨b, o, none⟩ ∧ RowB w b o l := by
  obtain ⟨b, o, h1, _⟩ := h 0 (List.length_pos_iff.2 hl)
  refine ⟨b, o, h1, fun i hi => ?_⟩
  obtain ⟨b', o', h2, h3, h4⟩ := h i hi
  rw [h1] at h2
  cases h2
  exact ⟨h3, h4⟩

/-- An int as the program holds it. -/
abbrev itv (k : Nat) : Value := .int .i64 (k : Nat)

theorem Try.info3 : (Try.prog.info? 3).map (fun i => (i.zero, i.size, i.bytes)) = some (some (.int .i64 0), 1, 8) := by kernel_rfl

/-- A row of ints that the call owns. -/
def OwnI (w : World) (B : Nat) (v : Value) (l : List Nat) : Prop := w.ownsRow B 3 1 v l.length (l.map itv)

theorem ownI_nil (w : World) (B : Nat) : OwnI w B (.slice none 0 0) [] := World.ownsRow_nil w B 3 1
theorem ownI_carry {w w' : World} {B : Nat} {v : Value} {l : List Nat} (h : OwnI w B v l) (hb : Below w.heap.size w w') : OwnI w' B v l :=
  World.ownsRow.kept h (row := none) ⟨hb.os, hb.tape, hb.output, hb.size, fun k hk _ => hb.block k hk⟩ (by cases hv : v.ownBlock <;> simp)
theorem ownI_mono {w : World} {B B' : Nat} {v : Value} {l : List Nat} (h : OwnI w B v l) (hb : B' ≤ B) : OwnI w B' v l := by
  refine ⟨h.1, ?_⟩
  rcases h.2 with h2 | ⟨g, cap, cur, h1, h2, h3⟩
  · exact .inl h2
  · exact .inr ⟨g, cap, cur, h1, Nat.le_trans hb h2, h3⟩

theorem ownI_made {w : World} {B : Nat} (hB : B ≤ w.heap.size) : OwnI (w.alloc (.cells #[] 3)) B (.slice (some ⟨w.heap.size, 0, none⟩) 0 0) [] :=
  World.ownsRow_made w #[] 0 hB (by decide) rfl

/-- Its form. -/
theorem ownI_form {w : World} {B : Nat} {v : Value} {l : List Nat} (h : OwnI w B v l) : (v = .slice none 0 0 ∧ l = []) ∨ ∃ g cap, v = .slice (some ⟨g, 0, none⟩) l.length cap ∧ ∀ i, i < l.length → w.cell? ⟨g, i, none⟩ = some (itv (l.getD i 0)) := by
  rcases h.2 with ⟨rfl, hn⟩ | ⟨g, cap, cur, rfl, h2⟩
  · exact .inl ⟨rfl, List.eq_nil_of_length_eq_zero hn⟩
  · have hown : w.ownsRow B 3 1 (.slice (some ⟨g, 0, none⟩) l.length cap) l.length (l.map itv) := h
    refine .inr ⟨g, cap, rfl, fun i hi => ?_⟩
    rw [hown.cellAt i (by omega)]
    simp [List.getD, hi]

theorem wpList_appI {ops : Array Oper} {rest : List Oper} {o : Oper} {a : Act} {Q : Exit → Act → World → Prop} {w : World} {news : Array Value} (hgd : o.guard = none) (s x : Operand)
    (ho : o.op = .call { callee := .builtin .append, args := #[s, x], argTypes := #[25, 25] }) (B : Nat) (v : Value) (l : List Nat) (t : Nat) (b : Nat) (hbw : w.heap.size = b) (hs : a.eval s = v)
    (hx : a.eval x = .slice (some ⟨b, 0, none⟩) 1 1) (hm : news.toList = [itv t]) (hown : OwnI w B v l) (hB : B ≤ w.heap.size) (hl : l.length + 1 ≤ 100000000)
    (h : ∀ v' w', OwnI w' B v' (l ++ [t]) → Below B w w' → wpList Try.prog ops Q rest (a.put o.dst v') w') : wpList Try.prog ops Q (o :: rest) a (w.alloc (.cells news 3)) := by
  subst hbw
  obtain ⟨i0, hi0, hz0, hz1, hz2⟩ := info_parts Try.info3
  have hown' : (w.alloc (.cells news 3)).ownsRow B 3 1 v l.length (l.map itv) := ownI_carry hown (below_alloc w _)
  have hcell : ∀ j u, [itv t][j]? = some u → (w.alloc (.cells news 3)).cell? ((⟨w.heap.size, 0, none⟩ : Addr).add j) = some u := by
    intro j u hj
    rw [← hm] at hj
    rw [plain_add]
    simp at hj
    simp [go_sem, hj]
  refine wpList_append_own _ hgd s x 25 ho B 3 i0 _ 1 8 Try.underlying25 hi0 hz0 hz1 hz2 rfl (by decide) v l.length (l.map itv) hs hown' ⟨w.heap.size, 0, none⟩ 1 1 [itv t] hx (by simp) hcell ?_ ?_ ?_ ?_ ?_
  · intro u hu
    obtain rfl : u = itv t := by simpa using hu
    rfl
  · unfold maxLen; omega
  · omega
  · simp; omega
  · intro v' w' h1 h2 _
    refine h v' w' ?_ (((below_alloc w _).mono hB).trans ((Below.refl B _).grown h2 (by simp; omega) fun r hr => (hown'.lt r hr).1))
    unfold OwnI
    rw [List.length_append, List.map_append]
    exact h1

end Go.Proofs.Ytogpfbmkbnooeaa
