/-
  Rows of bytes that a call owns: made, appended to, turned into a text. 82, 5, 9 stand for the numbers of the types []byte, byte and string at this seat. Conditions: as said (at most 100000000 bytes).
-/
import Derived.Test.YtbknflaooemigaaBuilt
import Derived.Test.YtbknflaooemigaaRows
import Derived.OwnWalk
import Derived.Laws.BytesArg
import Derived.Lib.AppendStr
namespace Go.Proofs.Ytbknflaooemigaa
open Go.RowKit
set_option linter.unusedVariables false

/-- A byte as the program holds it. -/
abbrev byt (c : UInt8) : Value := .int .u8 (c.toNat : Nat)

theorem Try.info5 : (Try.prog.info? 5).map (fun i => (i.zero, i.size, i.bytes)) = some (some (.int .u8 0), 1, 1) := by kernel_rfl

/-- A row of bytes that the call owns. -/
def Own (w : World) (B : Nat) (v : Value) (l : List UInt8) : Prop := w.ownsRow B 5 1 v l.length (l.map byt)

theorem own_more {w' : World} {B : Nat} {v' : Value} {l m : List UInt8} {k : Nat} {news : List Value} (h : w'.ownsRow B 5 1 v' (l.length + k) (l.map byt ++ news)) (hk : m.length = k) (hm : news = m.map byt) : Own w' B v' (l ++ m) := by
  subst hk hm
  unfold Own
  rw [List.length_append, List.map_append]
  exact h

theorem own_carry {w w' : World} {B : Nat} {v : Value} {l : List UInt8} (h : Own w B v l) (hb : Below w.heap.size w w') : Own w' B v l :=
  World.ownsRow.kept h (row := none) ⟨hb.os, hb.tape, hb.output, hb.size, fun k hk _ => hb.block k hk⟩ (by cases hv : v.ownBlock <;> simp)

/-- Values that lie at the head of a block. -/
def Lies (cs : List Value) (b : Nat) (w : World) : Prop := b < w.heap.size ∧ ∀ j u, cs[j]? = some u → w.cell? ((⟨b, 0, none⟩ : Addr).add j) = some u

theorem plain_add (b o : Nat) : (⟨b, 0, none⟩ : Addr).add o = ⟨b, o, none⟩ := by unfold Addr.add; split <;> simp_all

theorem Lies.carry {cs : List Value} {b : Nat} {w w' : World} (h : Lies cs b w) (hb : Below w.heap.size w w') : Lies cs b w' := by
  refine ⟨Nat.lt_of_lt_of_le h.1 hb.size, fun j u hj => ?_⟩
  have := h.2 j u hj
  rw [plain_add] at this ⊢
  exact cell_carry hb this

theorem Lies.made {news : Array Value} {cs : List Value} (w : World) (h : news.toList = cs) : Lies cs w.heap.size (w.alloc (.cells news 5)) := by
  subst h
  refine ⟨by simp, fun j u hj => ?_⟩
  have hsz : j < news.size := by
    rcases Nat.lt_or_ge j news.size with h | h
    · exact h
    · rw [List.getElem?_eq_none (by simpa using h)] at hj; cases hj
  rw [plain_add]
  simp at hj
  simp [go_sem, hj]

theorem wpList_app2 {ops : Array Oper} {rest : List Oper} {o : Oper} {a : Act} {Q : Exit → Act → World → Prop} {w : World} (hgd : o.guard = none) (s x : Operand)
    (ho : o.op = .call { callee := .builtin .append, args := #[s, x], argTypes := #[82, 82] }) (B : Nat) (v : Value) (l m : List UInt8) (k b : Nat) (hs : a.eval s = v)
    (hx : a.eval x = .slice (some ⟨b, 0, none⟩) k k) (hk : m.length = k) (hm : Lies (m.map byt) b w) (hown : Own w B v l) (hB : B ≤ w.heap.size) (hl : l.length + k ≤ 100000000)
    (h : ∀ v' w', Own w' B v' (l ++ m) → Below B w w' → wpList Try.prog ops Q rest (a.put o.dst v') w') : wpList Try.prog ops Q (o :: rest) a w := by
  obtain ⟨i0, hi0, hz0, hz1, hz2⟩ := info_parts Try.info5
  have hown' : w.ownsRow B 5 1 v l.length (l.map byt) := hown
  refine wpList_append_own _ hgd s x 82 ho B 5 i0 (.int .u8 0) 1 1 Try.underlying82 hi0 hz0 hz1 hz2 rfl (by decide) v l.length (l.map byt) hs hown' ⟨b, 0, none⟩ k k (m.map byt) hx (by simp [hk]) hm.2 ?_ ?_ ?_ ?_ ?_
  · intro u hu
    obtain ⟨c, _, rfl⟩ := List.mem_map.1 hu
    rfl
  · unfold maxLen; omega
  · omega
  · exact hB
  · intro v' w' h1 h2 _
    exact h v' w' (own_more h1 hk rfl) ((Below.refl B w).grown h2 hB fun r hr => (hown'.lt r hr).1)

theorem wpList_app {ops : Array Oper} {rest : List Oper} {o : Oper} {a : Act} {Q : Exit → Act → World → Prop} {w : World} {news : Array Value} (hgd : o.guard = none) (s x : Operand)
    (ho : o.op = .call { callee := .builtin .append, args := #[s, x], argTypes := #[82, 82] }) (B : Nat) (v : Value) (l m : List UInt8) (k : Nat) (hs : a.eval s = v)
    (hx : a.eval x = .slice (some ⟨w.heap.size, 0, none⟩) k k) (hk : m.length = k) (hm : news.toList = m.map byt) (hown : Own w B v l) (hB : B ≤ w.heap.size) (hl : l.length + k ≤ 100000000)
    (h : ∀ v' w', Own w' B v' (l ++ m) → Below B w w' → wpList Try.prog ops Q rest (a.put o.dst v') w') : wpList Try.prog ops Q (o :: rest) a (w.alloc (.cells news 5)) :=
  wpList_app2 hgd s x ho B v l m k w.heap.size hs hx hk (Lies.made w hm) (own_carry hown (below_alloc w _)) (by simp; omega) hl fun v' w' h1 h2 =>
    h v' w' h1 (((below_alloc w _).mono hB).trans h2)

/-- The text of an owned row. -/
theorem own_text {w : World} {B : Nat} {v : Value} {l : List UInt8} (h : Own w B v l) : (convert 82 9 v).run Try.prog w = .ok (.string (bs l)) w := by
  rcases h.2 with ⟨rfl, hn⟩ | ⟨g, cap, cur, rfl, h2⟩
  · obtain rfl : l = [] := List.eq_nil_of_length_eq_zero hn
    exact run_convert_bytes_nil (P := Try.prog) w 82 5 Try.underlying82 Try.underlying5 0 0 9 Try.underlying9
  · have hown : w.ownsRow B 5 1 (.slice (some ⟨g, 0, none⟩) l.length cap) l.length (l.map byt) := h
    have := run_convert_bytes_arg (P := Try.prog) w 82 5 Try.underlying82 Try.underlying5 g 0 l.length cap (l.map fun c => ((c.toNat : Nat) : Int)) (by simp) (fun i hi => by
      rw [Nat.zero_add, hown.cellAt i (by omega)]
      simp [List.getD, hi]) 9 Try.underlying9
    rw [this]
    have e : strOfNums (l.map fun c => ((c.toNat : Nat) : Int)) = bs l := by
      apply bytes_eq
      rw [bs_list]
      simp [strOfNums, Function.comp_def]
    rw [e]

theorem wpList_make0 {ops : Array Oper} {rest : List Oper} {o : Oper} {a : Act} {Q : Exit → Act → World → Prop} {w : World} (hgd : o.guard = none) (l c : Operand) (ho : o.op = Op.makeSlice 82 l c)
    (B n : Nat) (C : Int) (hl : a.eval l = .int .i64 0) (hc : a.eval c = .int .i64 C) (hC : C = (n : Int)) (hn : n ≤ 100000000) (hB : B ≤ w.heap.size)
    (h : ∀ v' w', Own w' B v' [] → Below B w w' → wpList Try.prog ops Q rest (a.put o.dst v') w') : wpList Try.prog ops Q (o :: rest) a w := by
  obtain ⟨i0, hi0, hz0, hz1, hz2⟩ := info_parts Try.info5
  refine wpList_make_own w hgd l c 82 ho B 5 i0 (.int .u8 0) 1 Try.underlying82 hi0 hz0 hz1 .i64 .i64 C n hl hc hC (by rw [hz2]; omega) (by unfold maxLen; omega) hB ?_
  intro w' h1 h2
  exact h _ w' h1 ((Below.refl B w).grown h2 hB fun r hr => by cases hr)

theorem wpList_apps {ops : Array Oper} {rest : List Oper} {o : Oper} {a : Act} {Q : Exit → Act → World → Prop} {w : World} (hgd : o.guard = none) (s x : Operand)
    (ho : o.op = .call { callee := .builtin .append, args := #[s, x], argTypes := #[82, 9] }) (B : Nat) (v : Value) (l m : List UInt8) (hs : a.eval s = v)
    (hx : a.eval x = .string (bs m)) (hown : Own w B v l) (hB : B ≤ w.heap.size) (hl : l.length + m.length ≤ 100000000)
    (h : ∀ v' w', Own w' B v' (l ++ m) → Below B w w' → wpList Try.prog ops Q rest (a.put o.dst v') w') : wpList Try.prog ops Q (o :: rest) a w := by
  obtain ⟨i0, hi0, hz0, hz1, hz2⟩ := info_parts Try.info5
  have hown' : w.ownsRow B 5 1 v l.length (l.map byt) := hown
  refine Lib.wpList_append_own_string _ hgd s x 82 9 ho B 5 i0 Try.underlying82 Try.underlying9 hi0 hz0 hz1 hz2 v l.length (l.map byt) hs hown' (bs m) hx ?_ ?_ hB ?_
  · rw [bs_size]; unfold maxLen; omega
  · rw [bs_size]; omega
  · intro v' w' h1 h2 _
    exact h v' w' (own_more (m := m) h1 (bs_size m).symm (by simp [Lib.strCells, bs_list])) ((Below.refl B w).grown h2 hB fun r hr => (hown'.lt r hr).1)

theorem own_lit {w : World} {B : Nat} {news : Array Value} (m : List UInt8) (hm : news.toList = m.map byt) (hB : B ≤ w.heap.size) (k : Nat) (hk : m.length = k) (hk2 : k ≤ 100) : Own (w.alloc (.cells news 5)) B (.slice (some ⟨w.heap.size, 0, none⟩) k k) m := by
  subst hk
  have := World.ownsRow_lit (base := B) (e := 5) (size := 1) w news m.length hB (by unfold maxLen; omega) (by rw [← Array.length_toList, hm]; simp)
  rw [hm] at this
  exact this

end Go.Proofs.Ytbknflaooemigaa
