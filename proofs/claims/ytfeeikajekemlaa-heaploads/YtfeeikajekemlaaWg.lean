/-
  Contract of heap.lay. Conditions: as said.
-/
import Derived.Test.YtfeeikajekemlaaWb
import Derived.Deep.AppendLies
namespace Go.Proofs.Ytfeeikajekemlaa
open Go.RowKit
set_option linter.unusedVariables false
set_option linter.unusedSimpArgs false
set_option maxRecDepth 100000

theorem Try.info83 : (Try.prog.info? 83).map (fun i => (i.zero, i.size, i.bytes)) = some (some (.pointer none), 1, 8) := by kernel_rfl
theorem Try.info4 : (Try.prog.info? 4).map (fun i => (i.zero, i.size, i.bytes)) = some (some (.bool false), 1, 1) := by kernel_rfl

/-- append of one element of one cell to a row that is the heap's. -/
theorem wpList_app1 {ops : Array Oper} {rest : List Oper} {o : Oper} {a : Act} {Q : Exit → Act → World → Prop} {w : World} (hgd : o.guard = none) (t e : TypeId) (hte : (t = 66 ∧ e = 83) ∨ (t = 67 ∧ e = 4)) (s x : Operand)
    (ho : o.op = .call { callee := .builtin .append, args := #[s, x], argTypes := #[t, t] }) (v u : Value) (hu : u.oneCell' = true) (n b : Nat) (xs : List Value) (hs : a.eval s = v) (hx : a.eval x = .slice (some ⟨b, 0, none⟩) 1 1)
    (hb : w.cell? ⟨b, 0, none⟩ = some u) (hown : w.ownsRow 0 e 1 v n xs) (hn : n ≤ 1000000) (H : Nat) (hH : w.heap.size = H)
    (h : ∀ g cap w', w'.ownsRow 0 e 1 (.slice (some ⟨g, 0, none⟩) (n + 1) cap) (n + 1) (xs ++ [u]) → w.grownBy w' v.ownBlock → (v.ownBlock = some g ∨ g = H) → g < w'.heap.size →
      wpList Try.prog ops Q rest (a.put o.dst (.slice (some ⟨g, 0, none⟩) (n + 1) cap)) w') : wpList Try.prog ops Q (o :: rest) a w := by
  have hnews : ∀ (j : Nat) (y : Value), ([u] : List Value)[j]? = some y → w.cell? ((⟨b, 0, none⟩ : Addr).add j) = some y := by
    intro j y hj
    cases j with
    | zero => simp at hj; subst hj; rw [plain_add]; exact hb
    | succ j => simp at hj
  have h1 : ∀ y ∈ ([u] : List Value), y.oneCell' = true := by intro y hy; simp at hy; subst hy; exact hu
  rcases hte with ⟨rfl, rfl⟩ | ⟨rfl, rfl⟩
  · obtain ⟨i0, hi0, hz0, hz1, hz2⟩ := info_parts Try.info83
    exact wpList_append_lies w hgd s x 66 ho 0 83 i0 _ 1 8 Try.underlying66 hi0 hz0 hz1 hz2 rfl (by decide) v n xs hs hown ⟨b, 0, none⟩ 1 1 [u] hx rfl hnews h1 (by decide) (by unfold maxLen; omega) (by omega) (Nat.zero_le _) H hH h
  · obtain ⟨i0, hi0, hz0, hz1, hz2⟩ := info_parts Try.info4
    exact wpList_append_lies w hgd s x 67 ho 0 4 i0 _ 1 1 Try.underlying67 hi0 hz0 hz1 hz2 rfl (by decide) v n xs hs hown ⟨b, 0, none⟩ 1 1 [u] hx rfl hnews h1 (by decide) (by unfold maxLen; omega) (by omega) (Nat.zero_le _) H hH h

end Go.Proofs.Ytfeeikajekemlaa
