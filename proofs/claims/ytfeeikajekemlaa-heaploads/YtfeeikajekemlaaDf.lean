/-
  The document's Add, whether there is room or not. Conditions: as said.
-/
import Derived.Test.YtfeeikajekemlaaDe
import Derived.Test.YtfeeikajekemlaaPm
namespace Go.Proofs.Ytfeeikajekemlaa
open Go.RowKit
set_option linter.unusedVariables false
set_option linter.unusedSimpArgs false

def addN (room : Nat) (m : M) (o : Ob) : M := if addB room m o = true then mkM m o else m
def addV (room : Nat) (m : M) (o : Ob) : Vl := if addB room m o = true then mkV m o else v0

theorem addd_any {P : Nat → Prop} {w : World} {a : Option Addr} {N c room : Nat} {m : M} (h : RL P w a N c m.L) (x : Oc) (o : Ob) (hl : Like P w x o) (hP : ∀ b, w.heap.size ≤ b → P b) (hx : x.text.size ≤ 100000) (hxn : x.n ≤ 100000) (hok : OkM room m) (hR : room ≤ 65536) :
    Calls Try.prog 48 #[.agg #[.int .i64 room, .int .i64 (m.cells : Nat), .slice a N c], ocV x] w (AddD P w room (addN room m o) (addV room m o) (addB room m o)) := by
  have hco : costC x = cost o := by unfold costC cost; rw [hl.kind, hl.text, hl.len]
  have hC : m.cells ≤ 65536 := by have := hok.fits; omega
  have hN : N ≤ 65536 := by
    obtain ⟨cs, h1, h2, h3⟩ := h
    have := costs_len m.L
    have := hok.sum
    omega
  cases hb : addB room m o with
  | true =>
    have hf : m.cells + cost o ≤ room := by simpa [addB] using hb
    rw [show addN room m o = mkM m o by unfold addN; rw [if_pos hb], show addV room m o = mkV m o by unfold addV; rw [if_pos hb]]
    exact addd_ok h x o hl hP hx hxn hC hR hN (by omega) hco
  | false =>
    have hf : room < m.cells + cost o := by
      have : ¬ m.cells + cost o ≤ room := by simpa [addB] using hb
      omega
    rw [show addN room m o = m by unfold addN; rw [hb]; simp, show addV room m o = v0 by unfold addV; rw [hb]; simp]
    exact addd_no h x hx hxn hC hR (by omega)

end Go.Proofs.Ytfeeikajekemlaa
