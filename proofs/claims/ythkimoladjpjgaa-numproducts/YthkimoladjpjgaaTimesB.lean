/-
  Contract of the document's product of two rows of eight digits (hindcastref01.Times). Conditions: each digit is from 0 to 255.
-/
import Derived.Test.YthkimoladjpjgaaTimesA
namespace Go.Proofs.Ythkimoladjpjgaa
open Go.RowKit

/-- What lies in memory at a row's head: both factors, the result's place, what is added up. -/
structure TCells (w : World) (a0 a1 a2 a3 a4 a5 a6 a7 b0 b1 b2 b3 b4 b5 b6 b7 o0 o1 o2 o3 o4 o5 o6 o7 : Int) (wr : World) : Prop where
  ca0 : wr.cell? ⟨w.heap.size, 0, none⟩ = some (.int .i64 a0)
  ca1 : wr.cell? ⟨w.heap.size, 1, none⟩ = some (.int .i64 a1)
  ca2 : wr.cell? ⟨w.heap.size, 2, none⟩ = some (.int .i64 a2)
  ca3 : wr.cell? ⟨w.heap.size, 3, none⟩ = some (.int .i64 a3)
  ca4 : wr.cell? ⟨w.heap.size, 4, none⟩ = some (.int .i64 a4)
  ca5 : wr.cell? ⟨w.heap.size, 5, none⟩ = some (.int .i64 a5)
  ca6 : wr.cell? ⟨w.heap.size, 6, none⟩ = some (.int .i64 a6)
  ca7 : wr.cell? ⟨w.heap.size, 7, none⟩ = some (.int .i64 a7)
  cb0 : wr.cell? ⟨w.heap.size + 1, 0, none⟩ = some (.int .i64 b0)
  cb1 : wr.cell? ⟨w.heap.size + 1, 1, none⟩ = some (.int .i64 b1)
  cb2 : wr.cell? ⟨w.heap.size + 1, 2, none⟩ = some (.int .i64 b2)
  cb3 : wr.cell? ⟨w.heap.size + 1, 3, none⟩ = some (.int .i64 b3)
  cb4 : wr.cell? ⟨w.heap.size + 1, 4, none⟩ = some (.int .i64 b4)
  cb5 : wr.cell? ⟨w.heap.size + 1, 5, none⟩ = some (.int .i64 b5)
  cb6 : wr.cell? ⟨w.heap.size + 1, 6, none⟩ = some (.int .i64 b6)
  cb7 : wr.cell? ⟨w.heap.size + 1, 7, none⟩ = some (.int .i64 b7)
  cr0 : wr.cell? ⟨w.heap.size + 1 + 1, 0, none⟩ = some (.int .i64 0)
  cr1 : wr.cell? ⟨w.heap.size + 1 + 1, 1, none⟩ = some (.int .i64 0)
  cr2 : wr.cell? ⟨w.heap.size + 1 + 1, 2, none⟩ = some (.int .i64 0)
  cr3 : wr.cell? ⟨w.heap.size + 1 + 1, 3, none⟩ = some (.int .i64 0)
  cr4 : wr.cell? ⟨w.heap.size + 1 + 1, 4, none⟩ = some (.int .i64 0)
  cr5 : wr.cell? ⟨w.heap.size + 1 + 1, 5, none⟩ = some (.int .i64 0)
  cr6 : wr.cell? ⟨w.heap.size + 1 + 1, 6, none⟩ = some (.int .i64 0)
  cr7 : wr.cell? ⟨w.heap.size + 1 + 1, 7, none⟩ = some (.int .i64 0)
  co0 : wr.cell? ⟨w.heap.size + 1 + 1 + 1, 0, none⟩ = some (.int .i64 o0)
  co1 : wr.cell? ⟨w.heap.size + 1 + 1 + 1, 1, none⟩ = some (.int .i64 o1)
  co2 : wr.cell? ⟨w.heap.size + 1 + 1 + 1, 2, none⟩ = some (.int .i64 o2)
  co3 : wr.cell? ⟨w.heap.size + 1 + 1 + 1, 3, none⟩ = some (.int .i64 o3)
  co4 : wr.cell? ⟨w.heap.size + 1 + 1 + 1, 4, none⟩ = some (.int .i64 o4)
  co5 : wr.cell? ⟨w.heap.size + 1 + 1 + 1, 5, none⟩ = some (.int .i64 o5)
  co6 : wr.cell? ⟨w.heap.size + 1 + 1 + 1, 6, none⟩ = some (.int .i64 o6)
  co7 : wr.cell? ⟨w.heap.size + 1 + 1 + 1, 7, none⟩ = some (.int .i64 o7)
  fr : ∀ q, wr.frozen? ⟨w.heap.size + 1 + 1, q, none⟩ = false
  fo : ∀ q, wr.frozen? ⟨w.heap.size + 1 + 1 + 1, q, none⟩ = false
  below : Below w.heap.size w wr

theorem far {w : World} {a b : Addr} {v x : Value} (h : a ≠ b) (k : w.cell? b = some x) : (w.setCell a v).cell? b = some x := (World.cell?_setCell_other w a b v h).trans k
theorem near {w : World} {a : Addr} {v x : Value} (k : w.cell? a = some x) : (w.setCell a v).cell? a = some v := World.cell?_setCell_same _ _ _ k
theorem ice {w : World} {a b : Addr} {v : Value} (k : w.frozen? b = false) : (w.setCell a v).frozen? b = false := by rw [World.frozen?_setCell]; exact k
theorem TCells.drew {w : World} {a0 a1 a2 a3 a4 a5 a6 a7 b0 b1 b2 b3 b4 b5 b6 b7 o0 o1 o2 o3 o4 o5 o6 o7 : Int} {wr : World} (h : TCells w a0 a1 a2 a3 a4 a5 a6 a7 b0 b1 b2 b3 b4 b5 b6 b7 o0 o1 o2 o3 o4 o5 o6 o7 wr) : TCells w a0 a1 a2 a3 a4 a5 a6 a7 b0 b1 b2 b3 b4 b5 b6 b7 o0 o1 o2 o3 o4 o5 o6 o7 wr.drew :=
  ⟨h.ca0, h.ca1, h.ca2, h.ca3, h.ca4, h.ca5, h.ca6, h.ca7, h.cb0, h.cb1, h.cb2, h.cb3, h.cb4, h.cb5, h.cb6, h.cb7, h.cr0, h.cr1, h.cr2, h.cr3, h.cr4, h.cr5, h.cr6, h.cr7, h.co0, h.co1, h.co2, h.co3, h.co4, h.co5, h.co6, h.co7, h.fr, h.fo, h.below.drew⟩
theorem TCells.drewN {w : World} {a0 a1 a2 a3 a4 a5 a6 a7 b0 b1 b2 b3 b4 b5 b6 b7 o0 o1 o2 o3 o4 o5 o6 o7 : Int} {wr : World} (h : TCells w a0 a1 a2 a3 a4 a5 a6 a7 b0 b1 b2 b3 b4 b5 b6 b7 o0 o1 o2 o3 o4 o5 o6 o7 wr) (n : Nat) : TCells w a0 a1 a2 a3 a4 a5 a6 a7 b0 b1 b2 b3 b4 b5 b6 b7 o0 o1 o2 o3 o4 o5 o6 o7 (wr.drewN n) :=
  ⟨h.ca0, h.ca1, h.ca2, h.ca3, h.ca4, h.ca5, h.ca6, h.ca7, h.cb0, h.cb1, h.cb2, h.cb3, h.cb4, h.cb5, h.cb6, h.cb7, h.cr0, h.cr1, h.cr2, h.cr3, h.cr4, h.cr5, h.cr6, h.cr7, h.co0, h.co1, h.co2, h.co3, h.co4, h.co5, h.co6, h.co7, h.fr, h.fo, ⟨h.below.os, h.below.tape, h.below.output, h.below.size, h.below.block⟩⟩
theorem TCells.set0 {w : World} {a0 a1 a2 a3 a4 a5 a6 a7 b0 b1 b2 b3 b4 b5 b6 b7 o0 o1 o2 o3 o4 o5 o6 o7 : Int} {wr : World} (h : TCells w a0 a1 a2 a3 a4 a5 a6 a7 b0 b1 b2 b3 b4 b5 b6 b7 o0 o1 o2 o3 o4 o5 o6 o7 wr) (v : Int) :
    TCells w a0 a1 a2 a3 a4 a5 a6 a7 b0 b1 b2 b3 b4 b5 b6 b7 v o1 o2 o3 o4 o5 o6 o7 (wr.setCell ⟨w.heap.size + 1 + 1 + 1, 0, none⟩ (.int .i64 v)) :=
  ⟨far (by simp) h.ca0, far (by simp) h.ca1, far (by simp) h.ca2, far (by simp) h.ca3, far (by simp) h.ca4, far (by simp) h.ca5, far (by simp) h.ca6, far (by simp) h.ca7, far (by simp) h.cb0, far (by simp) h.cb1, far (by simp) h.cb2, far (by simp) h.cb3, far (by simp) h.cb4, far (by simp) h.cb5, far (by simp) h.cb6, far (by simp) h.cb7, far (by simp) h.cr0, far (by simp) h.cr1, far (by simp) h.cr2, far (by simp) h.cr3, far (by simp) h.cr4, far (by simp) h.cr5, far (by simp) h.cr6, far (by simp) h.cr7, near h.co0, far (by simp) h.co1, far (by simp) h.co2, far (by simp) h.co3, far (by simp) h.co4, far (by simp) h.co5, far (by simp) h.co6, far (by simp) h.co7, fun q => ice (h.fr q), fun q => ice (h.fo q), h.below.setCell (by simp only; omega) _⟩
theorem TCells.set1 {w : World} {a0 a1 a2 a3 a4 a5 a6 a7 b0 b1 b2 b3 b4 b5 b6 b7 o0 o1 o2 o3 o4 o5 o6 o7 : Int} {wr : World} (h : TCells w a0 a1 a2 a3 a4 a5 a6 a7 b0 b1 b2 b3 b4 b5 b6 b7 o0 o1 o2 o3 o4 o5 o6 o7 wr) (v : Int) :
    TCells w a0 a1 a2 a3 a4 a5 a6 a7 b0 b1 b2 b3 b4 b5 b6 b7 o0 v o2 o3 o4 o5 o6 o7 (wr.setCell ⟨w.heap.size + 1 + 1 + 1, 1, none⟩ (.int .i64 v)) :=
  ⟨far (by simp) h.ca0, far (by simp) h.ca1, far (by simp) h.ca2, far (by simp) h.ca3, far (by simp) h.ca4, far (by simp) h.ca5, far (by simp) h.ca6, far (by simp) h.ca7, far (by simp) h.cb0, far (by simp) h.cb1, far (by simp) h.cb2, far (by simp) h.cb3, far (by simp) h.cb4, far (by simp) h.cb5, far (by simp) h.cb6, far (by simp) h.cb7, far (by simp) h.cr0, far (by simp) h.cr1, far (by simp) h.cr2, far (by simp) h.cr3, far (by simp) h.cr4, far (by simp) h.cr5, far (by simp) h.cr6, far (by simp) h.cr7, far (by simp) h.co0, near h.co1, far (by simp) h.co2, far (by simp) h.co3, far (by simp) h.co4, far (by simp) h.co5, far (by simp) h.co6, far (by simp) h.co7, fun q => ice (h.fr q), fun q => ice (h.fo q), h.below.setCell (by simp only; omega) _⟩
theorem TCells.set2 {w : World} {a0 a1 a2 a3 a4 a5 a6 a7 b0 b1 b2 b3 b4 b5 b6 b7 o0 o1 o2 o3 o4 o5 o6 o7 : Int} {wr : World} (h : TCells w a0 a1 a2 a3 a4 a5 a6 a7 b0 b1 b2 b3 b4 b5 b6 b7 o0 o1 o2 o3 o4 o5 o6 o7 wr) (v : Int) :
    TCells w a0 a1 a2 a3 a4 a5 a6 a7 b0 b1 b2 b3 b4 b5 b6 b7 o0 o1 v o3 o4 o5 o6 o7 (wr.setCell ⟨w.heap.size + 1 + 1 + 1, 2, none⟩ (.int .i64 v)) :=
  ⟨far (by simp) h.ca0, far (by simp) h.ca1, far (by simp) h.ca2, far (by simp) h.ca3, far (by simp) h.ca4, far (by simp) h.ca5, far (by simp) h.ca6, far (by simp) h.ca7, far (by simp) h.cb0, far (by simp) h.cb1, far (by simp) h.cb2, far (by simp) h.cb3, far (by simp) h.cb4, far (by simp) h.cb5, far (by simp) h.cb6, far (by simp) h.cb7, far (by simp) h.cr0, far (by simp) h.cr1, far (by simp) h.cr2, far (by simp) h.cr3, far (by simp) h.cr4, far (by simp) h.cr5, far (by simp) h.cr6, far (by simp) h.cr7, far (by simp) h.co0, far (by simp) h.co1, near h.co2, far (by simp) h.co3, far (by simp) h.co4, far (by simp) h.co5, far (by simp) h.co6, far (by simp) h.co7, fun q => ice (h.fr q), fun q => ice (h.fo q), h.below.setCell (by simp only; omega) _⟩
theorem TCells.set3 {w : World} {a0 a1 a2 a3 a4 a5 a6 a7 b0 b1 b2 b3 b4 b5 b6 b7 o0 o1 o2 o3 o4 o5 o6 o7 : Int} {wr : World} (h : TCells w a0 a1 a2 a3 a4 a5 a6 a7 b0 b1 b2 b3 b4 b5 b6 b7 o0 o1 o2 o3 o4 o5 o6 o7 wr) (v : Int) :
    TCells w a0 a1 a2 a3 a4 a5 a6 a7 b0 b1 b2 b3 b4 b5 b6 b7 o0 o1 o2 v o4 o5 o6 o7 (wr.setCell ⟨w.heap.size + 1 + 1 + 1, 3, none⟩ (.int .i64 v)) :=
  ⟨far (by simp) h.ca0, far (by simp) h.ca1, far (by simp) h.ca2, far (by simp) h.ca3, far (by simp) h.ca4, far (by simp) h.ca5, far (by simp) h.ca6, far (by simp) h.ca7, far (by simp) h.cb0, far (by simp) h.cb1, far (by simp) h.cb2, far (by simp) h.cb3, far (by simp) h.cb4, far (by simp) h.cb5, far (by simp) h.cb6, far (by simp) h.cb7, far (by simp) h.cr0, far (by simp) h.cr1, far (by simp) h.cr2, far (by simp) h.cr3, far (by simp) h.cr4, far (by simp) h.cr5, far (by simp) h.cr6, far (by simp) h.cr7, far (by simp) h.co0, far (by simp) h.co1, far (by simp) h.co2, near h.co3, far (by simp) h.co4, far (by simp) h.co5, far (by simp) h.co6, far (by simp) h.co7, fun q => ice (h.fr q), fun q => ice (h.fo q), h.below.setCell (by simp only; omega) _⟩
theorem TCells.set4 {w : World} {a0 a1 a2 a3 a4 a5 a6 a7 b0 b1 b2 b3 b4 b5 b6 b7 o0 o1 o2 o3 o4 o5 o6 o7 : Int} {wr : World} (h : TCells w a0 a1 a2 a3 a4 a5 a6 a7 b0 b1 b2 b3 b4 b5 b6 b7 o0 o1 o2 o3 o4 o5 o6 o7 wr) (v : Int) :
    TCells w a0 a1 a2 a3 a4 a5 a6 a7 b0 b1 b2 b3 b4 b5 b6 b7 o0 o1 o2 o3 v o5 o6 o7 (wr.setCell ⟨w.heap.size + 1 + 1 + 1, 4, none⟩ (.int .i64 v)) :=
  ⟨far (by simp) h.ca0, far (by simp) h.ca1, far (by simp) h.ca2, far (by simp) h.ca3, far (by simp) h.ca4, far (by simp) h.ca5, far (by simp) h.ca6, far (by simp) h.ca7, far (by simp) h.cb0, far (by simp) h.cb1, far (by simp) h.cb2, far (by simp) h.cb3, far (by simp) h.cb4, far (by simp) h.cb5, far (by simp) h.cb6, far (by simp) h.cb7, far (by simp) h.cr0, far (by simp) h.cr1, far (by simp) h.cr2, far (by simp) h.cr3, far (by simp) h.cr4, far (by simp) h.cr5, far (by simp) h.cr6, far (by simp) h.cr7, far (by simp) h.co0, far (by simp) h.co1, far (by simp) h.co2, far (by simp) h.co3, near h.co4, far (by simp) h.co5, far (by simp) h.co6, far (by simp) h.co7, fun q => ice (h.fr q), fun q => ice (h.fo q), h.below.setCell (by simp only; omega) _⟩
theorem TCells.set5 {w : World} {a0 a1 a2 a3 a4 a5 a6 a7 b0 b1 b2 b3 b4 b5 b6 b7 o0 o1 o2 o3 o4 o5 o6 o7 : Int} {wr : World} (h : TCells w a0 a1 a2 a3 a4 a5 a6 a7 b0 b1 b2 b3 b4 b5 b6 b7 o0 o1 o2 o3 o4 o5 o6 o7 wr) (v : Int) :
    TCells w a0 a1 a2 a3 a4 a5 a6 a7 b0 b1 b2 b3 b4 b5 b6 b7 o0 o1 o2 o3 o4 v o6 o7 (wr.setCell ⟨w.heap.size + 1 + 1 + 1, 5, none⟩ (.int .i64 v)) :=
  ⟨far (by simp) h.ca0, far (by simp) h.ca1, far (by simp) h.ca2, far (by simp) h.ca3, far (by simp) h.ca4, far (by simp) h.ca5, far (by simp) h.ca6, far (by simp) h.ca7, far (by simp) h.cb0, far (by simp) h.cb1, far (by simp) h.cb2, far (by simp) h.cb3, far (by simp) h.cb4, far (by simp) h.cb5, far (by simp) h.cb6, far (by simp) h.cb7, far (by simp) h.cr0, far (by simp) h.cr1, far (by simp) h.cr2, far (by simp) h.cr3, far (by simp) h.cr4, far (by simp) h.cr5, far (by simp) h.cr6, far (by simp) h.cr7, far (by simp) h.co0, far (by simp) h.co1, far (by simp) h.co2, far (by simp) h.co3, far (by simp) h.co4, near h.co5, far (by simp) h.co6, far (by simp) h.co7, fun q => ice (h.fr q), fun q => ice (h.fo q), h.below.setCell (by simp only; omega) _⟩
theorem TCells.set6 {w : World} {a0 a1 a2 a3 a4 a5 a6 a7 b0 b1 b2 b3 b4 b5 b6 b7 o0 o1 o2 o3 o4 o5 o6 o7 : Int} {wr : World} (h : TCells w a0 a1 a2 a3 a4 a5 a6 a7 b0 b1 b2 b3 b4 b5 b6 b7 o0 o1 o2 o3 o4 o5 o6 o7 wr) (v : Int) :
    TCells w a0 a1 a2 a3 a4 a5 a6 a7 b0 b1 b2 b3 b4 b5 b6 b7 o0 o1 o2 o3 o4 o5 v o7 (wr.setCell ⟨w.heap.size + 1 + 1 + 1, 6, none⟩ (.int .i64 v)) :=
  ⟨far (by simp) h.ca0, far (by simp) h.ca1, far (by simp) h.ca2, far (by simp) h.ca3, far (by simp) h.ca4, far (by simp) h.ca5, far (by simp) h.ca6, far (by simp) h.ca7, far (by simp) h.cb0, far (by simp) h.cb1, far (by simp) h.cb2, far (by simp) h.cb3, far (by simp) h.cb4, far (by simp) h.cb5, far (by simp) h.cb6, far (by simp) h.cb7, far (by simp) h.cr0, far (by simp) h.cr1, far (by simp) h.cr2, far (by simp) h.cr3, far (by simp) h.cr4, far (by simp) h.cr5, far (by simp) h.cr6, far (by simp) h.cr7, far (by simp) h.co0, far (by simp) h.co1, far (by simp) h.co2, far (by simp) h.co3, far (by simp) h.co4, far (by simp) h.co5, near h.co6, far (by simp) h.co7, fun q => ice (h.fr q), fun q => ice (h.fo q), h.below.setCell (by simp only; omega) _⟩
theorem TCells.set7 {w : World} {a0 a1 a2 a3 a4 a5 a6 a7 b0 b1 b2 b3 b4 b5 b6 b7 o0 o1 o2 o3 o4 o5 o6 o7 : Int} {wr : World} (h : TCells w a0 a1 a2 a3 a4 a5 a6 a7 b0 b1 b2 b3 b4 b5 b6 b7 o0 o1 o2 o3 o4 o5 o6 o7 wr) (v : Int) :
    TCells w a0 a1 a2 a3 a4 a5 a6 a7 b0 b1 b2 b3 b4 b5 b6 b7 o0 o1 o2 o3 o4 o5 o6 v (wr.setCell ⟨w.heap.size + 1 + 1 + 1, 7, none⟩ (.int .i64 v)) :=
  ⟨far (by simp) h.ca0, far (by simp) h.ca1, far (by simp) h.ca2, far (by simp) h.ca3, far (by simp) h.ca4, far (by simp) h.ca5, far (by simp) h.ca6, far (by simp) h.ca7, far (by simp) h.cb0, far (by simp) h.cb1, far (by simp) h.cb2, far (by simp) h.cb3, far (by simp) h.cb4, far (by simp) h.cb5, far (by simp) h.cb6, far (by simp) h.cb7, far (by simp) h.cr0, far (by simp) h.cr1, far (by simp) h.cr2, far (by simp) h.cr3, far (by simp) h.cr4, far (by simp) h.cr5, far (by simp) h.cr6, far (by simp) h.cr7, far (by simp) h.co0, far (by simp) h.co1, far (by simp) h.co2, far (by simp) h.co3, far (by simp) h.co4, far (by simp) h.co5, far (by simp) h.co6, near h.co7, fun q => ice (h.fr q), fun q => ice (h.fo q), h.below.setCell (by simp only; omega) _⟩

end Go.Proofs.Ythkimoladjpjgaa
