/-
  A call that lays objects, and a box of its own that it stores to behind that. Conditions: as said.
-/
import Derived.Test.YtfeeikajekemlaaWi
namespace Go.Proofs.Ytfeeikajekemlaa
open Go.RowKit
set_option linter.unusedVariables false
set_option linter.unusedSimpArgs false

theorem Hp.k0 {w : World} {own : Owns} {k p room : Nat} {m : M} (h : Hp w own k p room m) : k ≠ 0 := by obtain ⟨_, _, _, _, _, _, h⟩ := h; exact h.k0
theorem Hp.ok {w : World} {own : Owns} {k p room : Nat} {m : M} (h : Hp w own k p room m) : OkM room m := by obtain ⟨_, _, _, _, _, _, h⟩ := h; exact h.ok
theorem Hp.rm {w : World} {own : Owns} {k p room : Nat} {m : M} (h : Hp w own k p room m) : room ≤ 65536 := by obtain ⟨_, _, _, _, _, _, h⟩ := h; exact h.rm
theorem Hp.keep {w w' : World} {own own' : Owns} {j p room : Nat} {m : M} (h : Hp w own j p room m)
    (hg : w.heap.size ≤ w'.heap.size) (hos : w'.os = w.os) (ht : w'.tape = w.tape) (hou : w'.output = w.output) (hk : ∀ b, b < w.heap.size → ((own b).1 = j ∨ (own b).1 = 0) → own' b = own b ∧ w'.heap[b]? = w.heap[b]?) : Hp w' own' j p room m := by
  obtain ⟨vo, va, bl, vb, al, xs, h⟩ := h
  exact ⟨vo, va, bl, vb, al, xs, h.keep hg hos ht hou hk⟩

/-- The box of number q belongs to somebody else. -/
def ownQ (q k : Nat) (own : Owns) : Owns := fun b => if b = q then (k + 9, 0) else own b
theorem ownQ_q (q k : Nat) (own : Owns) : ownQ q k own q = (k + 9, 0) := by simp [ownQ]
theorem ownQ_ne {q k b : Nat} {own : Owns} (h : b ≠ q) : ownQ q k own b = own b := by simp [ownQ, h]
theorem hp_box {w w1 : World} {own : Owns} {k p room q : Nat} {m : M} (h : Hp w own k p room m) (fz : Fz w own) (hb : Below w.heap.size w w1) (hq : w.heap.size ≤ q) (hq2 : q < w1.heap.size) : Hp w1 (ownQ q k own) k p room m ∧ Fz w1 (ownQ q k own) := by
  refine ⟨h.keep hb.size hb.os hb.tape hb.output fun b hb' _ => ⟨ownQ_ne (by omega), hb.block b hb'⟩, fun b hb' => ?_⟩
  rw [ownQ_ne (by omega)]
  exact fz b (by have := hb.size; omega)
theorem made_q {w1 w' : World} {own : Owns} {k p room q : Nat} {m : M} (h : MadeP w1 (ownQ q k own) k p room m w') (hq2 : q < w1.heap.size) : w'.heap[q]? = w1.heap[q]? := by
  obtain ⟨own', _, _, hs⟩ := h
  exact hs.block q hq2 (by rw [ownQ_q]; simp)
theorem MadeP.size {w1 w' : World} {own : Owns} {k p room : Nat} {m : M} (h : MadeP w1 own k p room m w') : w1.heap.size ≤ w'.heap.size := by
  obtain ⟨own', _, _, hs⟩ := h
  exact hs.size
theorem made_box {w w1 w' w'' : World} {own : Owns} {k p room q : Nat} {m : M} (hb : Below w.heap.size w w1) (hq : w.heap.size ≤ q) (hq2 : q < w1.heap.size) (h : MadeP w1 (ownQ q k own) k p room m w') (hO : Oth (fun b => b = q) w' w'') : MadeP w own k p room m w'' := by
  obtain ⟨own', h1, h2, hs⟩ := h
  have hoq : own' q = (k + 9, 0) := by rw [hs.ownE q hq2, ownQ_q]
  have hk := h1.k0
  have hsz := hb.size
  have hss := hs.size
  refine ⟨own', h1.keep hO.size hO.os hO.tape hO.output fun b hb' ho => ⟨rfl, hO.block b hb' fun e => ?_⟩, fun b hb' => h2 b (by have := hO.size; omega), ⟨hO.os.trans (hs.os.trans hb.os), hO.tape.trans (hs.tape.trans hb.tape), hO.output.trans (hs.output.trans hb.output), by have := hO.size; omega, fun b hb' => ?_, fun b hb' hbk => ?_⟩⟩
  · rw [e, hoq] at ho
    simp at ho
  · rw [hs.ownE b (by omega), ownQ_ne (by omega)]
  · rw [hO.block b (by omega) (by omega), hs.block b (by omega) (by rw [ownQ_ne (by omega)]; exact hbk), hb.block b hb']
theorem made_below {w w' : World} {own : Owns} {k p room : Nat} {m : M} (h : Hp w own k p room m) (fz : Fz w own) (hb : Below w.heap.size w w') : MadeP w own k p room m w' :=
  ⟨own, h.below hb, fz.below hb.size, Stp.of_below hb⟩
theorem MadeP.then {w w1 w2 : World} {own : Owns} {k p room : Nat} {m : M} (h : MadeP w own k p room m w1) (hb : Below w1.heap.size w1 w2) : MadeP w own k p room m w2 := by
  obtain ⟨own', h1, h2, hs⟩ := h
  exact ⟨own', h1.below hb, h2.below hb.size, hs.trans (Stp.of_below (hb.mono hs.size))⟩
theorem MadeP.comp {w w1 w2 : World} {own : Owns} {k p room : Nat} {m m2 : M} (h : MadeP w own k p room m w1) (g : ∀ own1, Hp w1 own1 k p room m → Fz w1 own1 → MadeP w1 own1 k p room m2 w2) : MadeP w own k p room m2 w2 := by
  obtain ⟨own', h1, h2, hs⟩ := h
  obtain ⟨own2, h3, h4, hs2⟩ := g own' h1 h2
  exact ⟨own2, h3, h4, hs.trans (hs2.mono hs.size)⟩

theorem zero_box (w : World) : (w.alloc (.cells #[.int .u8 0, .int .i64 0, .int .i64 0, .int .i64 0] 35)).rowIs w.heap.size 35 4 (flV [v0]) :=
  World.rowIs_alloc w #[.int .u8 0, .int .i64 0, .int .i64 0, .int .i64 0] 35 (flV [v0]) (fun i hi => by
    have : i < 4 := hi
    match i, this with
    | 0, _ => rfl
    | 1, _ => rfl
    | 2, _ => rfl
    | 3, _ => rfl)
theorem vl_box (w : World) (v : Vl) : (w.alloc (.cells #[.int .u8 v.kind, .int .i64 v.n, .int .i64 v.re, .int .i64 v.im] 35)).rowIs w.heap.size 35 4 (flV [v]) :=
  World.rowIs_alloc w #[.int .u8 v.kind, .int .i64 v.n, .int .i64 v.re, .int .i64 v.im] 35 (flV [v]) (fun i hi => by
    have : i < 4 := hi
    match i, this with
    | 0, _ => rfl
    | 1, _ => rfl
    | 2, _ => rfl
    | 3, _ => rfl)
theorem box_row1 (w : World) (A : Obj) (x : Oc) : ((w.alloc A).alloc (.cells #[.int .u8 x.kind, .int .i64 x.of, .string x.text, .slice x.a x.n x.c] 45)).rowIs (w.heap.size + 1) 45 4 (ocF x) := by
  have := box_row (w.alloc A) x
  simpa using this
theorem zero_box1 (w : World) (A : Obj) : ((w.alloc A).alloc (.cells #[.int .u8 0, .int .i64 0, .int .i64 0, .int .i64 0] 35)).rowIs (w.heap.size + 1) 35 4 (flV [v0]) := by
  have := zero_box (w.alloc A)
  simpa using this
theorem oth4 {w : World} {q : Nat} (u0 u1 u2 u3 : Value) : Oth (fun b => b = q) w ((((w.setCell ⟨q, 0, none⟩ u0).setCell ⟨q, 1, none⟩ u1).setCell ⟨q, 2, none⟩ u2).setCell ⟨q, 3, none⟩ u3) :=
  ((((Oth.refl (fun b => b = q) w).set (q := ⟨q, 0, none⟩) rfl u0).set (q := ⟨q, 1, none⟩) rfl u1).set (q := ⟨q, 2, none⟩) rfl u2).set (q := ⟨q, 3, none⟩) rfl u3

end Go.Proofs.Ytfeeikajekemlaa
