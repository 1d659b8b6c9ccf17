/-
  does: what it leaves. Conditions: texts of at most 1000 bytes, at most 300 fields.
-/
import Derived.Test.YtfeeikajekemlaaPq
import Derived.Test.YtfeeikajekemlaaOpn
namespace Go.Proofs.Ytfeeikajekemlaa
open Go.RowKit
set_option linter.unusedVariables false
set_option linter.unusedSimpArgs false
set_option maxRecDepth 100000

/-- What does leaves. -/
def DoesP (w : World) (own : Owns) (k p room : Nat) (m' : M) (e : Ending) (w' : World) : Prop :=
  ∃ own' a n c, e = .returned (.tuple #[.bool true, .agg #[.int .i64 room, .int .i64 (m'.cells : Nat), .slice a n c]]) ∧ Hp w' own' k p room m' ∧ Fz w' own' ∧ Stp w.heap.size k own own' w w' ∧ RL (Free own') w' a n c m'.L

theorem does_end {w W w1 w2 w3 : World} {own own1 : Owns} {k p room q : Nat} {m' : M} {a : Option Addr} {n c : Nat} (hB : Below w.heap.size w W) (hq1 : w.heap.size ≤ q) (hq2 : q < W.heap.size) (h1 : Hp w1 own1 k p room m') (f1 : Fz w1 own1) (s1 : Stp W.heap.size k (ownQ q k own) own1 W w1) (hb : Below w1.heap.size w1 w2) (hR : RL (Free own1) w2 a n c m'.L) (hO : Oth (fun b => b = q) w2 w3) :
    Hp w3 own1 k p room m' ∧ Fz w3 own1 ∧ Stp w.heap.size k own own1 w w3 ∧ RL (Free own1) w3 a n c m'.L := by
  have hoq : own1 q = (k + 9, 0) := by rw [s1.ownE q hq2, ownQ_q]
  have hs1 := s1.size
  have hsb := hb.size
  have hsB := hB.size
  refine ⟨(h1.below hb).keep hO.size hO.os hO.tape hO.output fun b hb' ho => ⟨rfl, hO.block b hb' fun e => ?_⟩, fun b hb' => f1 b (by have := hO.size; omega), ⟨hO.os.trans (hb.os.trans (s1.os.trans hB.os)), hO.tape.trans (hb.tape.trans (s1.tape.trans hB.tape)), hO.output.trans (hb.output.trans (s1.output.trans hB.output)), by have := hO.size; omega, fun b hb' => ?_, fun b hb' hbk => ?_⟩, hR.kp fun b hb' hp => ⟨hp, hO.block b hb' fun e => ?_⟩⟩
  · rw [e, hoq] at ho
    simp at ho
  · rw [s1.ownE b (by omega), ownQ_ne (by omega)]
  · rw [hO.block b (by omega) (by omega), hb.block b (by omega), s1.block b (by omega) (by rw [ownQ_ne (by omega)]; exact hbk), hB.block b hb']
  · unfold Free at hp
    rw [e, hoq] at hp
    simp at hp
theorem does_rl {w W w1 : World} {own own1 : Owns} {k q : Nat} {a : Option Addr} {n c : Nat} {L : List Ob} (hB : Below w.heap.size w W) (hq1 : w.heap.size ≤ q) (s1 : Stp W.heap.size k (ownQ q k own) own1 W w1) (hk : k ≠ 0) (hR : RL (Free own) w a n c L) : RL (Free own1) w1 a n c L := by
  refine hR.kp fun b hb hp => ?_
  have hsB := hB.size
  have h0 : ownQ q k own b = own b := ownQ_ne (by omega)
  refine ⟨?_, (s1.block b (by omega) (by rw [h0]; unfold Free at hp; omega)).trans (hB.block b hb)⟩
  unfold Free at hp ⊢
  rw [s1.ownE b (by omega), h0]; exact hp
theorem Oth.drew {S : Nat → Prop} {a w : World} (h : Oth S a w) : Oth S a w.drew := ⟨h.os, h.tape, h.output, h.size, h.block⟩
theorem does_rv {w W w1 : World} {own own1 : Owns} {k q : Nat} {a : Option Addr} {l : List Vl} (hB : Below w.heap.size w W) (hq1 : w.heap.size ≤ q) (s1 : Stp W.heap.size k (ownQ q k own) own1 W w1) (hk : k ≠ 0) (hR : RV (Free own) w a l) : RV (fun _ => True) w1 a l := by
  refine hR.kp fun b hb hp => ⟨trivial, ?_⟩
  have hsB := hB.size
  have h0 : ownQ q k own b = own b := ownQ_ne (by omega)
  exact (s1.block b (by omega) (by rw [h0]; unfold Free at hp; omega)).trans (hB.block b hb)
theorem h_box2 (w : World) (A B : Obj) : ((w.alloc A).alloc B).alloc (.cells #[.int .i64 0, .int .i64 0, .slice none 0 0] 31) |>.rowIs (w.heap.size + 1 + 1) 31 3 (fun j => if j = 0 then .int .i64 0 else if j = 1 then .int .i64 0 else .slice none 0 0) := by
  have := h_box ((w.alloc A).alloc B) 0 0 (.slice none 0 0)
  simpa using this
theorem op_box1 (w : World) (A : Obj) (o : Op) (a : Option Addr) (n c : Nat) : ((w.alloc A).alloc (.cells #[.int .i64 o.kind, .int .i64 o.of, .int .i64 o.n, .string o.text, .int .u8 o.v.kind, .int .i64 o.v.n, .int .i64 o.v.re, .int .i64 o.v.im, .int .u8 o.x.kind, .int .i64 o.x.n, .int .i64 o.x.re, .int .i64 o.x.im, .slice a n c] 38)).rowIs (w.heap.size + 1) 38 13 (opF o a n c) := by
  have := op_box (w.alloc A) o a n c
  simpa using this

end Go.Proofs.Ytfeeikajekemlaa
