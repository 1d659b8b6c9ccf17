/-
  The program's heap in memory: its head, the row of its objects, the row of what is alone, the objects; who owns which block. Conditions: as said.
-/
import Derived.Test.YtfeeikajekemlaaPl
namespace Go.Proofs.Ytfeeikajekemlaa
open Go.RowKit
set_option linter.unusedVariables false

/-- Who owns a block (0: nobody, it stays as it is), and as what. -/
abbrev Owns := Nat → Nat × Nat
def Fz (w : World) (own : Owns) : Prop := ∀ b, w.heap.size ≤ b → own b = (0, 0)
def Free (own : Owns) (b : Nat) : Prop := (own b).1 = 0

def hpF (room cells : Nat) (vo va : Value) (j : Nat) : Value := if j = 0 then .int .i64 room else if j = 1 then .int .i64 cells else if j = 2 then vo else va
def ocF (x : Oc) (j : Nat) : Value := (ocCells x).getD j (.bool false)
def flV (l : List Vl) (j : Nat) : Value := (vlCells (vl l (j / 4))).getD (j % 4) (.bool false)
def ptrs (bl : Nat → Nat) (n : Nat) : List Value := (List.range n).map fun i => .pointer (some ⟨bl i, 0, none⟩)
def bools (al : Nat → Bool) (n : Nat) : List Value := (List.range n).map fun i => .bool (al i)

/-- Values of an object, in a block of their own. -/
def VA (w : World) (x : Oc) (vb : Nat) (l : List Vl) : Prop := l.length = x.n ∧ (x.a = none → x.n = 0 ∧ x.c = 0) ∧ (x.n = 0 ∨ (x.a = some ⟨vb, 0, none⟩ ∧ w.rowIs vb 35 (x.n * 4) (flV l)))
structure ObjAt (w : World) (own : Owns) (k i b vb : Nat) (al : Bool) (o : Ob) (x : Oc) : Prop where
  row : w.rowIs b 45 4 (ocF x)
  kind : x.kind = o.kind
  of : x.of = o.of
  text : x.text = o.text
  vals : VA w x vb o.vals
  ownA : al = true → own b = (k, 3 + 2 * i) ∧ (x.n ≠ 0 → own vb = (k, 4 + 2 * i))
  ownF : al = false → Free own b ∧ (x.n ≠ 0 → Free own vb)

structure HeapAt (w : World) (own : Owns) (k p room : Nat) (m : M) (vo va : Value) (bl vb : Nat → Nat) (al : Nat → Bool) (xs : Nat → Oc) : Prop where
  k0 : k ≠ 0
  ok : OkM room m
  rm : room ≤ 65536
  hd : w.rowIs p 69 4 (hpF room m.cells vo va)
  hdO : own p = (k, 0)
  obs : w.ownsRow 0 83 1 vo m.L.length (ptrs bl m.L.length)
  obO : ∀ g, vo.ownBlock = some g → own g = (k, 1)
  als : w.ownsRow 0 4 1 va m.L.length (bools al m.L.length)
  alO : ∀ g, va.ownBlock = some g → own g = (k, 2)
  at_ : ∀ i, i < m.L.length → ObjAt w own k i (bl i) (vb i) (al i) (ob m.L i) (xs i)
/-- A heap of the program. -/
def Hp (w : World) (own : Owns) (k p room : Nat) (m : M) : Prop := ∃ vo va bl vb al xs, HeapAt w own k p room m vo va bl vb al xs

theorem VA.of_block {w w' : World} {x : Oc} {vb : Nat} {l : List Vl} (h : VA w x vb l) (e : x.n ≠ 0 → w'.heap[vb]? = w.heap[vb]?) : VA w' x vb l := by
  refine ⟨h.1, h.2.1, ?_⟩
  by_cases h0 : x.n = 0
  · exact .inl h0
  · rcases h.2.2 with h1 | ⟨h1, h2⟩
    · exact .inl h1
    · exact .inr ⟨h1, h2.of_block (e h0)⟩
theorem va_rv {w : World} {x : Oc} {vb : Nat} {l : List Vl} {P : Nat → Prop} (h : VA w x vb l) (hP : x.n ≠ 0 → P vb) : RV P w x.a l := fun i hi => by
  have hn : x.n ≠ 0 := by have := h.1; omega
  rcases h.2.2 with h1 | ⟨h1, h2⟩
  · exact absurd h1 hn
  · refine ⟨vb, 0, h1, hP hn, ?_⟩
    have key : ∀ r, r < 4 → w.cell? ⟨vb, 0 + i * 4 + r, none⟩ = some ((vlCells (vl l i)).getD r (.bool false)) := fun r hr => by
      have := h2.cell (i := 0 + i * 4 + r) (by have := h.1; omega)
      rw [this, flV, show (0 + i * 4 + r) / 4 = i by omega, show (0 + i * 4 + r) % 4 = r by omega]
    exact ⟨key 0 (by omega), key 1 (by omega), key 2 (by omega), key 3 (by omega)⟩
theorem ObjAt.like {w : World} {own : Owns} {k i b vb : Nat} {al : Bool} {o : Ob} {x : Oc} (h : ObjAt w own k i b vb al o x) : Like (fun _ => True) w x o :=
  ⟨h.kind, h.of, h.text, h.vals.1, h.vals.2.1, va_rv h.vals fun _ => trivial⟩
theorem ObjAt.cells {w : World} {own : Owns} {k i b vb : Nat} {al : Bool} {o : Ob} {x : Oc} (h : ObjAt w own k i b vb al o x) : AtO w b 0 x :=
  ⟨h.row.cell (by omega), h.row.cell (by omega), h.row.cell (by omega), h.row.cell (by omega)⟩

/-- A step of the one of number k: the others' blocks below B, and nobody's, stay. -/
structure Stp (B k : Nat) (own own' : Owns) (w w' : World) : Prop where
  os : w'.os = w.os
  tape : w'.tape = w.tape
  output : w'.output = w.output
  size : w.heap.size ≤ w'.heap.size
  ownE : ∀ b, b < B → own' b = own b
  block : ∀ b, b < B → (own b).1 ≠ k → w'.heap[b]? = w.heap[b]?
theorem Stp.of_below {B k : Nat} {own : Owns} {w w' : World} (h : Below B w w') : Stp B k own own w w' := ⟨h.os, h.tape, h.output, h.size, fun _ _ => rfl, fun b hb _ => h.block b hb⟩
theorem Stp.trans {B k : Nat} {o1 o2 o3 : Owns} {w1 w2 w3 : World} (h : Stp B k o1 o2 w1 w2) (g : Stp B k o2 o3 w2 w3) : Stp B k o1 o3 w1 w3 :=
  ⟨g.os.trans h.os, g.tape.trans h.tape, g.output.trans h.output, Nat.le_trans h.size g.size, fun b hb => (g.ownE b hb).trans (h.ownE b hb),
   fun b hb hk => (g.block b hb (by rw [h.ownE b hb]; exact hk)).trans (h.block b hb hk)⟩
theorem Stp.mono {B B' k : Nat} {own own' : Owns} {w w' : World} (h : Stp B k own own' w w') (hB : B' ≤ B) : Stp B' k own own' w w' :=
  ⟨h.os, h.tape, h.output, h.size, fun b hb => h.ownE b (by omega), fun b hb => h.block b (by omega)⟩
/-- Nobody's blocks stay. -/
theorem Stp.kp {B k : Nat} {own own' : Owns} {w w' : World} (h : Stp B k own own' w w') (hB : B = w.heap.size) (hk : k ≠ 0) : Kp (Free own) (Free own') w w' := fun b hb hp => by
  subst hB
  refine ⟨by unfold Free; rw [h.ownE b hb]; exact hp, h.block b hb (by unfold Free at hp; omega)⟩
/-- Below what was there when nobody owned anything, all is as it was. -/
theorem Stp.below {B B0 k : Nat} {own own' : Owns} {w w' : World} (h : Stp B k own own' w w') (hB : B0 ≤ B) (hk : k ≠ 0) (hF : ∀ b, b < B0 → Free own b) : Below B0 w w' :=
  ⟨h.os, h.tape, h.output, h.size, fun b hb => h.block b (by omega) (by have := hF b hb; unfold Free at this; omega)⟩

/-- Blocks that are j's or nobody's stay and have the same owner: so does j's heap. -/
theorem HeapAt.keep {w w' : World} {own own' : Owns} {j p room : Nat} {m : M} {vo va : Value} {bl vb : Nat → Nat} {al : Nat → Bool} {xs : Nat → Oc} (h : HeapAt w own j p room m vo va bl vb al xs)
    (hg : w.heap.size ≤ w'.heap.size) (hos : w'.os = w.os) (ht : w'.tape = w.tape) (hou : w'.output = w.output) (hk : ∀ b, b < w.heap.size → ((own b).1 = j ∨ (own b).1 = 0) → own' b = own b ∧ w'.heap[b]? = w.heap[b]?) : HeapAt w' own' j p room m vo va bl vb al xs := by
  have own_lt : ∀ {e s : Nat} {v : Value} {n : Nat} {l : List Value} {r : Nat}, w.ownsRow 0 e s v n l → (∀ g, v.ownBlock = some g → own g = (j, r)) → (w'.ownsRow 0 e s v n l ∧ ∀ g, v.ownBlock = some g → own' g = (j, r)) := by
    intro e s v n l r h1 h2
    refine ⟨⟨h1.1, ?_⟩, fun g hg => ?_⟩
    · rcases h1.2 with hn | ⟨g, cap, cur, rfl, hb, hgg, rest⟩
      · exact .inl hn
      · refine .inr ⟨g, cap, cur, rfl, hb, ?_, rest⟩
        rw [(hk g (Array.getElem?_eq_some_iff.1 hgg).1 (by rw [h2 g rfl]; exact .inl rfl)).2]
        exact hgg
    · rw [(hk g (h1.lt g hg).2 (by rw [h2 g hg]; exact .inl rfl)).1]; exact h2 g hg
  have hp := hk p h.hd.lt (by rw [h.hdO]; exact .inl rfl)
  have h1 := own_lt h.obs h.obO
  have h2 := own_lt h.als h.alO
  refine ⟨h.k0, h.ok, h.rm, h.hd.of_block hp.2, by rw [hp.1]; exact h.hdO, h1.1, h1.2, h2.1, h2.2, fun i hi => ?_⟩
  have o := h.at_ i hi
  have hb : (own (bl i)).1 = j ∨ (own (bl i)).1 = 0 := by
    cases e : al i with
    | true => rw [(o.ownA e).1]; exact .inl rfl
    | false => exact .inr (o.ownF e).1
  have hv : (xs i).n ≠ 0 → vb i < w.heap.size ∧ ((own (vb i)).1 = j ∨ (own (vb i)).1 = 0) := fun hn => by
    refine ⟨?_, ?_⟩
    · rcases o.vals.2.2 with h1 | ⟨_, h2⟩
      · exact absurd h1 hn
      · exact h2.lt
    · cases e : al i with
      | true => rw [(o.ownA e).2 hn]; exact .inl rfl
      | false => exact .inr ((o.ownF e).2 hn)
  have hbb := hk _ o.row.lt hb
  refine ⟨o.row.of_block hbb.2, o.kind, o.of, o.text, o.vals.of_block fun hn => (hk _ (hv hn).1 (hv hn).2).2, fun e => ⟨by rw [hbb.1]; exact (o.ownA e).1, fun hn => by rw [(hk _ (hv hn).1 (hv hn).2).1]; exact (o.ownA e).2 hn⟩,
    fun e => ⟨by unfold Free; rw [hbb.1]; exact (o.ownF e).1, fun hn => by unfold Free; rw [(hk _ (hv hn).1 (hv hn).2).1]; exact (o.ownF e).2 hn⟩⟩
theorem HeapAt.below {w w' : World} {own : Owns} {j p room : Nat} {m : M} {vo va : Value} {bl vb : Nat → Nat} {al : Nat → Bool} {xs : Nat → Oc} (h : HeapAt w own j p room m vo va bl vb al xs) (hb : Below w.heap.size w w') : HeapAt w' own j p room m vo va bl vb al xs :=
  h.keep hb.size hb.os hb.tape hb.output fun b hb' _ => ⟨rfl, hb.block b hb'⟩
theorem Hp.below {w w' : World} {own : Owns} {j p room : Nat} {m : M} (h : Hp w own j p room m) (hb : Below w.heap.size w w') : Hp w' own j p room m := by
  obtain ⟨vo, va, bl, vb, al, xs, h⟩ := h
  exact ⟨vo, va, bl, vb, al, xs, h.below hb⟩
/-- Another one's step. -/
theorem Hp.other {w w' : World} {own own' : Owns} {j k p room : Nat} {m : M} (h : Hp w own j p room m) (s : Stp w.heap.size k own own' w w') (hjk : j ≠ k) (hk : k ≠ 0) : Hp w' own' j p room m := by
  obtain ⟨vo, va, bl, vb, al, xs, h⟩ := h
  exact ⟨vo, va, bl, vb, al, xs, h.keep s.size s.os s.tape s.output fun b hb ho => ⟨s.ownE b hb, s.block b hb (by omega)⟩⟩
theorem Fz.below {w w' : World} {own : Owns} (h : Fz w own) (hb : w.heap.size ≤ w'.heap.size) : Fz w' own := fun b hb' => h b (by omega)
theorem Fz.free {w : World} {own : Owns} (h : Fz w own) : ∀ b, w.heap.size ≤ b → Free own b := fun b hb => by unfold Free; rw [h b hb]

theorem own_form {w : World} {B e s n : Nat} {v : Value} {l : List Value} (h : w.ownsRow B e s v n l) : ∃ a c, v = .slice a n c := by
  rcases h.2 with ⟨rfl, rfl⟩ | ⟨g, cap, cur, rfl, _⟩
  · exact ⟨none, 0, rfl⟩
  · exact ⟨some ⟨g, 0, none⟩, cap, rfl⟩
theorem ptrs_get (bl : Nat → Nat) (n i : Nat) (h : i < n) : (ptrs bl n)[i]? = some (.pointer (some ⟨bl i, 0, none⟩)) := by simp [ptrs, h]
theorem bools_get (al : Nat → Bool) (n i : Nat) (h : i < n) : (bools al n)[i]? = some (.bool (al i)) := by simp [bools, h]

end Go.Proofs.Ytfeeikajekemlaa
