/-
  Values and objects, plain and in memory: rows of them, carried on. Conditions: as said.
-/
import Derived.Test.YtfeeikajekemlaaBuilt
import Derived.Test.YtfeeikajekemlaaRows
import Derived.OwnWalk
import Derived.Laws.AppendOwnNone
import Derived.Deep.OwnRows
import Derived.Laws.OwnMore
namespace Go.Proofs.Ytfeeikajekemlaa
open Go.RowKit
set_option linter.unusedVariables false

structure Vl where
  kind : Nat
  n : Int
  re : Int
  im : Int
def v0 : Vl := ⟨0, 0, 0, 0⟩
def vlCells (v : Vl) : List Value := [.int .u8 v.kind, .int .i64 v.n, .int .i64 v.re, .int .i64 v.im]
abbrev vlV (v : Vl) : Value := .agg #[.int .u8 v.kind, .int .i64 v.n, .int .i64 v.re, .int .i64 v.im]
def vl (l : List Vl) (i : Nat) : Vl := l.getD i v0

/-- An object as it lies in memory. -/
structure Oc where
  kind : Nat
  of : Int
  text : ByteArray
  a : Option Addr
  n : Nat
  c : Nat
def oc0 : Oc := ⟨0, 0, { data := #[] }, none, 0, 0⟩
def ocCells (x : Oc) : List Value := [.int .u8 x.kind, .int .i64 x.of, .string x.text, .slice x.a x.n x.c]
abbrev ocV (x : Oc) : Value := .agg #[.int .u8 x.kind, .int .i64 x.of, .string x.text, .slice x.a x.n x.c]
def oc (l : List Oc) (i : Nat) : Oc := l.getD i oc0

/-- An object. -/
structure Ob where
  kind : Nat
  of : Int
  text : ByteArray
  vals : List Vl
def ob0 : Ob := ⟨0, 0, { data := #[] }, []⟩
def ob (l : List Ob) (i : Nat) : Ob := l.getD i ob0

structure AtV (w : World) (b o : Nat) (v : Vl) : Prop where
  c0 : w.cell? ⟨b, o, none⟩ = some (.int .u8 v.kind)
  c1 : w.cell? ⟨b, o + 1, none⟩ = some (.int .i64 v.n)
  c2 : w.cell? ⟨b, o + 2, none⟩ = some (.int .i64 v.re)
  c3 : w.cell? ⟨b, o + 3, none⟩ = some (.int .i64 v.im)
structure AtO (w : World) (b o : Nat) (x : Oc) : Prop where
  c0 : w.cell? ⟨b, o, none⟩ = some (.int .u8 x.kind)
  c1 : w.cell? ⟨b, o + 1, none⟩ = some (.int .i64 x.of)
  c2 : w.cell? ⟨b, o + 2, none⟩ = some (.string x.text)
  c3 : w.cell? ⟨b, o + 3, none⟩ = some (.slice x.a x.n x.c)

theorem cell_block {w w' : World} {b o : Nat} {v : Value} (h : w'.heap[b]? = w.heap[b]?) (q : w.cell? ⟨b, o, none⟩ = some v) : w'.cell? ⟨b, o, none⟩ = some v := by
  rw [World.cell?_of_block (w := w) (a := ⟨b, o, none⟩) h]; exact q
theorem AtV.of_block {w w' : World} {b o : Nat} {v : Vl} (h : w'.heap[b]? = w.heap[b]?) (q : AtV w b o v) : AtV w' b o v :=
  ⟨cell_block h q.c0, cell_block h q.c1, cell_block h q.c2, cell_block h q.c3⟩
theorem AtO.of_block {w w' : World} {b o : Nat} {v : Oc} (h : w'.heap[b]? = w.heap[b]?) (q : AtO w b o v) : AtO w' b o v :=
  ⟨cell_block h q.c0, cell_block h q.c1, cell_block h q.c2, cell_block h q.c3⟩
theorem AtV.lt {w : World} {b o : Nat} {v : Vl} (q : AtV w b o v) : b < w.heap.size := block_lt_of_cell q.c0
theorem AtO.lt {w : World} {b o : Nat} {v : Oc} (q : AtO w b o v) : b < w.heap.size := block_lt_of_cell q.c0

/-- What lies in blocks of P stays. -/
def Kp (P P' : Nat → Prop) (w w' : World) : Prop := ∀ b, b < w.heap.size → P b → P' b ∧ w'.heap[b]? = w.heap[b]?
theorem kp_below {P : Nat → Prop} {w w' : World} (h : Below w.heap.size w w') : Kp P P w w' := fun b hb hp => ⟨hp, h.block b hb⟩

/-- A row of values that lies in memory, in a block of P. -/
def RV (P : Nat → Prop) (w : World) (a : Option Addr) (l : List Vl) : Prop :=
  ∀ i, i < l.length → ∃ b o, a = some ⟨b, o, none⟩ ∧ P b ∧ AtV w b (o + i * 4) (vl l i)
def RO (P : Nat → Prop) (w : World) (a : Option Addr) (l : List Oc) : Prop :=
  ∀ i, i < l.length → ∃ b o, a = some ⟨b, o, none⟩ ∧ P b ∧ AtO w b (o + i * 4) (oc l i)
theorem RV.kp {P P' : Nat → Prop} {w w' : World} {a : Option Addr} {l : List Vl} (k : Kp P P' w w') (h : RV P w a l) : RV P' w' a l := fun i hi => by
  obtain ⟨b, o, h1, h2, h3⟩ := h i hi
  obtain ⟨h4, h5⟩ := k b h3.lt h2
  exact ⟨b, o, h1, h4, h3.of_block h5⟩
theorem RO.kp {P P' : Nat → Prop} {w w' : World} {a : Option Addr} {l : List Oc} (k : Kp P P' w w') (h : RO P w a l) : RO P' w' a l := fun i hi => by
  obtain ⟨b, o, h1, h2, h3⟩ := h i hi
  obtain ⟨h4, h5⟩ := k b h3.lt h2
  exact ⟨b, o, h1, h4, h3.of_block h5⟩
theorem rv_nil {P : Nat → Prop} {w : World} {a : Option Addr} : RV P w a [] := fun i hi => by simp at hi

/-- An object in memory, and what it is. -/
structure Like (P : Nat → Prop) (w : World) (x : Oc) (o : Ob) : Prop where
  kind : x.kind = o.kind
  of : x.of = o.of
  text : x.text = o.text
  len : o.vals.length = x.n
  nil : x.a = none → x.n = 0 ∧ x.c = 0
  row : RV P w x.a o.vals
theorem Like.kp {P P' : Nat → Prop} {w w' : World} {x : Oc} {o : Ob} (k : Kp P P' w w') (h : Like P w x o) : Like P' w' x o :=
  ⟨h.kind, h.of, h.text, h.len, h.nil, h.row.kp k⟩

/-- A list of objects in memory. -/
def RL (P : Nat → Prop) (w : World) (a : Option Addr) (n c : Nat) (L : List Ob) : Prop :=
  ∃ cs : List Oc, cs.length = n ∧ L.length = n ∧ (a = none → n = 0 ∧ c = 0) ∧ RO P w a cs ∧ ∀ i, i < n → Like P w (oc cs i) (ob L i)
theorem RL.kp {P P' : Nat → Prop} {w w' : World} {a : Option Addr} {n c : Nat} {L : List Ob} (k : Kp P P' w w') (h : RL P w a n c L) : RL P' w' a n c L := by
  obtain ⟨cs, h1, h2, h3, h4, h5⟩ := h
  exact ⟨cs, h1, h2, h3, h4.kp k, fun i hi => (h5 i hi).kp k⟩

/-! ### Flat -/
def fV (l : List Vl) : List Value := l.flatMap vlCells
def fO (l : List Oc) : List Value := l.flatMap ocCells
theorem fV_len (l : List Vl) : (fV l).length = l.length * 4 := by
  unfold fV
  induction l with
  | nil => rfl
  | cons t l ih => rw [List.flatMap_cons, List.length_append, ih]; simp [vlCells]; omega
theorem fO_len (l : List Oc) : (fO l).length = l.length * 4 := by
  unfold fO
  induction l with
  | nil => rfl
  | cons t l ih => rw [List.flatMap_cons, List.length_append, ih]; simp [ocCells]; omega
theorem fV_app (l m : List Vl) : fV (l ++ m) = fV l ++ fV m := by simp [fV]
theorem fO_app (l m : List Oc) : fO (l ++ m) = fO l ++ fO m := by simp [fO]
theorem flat_get {α : Type} (f : α → List Value) (hf : ∀ x, (f x).length = 4) (l : List α) : ∀ (j : Nat) (x : α), l[j]? = some x → ∀ r, r < 4 → (l.flatMap f)[j * 4 + r]? = (f x)[r]? := by
  induction l with
  | nil => intro j x h; simp at h
  | cons t l ih =>
    intro j x h r hr
    rw [List.flatMap_cons]
    cases j with
    | zero =>
      simp at h; subst h
      rw [Nat.zero_mul, Nat.zero_add, List.getElem?_append_left (by rw [hf]; exact hr)]
    | succ j =>
      rw [List.getElem?_append_right (by rw [hf]; omega), hf, show (j + 1) * 4 + r - 4 = j * 4 + r by omega]
      exact ih j x (by simpa using h) r hr
theorem fV_get (l : List Vl) (j : Nat) (hj : j < l.length) (r : Nat) (hr : r < 4) : (fV l)[j * 4 + r]? = (vlCells (vl l j))[r]? :=
  flat_get vlCells (fun _ => rfl) l j _ (by simp [vl, List.getD, hj]) r hr
theorem fO_get (l : List Oc) (j : Nat) (hj : j < l.length) (r : Nat) (hr : r < 4) : (fO l)[j * 4 + r]? = (ocCells (oc l j))[r]? :=
  flat_get ocCells (fun _ => rfl) l j _ (by simp [oc, List.getD, hj]) r hr

theorem plain_add (b o : Nat) : (⟨b, 0, none⟩ : Addr).add o = ⟨b, o, none⟩ := by unfold Addr.add; split <;> simp_all
theorem plain_add2 (b o j : Nat) : (⟨b, o, none⟩ : Addr).add j = ⟨b, o + j, none⟩ := by
  unfold Addr.add
  by_cases h0 : j = 0
  · subst h0; rfl
  · rw [if_neg (by simpa using h0)]

theorem rv_cells {P : Nat → Prop} {w : World} {ad : Addr} {l : List Vl} (h : RV P w (some ad) l) : ∀ j u, (fV l)[j]? = some u → w.cell? (ad.add j) = some u := fun j u hu => by
  have hj : j < l.length * 4 := by
    have := (List.getElem?_eq_some_iff.1 hu).1
    rwa [fV_len] at this
  have hi : j / 4 < l.length := by omega
  obtain ⟨g, o, he, _, hat⟩ := h (j / 4) hi
  cases he
  rw [plain_add2, show o + j = o + j / 4 * 4 + j % 4 by omega]
  have e := fV_get l (j / 4) hi (j % 4) (by omega)
  rw [show j / 4 * 4 + j % 4 = j by omega] at e
  rw [e] at hu
  obtain ⟨c0, c1, c2, c3⟩ := hat
  have h4 : j % 4 = 0 ∨ j % 4 = 1 ∨ j % 4 = 2 ∨ j % 4 = 3 := by omega
  generalize j % 4 = r at hu h4 ⊢
  rcases h4 with rfl | rfl | rfl | rfl <;> simp only [vlCells, List.getElem?_cons_succ, List.getElem?_cons_zero, Option.some.injEq] at hu <;> subst hu <;> assumption
theorem ro_cells {P : Nat → Prop} {w : World} {ad : Addr} {l : List Oc} (h : RO P w (some ad) l) : ∀ j u, (fO l)[j]? = some u → w.cell? (ad.add j) = some u := fun j u hu => by
  have hj : j < l.length * 4 := by
    have := (List.getElem?_eq_some_iff.1 hu).1
    rwa [fO_len] at this
  have hi : j / 4 < l.length := by omega
  obtain ⟨g, o, he, _, hat⟩ := h (j / 4) hi
  cases he
  rw [plain_add2, show o + j = o + j / 4 * 4 + j % 4 by omega]
  have e := fO_get l (j / 4) hi (j % 4) (by omega)
  rw [show j / 4 * 4 + j % 4 = j by omega] at e
  rw [e] at hu
  obtain ⟨c0, c1, c2, c3⟩ := hat
  have h4 : j % 4 = 0 ∨ j % 4 = 1 ∨ j % 4 = 2 ∨ j % 4 = 3 := by omega
  generalize j % 4 = r at hu h4 ⊢
  rcases h4 with rfl | rfl | rfl | rfl <;> simp only [ocCells, List.getElem?_cons_succ, List.getElem?_cons_zero, Option.some.injEq] at hu <;> subst hu <;> assumption
theorem one_fV (l : List Vl) : ∀ u ∈ fV l, u.oneCell' = true := fun u hu => by
  obtain ⟨t, _, ht⟩ := List.mem_flatMap.1 hu
  simp only [vlCells, List.mem_cons, List.not_mem_nil, or_false] at ht
  rcases ht with rfl | rfl | rfl | rfl <;> rfl
theorem one_fO (l : List Oc) : ∀ u ∈ fO l, u.oneCell' = true := fun u hu => by
  obtain ⟨t, _, ht⟩ := List.mem_flatMap.1 hu
  simp only [ocCells, List.mem_cons, List.not_mem_nil, or_false] at ht
  rcases ht with rfl | rfl | rfl | rfl <;> rfl

/-! ### Rows that a call owns -/
def OwnV (w : World) (B : Nat) (v : Value) (l : List Vl) : Prop := w.ownsRow B 35 4 v l.length (fV l)
def OwnO (w : World) (B : Nat) (v : Value) (l : List Oc) : Prop := w.ownsRow B 45 4 v l.length (fO l)
theorem Try.info35 : (Try.prog.info? 35).map (fun i => (i.zero, i.size, i.bytes)) = some (some (.agg #[.int .u8 0, .int .i64 0, .int .i64 0, .int .i64 0]), 4, 32) := by kernel_rfl
theorem Try.info45 : (Try.prog.info? 45).map (fun i => (i.zero, i.size, i.bytes)) = some (some (.agg #[.int .u8 0, .int .i64 0, .string { data := #[] }, .slice none 0 0]), 4, 56) := by kernel_rfl

theorem ownV_rv {P : Nat → Prop} {w : World} {B : Nat} {v : Value} {l : List Vl} (h : OwnV w B v l) (hP : ∀ b, B ≤ b → P b) : ∃ a c, v = .slice a l.length c ∧ (a = none → l.length = 0 ∧ c = 0) ∧ RV P w a l := by
  have h' : w.ownsRow B 35 4 v l.length (fV l) := h
  rcases h.2 with ⟨rfl, hn⟩ | ⟨g, cap, cur, rfl, hb, hg, _⟩
  · exact ⟨none, 0, by rw [hn], fun _ => ⟨hn, rfl⟩, fun i hi => by omega⟩
  · refine ⟨some ⟨g, 0, none⟩, cap, rfl, (fun e => by cases e), fun i hi => ⟨g, 0, rfl, hP g hb, ?_⟩⟩
    have key : ∀ r, r < 4 → w.cell? ⟨g, 0 + i * 4 + r, none⟩ = (vlCells (vl l i))[r]? := fun r hr => by
      rw [Nat.zero_add, ← fV_get l i hi r hr]
      exact h'.cellAt (i * 4 + r) (by omega)
    exact ⟨key 0 (by omega), key 1 (by omega), key 2 (by omega), key 3 (by omega)⟩
theorem ownO_ro {P : Nat → Prop} {w : World} {B : Nat} {v : Value} {l : List Oc} (h : OwnO w B v l) (hP : ∀ b, B ≤ b → P b) : ∃ a c, v = .slice a l.length c ∧ (a = none → l.length = 0 ∧ c = 0) ∧ RO P w a l := by
  have h' : w.ownsRow B 45 4 v l.length (fO l) := h
  rcases h.2 with ⟨rfl, hn⟩ | ⟨g, cap, cur, rfl, hb, hg, _⟩
  · exact ⟨none, 0, by rw [hn], fun _ => ⟨hn, rfl⟩, fun i hi => by omega⟩
  · refine ⟨some ⟨g, 0, none⟩, cap, rfl, (fun e => by cases e), fun i hi => ⟨g, 0, rfl, hP g hb, ?_⟩⟩
    have key : ∀ r, r < 4 → w.cell? ⟨g, 0 + i * 4 + r, none⟩ = (ocCells (oc l i))[r]? := fun r hr => by
      rw [Nat.zero_add, ← fO_get l i hi r hr]
      exact h'.cellAt (i * 4 + r) (by omega)
    exact ⟨key 0 (by omega), key 1 (by omega), key 2 (by omega), key 3 (by omega)⟩
theorem own_carry {w w' : World} {B n e s : Nat} {v : Value} {l : List Value} (h : w.ownsRow B e s v n l) (hb : Below w.heap.size w w') : w'.ownsRow B e s v n l :=
  World.ownsRow.kept h (row := none) ⟨hb.os, hb.tape, hb.output, hb.size, fun k hk _ => hb.block k hk⟩ (by cases hv : v.ownBlock <;> simp)
theorem own_mono {w : World} {B B' n e s : Nat} {v : Value} {l : List Value} (h : w.ownsRow B e s v n l) (hb : B' ≤ B) : w.ownsRow B' e s v n l := by
  refine ⟨h.1, ?_⟩
  rcases h.2 with h2 | ⟨g, cap, cur, h1, h2, h3⟩
  · exact .inl h2
  · exact .inr ⟨g, cap, cur, h1, Nat.le_trans hb h2, h3⟩
theorem ownV_empty {w : World} {B : Nat} (hB : B ≤ w.heap.size) : OwnV (w.alloc (.cells #[] 35)) B (.slice (some ⟨w.heap.size, 0, none⟩) 0 0) [] := World.ownsRow_made w #[] 0 hB (by decide) rfl
theorem ownO_empty {w : World} {B : Nat} (hB : B ≤ w.heap.size) : OwnO (w.alloc (.cells #[] 45)) B (.slice (some ⟨w.heap.size, 0, none⟩) 0 0) [] := World.ownsRow_made w #[] 0 hB (by decide) rfl

theorem wpList_appV {ops : Array Oper} {rest : List Oper} {o : Oper} {a : Act} {Q : Exit → Act → World → Prop} {w : World} (hgd : o.guard = none) (s x : Operand)
    (ho : o.op = .call { callee := .builtin .append, args := #[s, x], argTypes := #[36, 36] }) (B : Nat) (v : Value) (l m : List Vl) (P : Nat → Prop) (ad : Option Addr) (k c : Nat) (hs : a.eval s = v)
    (hx : a.eval x = .slice ad k c) (hz : ad = none → k = 0 ∧ c = 0) (hk : m.length = k) (hm : RV P w ad m) (hown : OwnV w B v l) (hB : B ≤ w.heap.size) (hl : l.length + k ≤ 2000000)
    (h : ∀ v' w', OwnV w' B v' (l ++ m) → Below B w w' → wpList Try.prog ops Q rest (a.put o.dst v') w') : wpList Try.prog ops Q (o :: rest) a w := by
  obtain ⟨i0, hi0, hz0, hz1, hz2⟩ := info_parts Try.info35
  have hown' : w.ownsRow B 35 4 v l.length (fV l) := hown
  cases ad with
  | none =>
    obtain ⟨rfl, rfl⟩ := hz rfl
    obtain rfl : m = [] := List.eq_nil_of_length_eq_zero hk
    refine wpList_append_own_none hgd s x 36 ho B 35 i0 4 Try.underlying36 hi0 v l.length (fV l) hs hown' hx ?_
    exact h v w (by simpa using hown) (Below.refl _ _)
  | some ad =>
    refine wpList_append_own _ hgd s x 36 ho B 35 i0 _ 4 32 Try.underlying36 hi0 hz0 hz1 hz2 rfl (by decide) v l.length (fV l) hs hown' ad k c (fV m) hx (by rw [fV_len, hk]) (rv_cells hm) (one_fV m) ?_ ?_ hB ?_
    · unfold maxLen; omega
    · omega
    · intro v' w' h1 h2 _
      refine h v' w' ?_ ((Below.refl B w).grown h2 hB fun r hr => (hown'.lt r hr).1)
      unfold OwnV
      rw [List.length_append, fV_app, hk]
      exact h1
theorem wpList_appO {ops : Array Oper} {rest : List Oper} {o : Oper} {a : Act} {Q : Exit → Act → World → Prop} {w : World} (hgd : o.guard = none) (s x : Operand)
    (ho : o.op = .call { callee := .builtin .append, args := #[s, x], argTypes := #[29, 29] }) (B : Nat) (v : Value) (l m : List Oc) (P : Nat → Prop) (ad : Option Addr) (k c : Nat) (hs : a.eval s = v)
    (hx : a.eval x = .slice ad k c) (hz : ad = none → k = 0 ∧ c = 0) (hk : m.length = k) (hm : RO P w ad m) (hown : OwnO w B v l) (hB : B ≤ w.heap.size) (hl : l.length + k ≤ 2000000)
    (h : ∀ v' w', OwnO w' B v' (l ++ m) → Below B w w' → wpList Try.prog ops Q rest (a.put o.dst v') w') : wpList Try.prog ops Q (o :: rest) a w := by
  obtain ⟨i0, hi0, hz0, hz1, hz2⟩ := info_parts Try.info45
  have hown' : w.ownsRow B 45 4 v l.length (fO l) := hown
  cases ad with
  | none =>
    obtain ⟨rfl, rfl⟩ := hz rfl
    obtain rfl : m = [] := List.eq_nil_of_length_eq_zero hk
    refine wpList_append_own_none hgd s x 29 ho B 45 i0 4 Try.underlying29 hi0 v l.length (fO l) hs hown' hx ?_
    exact h v w (by simpa using hown) (Below.refl _ _)
  | some ad =>
    refine wpList_append_own _ hgd s x 29 ho B 45 i0 _ 4 56 Try.underlying29 hi0 hz0 hz1 hz2 rfl (by decide) v l.length (fO l) hs hown' ad k c (fO m) hx (by rw [fO_len, hk]) (ro_cells hm) (one_fO m) ?_ ?_ hB ?_
    · unfold maxLen; omega
    · omega
    · intro v' w' h1 h2 _
      refine h v' w' ?_ ((Below.refl B w).grown h2 hB fun r hr => (hown'.lt r hr).1)
      unfold OwnO
      rw [List.length_append, fO_app, hk]
      exact h1
/-- A literal of one, laid. -/
theorem rv_one {w : World} (news : Array Value) (v : Vl) (h : news.toList = vlCells v) : RV (fun _ => True) (w.alloc (.cells news 35)) (some ⟨w.heap.size, 0, none⟩) [v] := fun i hi => by
  obtain rfl : i = 0 := by simpa using hi
  refine ⟨w.heap.size, 0, rfl, trivial, ?_⟩
  obtain rfl : news = (vlCells v).toArray := by rw [← h]
  refine ⟨?_, ?_, ?_, ?_⟩ <;> simp [go_sem, vlCells, vl]
theorem ro_one {w : World} (news : Array Value) (v : Oc) (h : news.toList = ocCells v) : RO (fun _ => True) (w.alloc (.cells news 45)) (some ⟨w.heap.size, 0, none⟩) [v] := fun i hi => by
  obtain rfl : i = 0 := by simpa using hi
  refine ⟨w.heap.size, 0, rfl, trivial, ?_⟩
  obtain rfl : news = (ocCells v).toArray := by rw [← h]
  refine ⟨?_, ?_, ?_, ?_⟩ <;> simp [go_sem, ocCells, oc]

end Go.Proofs.Ytfeeikajekemlaa
