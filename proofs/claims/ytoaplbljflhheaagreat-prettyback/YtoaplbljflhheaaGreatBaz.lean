/-
 Contracts and plain facts on the way to PrettyBack. Conditions: as each says.
-/
import Derived.Test.YtoaplbljflhheaaGreatBam
import Derived.Test.YtoaplbljflhheaaGreatBax
set_option maxHeartbeats 40000000
set_option maxRecDepth 100000
set_option linter.unusedVariables false
set_option linter.unusedSimpArgs false
namespace Go.Proofs.YtoaplbljflhheaaGreat
open _root_.Go.Proofs.Tryz
section
open Go.RowKit Go.Sort
structure Pc where
 text : List UInt8
 plc : Nat
 ask : Nat
 tabs : Int
def tP (s : List UInt8) : Pc := ⟨s, 0, 0, 0⟩
def nP (p : Nat) : Pc := ⟨[], p, 0, 0⟩
def oP (p a : Nat) : Pc := ⟨[], p, a, 0⟩
def Ev (p : Pc) : List Value := [.string (bs p.text), .int .i64 p.plc, .int .i64 p.ask, .int .i64 p.tabs]
abbrev pcV (s : ByteArray) (a k t : Int) : Value := .agg #[.string s, .int .i64 a, .int .i64 k, .int .i64 t]
def Cm (l : List Pc) : List Value := l.flatMap Ev
theorem Gz (l : List Pc) : (Cm l).length = l.length * 4 := by
 unfold Cm
 induction l with
 | nil => rfl
 | cons t l ih => rw [List.flatMap_cons, List.length_append, ih]; simp [Ev]; omega
theorem Rj (l m : List Pc) : Cm (l ++ m) = Cm l ++ Cm m := by simp [Cm]
def X9 (w : World) (B : Nat) (v : Value) (l : List Pc) : Prop := w.ownsRow B 71 4 v l.length (Cm l)
structure Env where
 a : Option Addr
 n : Nat
 cap : Nat
 l : List Nd
 mb : Nat
def sgV (n : Int) : Value := .agg #[.string (bs (opS n).1), .int .i64 ((opS n).2 : Nat)]
def sgE : List (Int × Nat) := [(15, 0), (14, 1), (6, 2), (7, 3), (8, 4), (9, 5), (10, 6), (11, 7), (1, 8), (2, 9), (3, 10), (4, 11), (5, 12), (12, 13), (13, 14)]
def sgM : Array MapEntry := (sgE.map fun x => ({ key := .int .i64 x.1, val := sgV x.1, born := x.2 } : MapEntry)).toArray
structure Env.ok (E : Env) (w : World) (b : Nat) : Prop where
 row : Row w E.a E.l
 len : E.l.length = E.n
 few : E.n <= 1000000
 low : ∀ g o, E.a = some ⟨g, o, none⟩ -> g < b
 mlow : E.mb < b
 map : w.heap[E.mb]? = some (.map sgM 15)
def Wr (w : World) (b : Nat) (E : Env) (X : List Pc) (t : Int) (out : List UInt8) : Prop :=
 E.ok w b ∧ ∃ v p u, w.heap[b]? = some (.cells #[.slice E.a E.n E.cap, .map (some E.mb), v, .int .i64 t, p, u] 68 (0, 0)) ∧ X9 w (b + 1) v X ∧ Own w (b + 1) u out ∧
  (p = .pointer none ∨ p = .pointer (some ⟨b, 4, none⟩))
structure Fw (b : Nat) (w w' : World) : Prop where
 os : w'.os = w.os
 tape : w'.tape = w.tape
 output : w'.output = w.output
 size : w.heap.size <= w'.heap.size
 low : ∀ k, k < b -> w'.heap[k]? = w.heap[k]?
 cells : ∀ k cs e fz, w.heap[k]? = some (.cells cs e fz) -> k ≠ b -> e ≠ 71 -> e ≠ 5 -> w'.heap[k]? = some (.cells cs e fz)
theorem Fw.refl (b : Nat) (w : World) : Fw b w w := ⟨rfl, rfl, rfl, Nat.le_refl _, fun _ _ => rfl, fun _ _ _ _ h _ _ _ => h⟩
theorem Fw.trans {b : Nat} {x y z : World} (h : Fw b x y) (k : Fw b y z) : Fw b x z :=
 ⟨k.os.trans h.os, k.tape.trans h.tape, k.output.trans h.output, Nat.le_trans h.size k.size, fun i hi => (k.low i hi).trans (h.low i hi), fun i cs e fz h1 h2 h3 h4 => k.cells i cs e fz (h.cells i cs e fz h1 h2 h3 h4) h2 h3 h4⟩
theorem Fw.below {b : Nat} {x y : World} (h : Below x.heap.size x y) (hb : b <= x.heap.size) : Fw b x y :=
 ⟨h.os, h.tape, h.output, h.size, fun i hi => h.block i (by omega), fun i cs e fz h1 _ _ _ => (h.block i (Ay h1)).trans h1⟩
theorem At.of_heap {w w' : World} {b o : Nat} {n : Nd} (h : At w b o n) (e : w'.heap[b]? = w.heap[b]?) : At w' b o n :=
 ⟨by rw [World.cell?_of_block (w := w) e]; exact h.c0, by rw [World.cell?_of_block (w := w) e]; exact h.c1, by rw [World.cell?_of_block (w := w) e]; exact h.c2, by rw [World.cell?_of_block (w := w) e]; exact h.c3, by rw [World.cell?_of_block (w := w) e]; exact h.c4, by rw [World.cell?_of_block (w := w) e]; exact h.c5⟩
theorem Env.ok.of {E : Env} {w w' : World} {b : Nat} (h : E.ok w b) (hl : ∀ k, k < b -> w'.heap[k]? = w.heap[k]?) : E.ok w' b := by
 refine ⟨fun i hi => ?_, h.len, h.few, h.low, h.mlow, (hl _ h.mlow).trans h.map⟩;obtain ⟨g, o, h1, h2, h3⟩ := h.row i hi;exact ⟨g, o, h1, h2.of_heap (hl g (h.low g o h1)), h3⟩
theorem Wr.lt {w : World} {b : Nat} {E : Env} {X : List Pc} {t : Int} {out : List UInt8} (h : Wr w b E X t out) : b < w.heap.size := by
 obtain ⟨_, v, p, u, hb, _⟩ := h;exact Ay hb
theorem a0x {w w' : World} {B : Nat} {v : Value} {l : List Pc} (h : X9 w B v l) (hb : Below w.heap.size w w') : X9 w' B v l :=
 World.ownsRow.kept h (row := none) ⟨hb.os, hb.tape, hb.output, hb.size, fun k hk _ => hb.block k hk⟩ (by cases hv : v.ownBlock <;> simp)
theorem Wr.carry {w w' : World} {b : Nat} {E : Env} {X : List Pc} {t : Int} {out : List UInt8} (h : Wr w b E X t out) (hb : Below w.heap.size w w') : Wr w' b E X t out := by
 have hl := h.lt;obtain ⟨he, v, p, u, h1, h2, h3, h4⟩ := h;exact ⟨he.of fun k hk => hb.block k (by omega), v, p, u, (hb.block b hl).trans h1, a0x h2 hb, Fx h3 hb, h4⟩
theorem M5 {w : World} {B : Nat} {v : Value} {D : List Pc} (h : X9 w B v D) : ∃ a cap, v = .slice a D.length cap := by
 rcases h.2 with ⟨rfl, h0⟩ | ⟨g, cap, cur, rfl, _⟩
 ·exact ⟨none, 0, by rw [h0]⟩
 ·exact ⟨_, cap, rfl⟩
theorem a32 {w : World} {B : Nat} {v : Value} {D : List Pc} (h : X9 w B v D) : ∃ a n cap, v = .slice a n cap := by
 obtain ⟨a, cap, h⟩ := M5 h;exact ⟨a, _, cap, h⟩
theorem Ke {w : World} {B : Nat} {v : Value} {D : List Pc} (h : X9 w B v D) {k : Nat} (hk : v.ownBlock = some k) : B <= k ∧ ∃ cs, w.heap[k]? = some (.cells cs 71 (0, 0)) := by
 rcases h.2 with ⟨rfl, h0⟩ | ⟨g, cap, cur, rfl, hg0, hg, _⟩
 ·simp [Value.ownBlock] at hk
 ·simp [Value.ownBlock] at hk; subst hk; exact ⟨hg0, cur, hg⟩
theorem Iq {w : World} {B : Nat} {v : Value} {D : List UInt8} (h : Own w B v D) {k : Nat} (hk : v.ownBlock = some k) : B <= k ∧ ∃ cs, w.heap[k]? = some (.cells cs 5 (0, 0)) := by
 rcases h.2 with ⟨rfl, h0⟩ | ⟨g, cap, cur, rfl, hg0, hg, _⟩
 ·simp [Value.ownBlock] at hk
 ·simp [Value.ownBlock] at hk; subst hk; exact ⟨hg0, cur, hg⟩
theorem Tryz.info71 : (Tryz.prog.info? 71).map (fun i => (i.zero, i.size, i.bytes)) = some (some (.agg #[.string { data := #[] }, .int .i64 0, .int .i64 0, .int .i64 0]), 4, 40) := by kernel_rfl
theorem LiesP.made {news : Array Value} {cs : List Value} (w : World) (h : news.toList = cs) : Tk cs w.heap.size (w.alloc (.cells news 71)) := by
 subst h;refine ⟨by simp, fun j u hj => ?_⟩
 have hsz : j < news.size := by
  rcases Nat.lt_or_ge j news.size with h | h
  ·exact h
  ·rw [List.getElem?_eq_none (by simpa using h)] at hj; cases hj
 rw [D7];simp at hj;simp [go_sem, hj]
theorem b8t (l : List Pc) : ∀ u ∈ Cm l, u.oneCell' = true := by
 intro u hu;obtain ⟨p, _, hu⟩ := List.mem_flatMap.1 hu;simp only [Ev, List.mem_cons, List.not_mem_nil, or_false] at hu;rcases hu with rfl | rfl | rfl | rfl <;> rfl
theorem V7 {ops : Array Oper} {rest : List Oper} {o : Oper} {a : Act} {Q : Exit -> Act -> World -> Prop} {w : World} (hgd : o.guard = none) (s x : Operand)
  (ho : o.op = .call { callee := .builtin .append, args := #[s, x], argTypes := #[63, 63] }) (B : Nat) (v : Value) (l m : List Pc) (g k : Nat) (hs : a.eval s = v)
  (hx : a.eval x = .slice (some ⟨g, 0, none⟩) k k) (hk : m.length = k) (hm : Tk (Cm m) g w) (hown : X9 w B v l) (hB : B <= w.heap.size) (hl : l.length + k <= 100000000)
  (h : ∀ v' w', X9 w' B v' (l ++ m) -> w.grownBy w' v.ownBlock -> wpList prog ops Q rest (a.put o.dst v') w') : wpList prog ops Q (o :: rest) a w := by
 obtain ⟨i0, hi0, hz0, hz1, hz2⟩ := info_parts Tryz.info71;have hown' : w.ownsRow B 71 4 v l.length (Cm l) := hown;refine wpList_append_own _ hgd s x 63 ho B 71 i0 _ 4 40 underlying63 hi0 hz0 hz1 hz2 rfl (by decide) v l.length (Cm l) hs hown' ⟨g, 0, none⟩ k k (Cm m) hx (by rw [Gz, hk]) hm.2 (b8t m) ?_ ?_ ?_ ?_
 ·unfold maxLen; omega
 ·omega
 ·exact hB
 ·intro v' w' h1 h2 _;refine h v' w' ?_ h2;unfold X9;rw [List.length_append, Rj, hk];exact h1
def Put (b : Nat) (E : Env) (X : List Pc) (t : Int) (out : List UInt8) (P : List Pc) (w : World) (e : Ending) (w' : World) : Prop := e = .returned (.tuple #[]) ∧ Wr w' b E (X ++ P) t out ∧ Fw b w w'
theorem b2n {w W : World} {b : Nat} {E : Env} {X P : List Pc} {t : Int} {out : List UInt8} {v v' p u : Value} (he : E.ok w b) (hb : w.heap[b]? = some (.cells #[.slice E.a E.n E.cap, .map (some E.mb), v, .int .i64 t, p, u] 68 (0, 0)))
  (hv : X9 w (b + 1) v X) (hu : Own w (b + 1) u out) (hp : p = .pointer none ∨ p = .pointer (some ⟨b, 4, none⟩)) (ho : X9 W (b + 1) v' (X ++ P)) (hg : w.grownBy W v.ownBlock) :
  Wr (W.setCell ⟨b, 2, none⟩ v') b E (X ++ P) t out ∧ Fw b w (W.setCell ⟨b, 2, none⟩ v') := by
 have hbl := Ay hb;have hnb : ∀ k, k <= b -> some k ≠ v.ownBlock := fun k hk e => by have := (Ke hv e.symm).1; omega
 have hW : ∀ k, k < w.heap.size -> some k ≠ v.ownBlock -> W.heap[k]? = w.heap[k]? := fun k hk hn => hg.block k hk hn
 have hWb : W.heap[b]? = some (.cells #[.slice E.a E.n E.cap, .map (some E.mb), v, .int .i64 t, p, u] 68 (0, 0)) := (hW b hbl (hnb b (Nat.le_refl _))).trans hb
 have huW : Own W (b + 1) u out := World.ownsRow.kept hu (row := v.ownBlock) hg (by
  cases hx : u.ownBlock with
  | none => exact .inl rfl
  | some k =>
   refine .inr fun e => ?_
   obtain ⟨_, cs, h1⟩ := Ke hv e.symm;obtain ⟨_, cs', h2⟩ := Iq hu hx;rw [h1] at h2
   cases h2)
 refine ⟨⟨he.of fun k hk => ?_, v', p, u, ?_, ownsRow_setCell_below ho (by simp) _, ownsRow_setCell_below huW (by simp) _, hp⟩, ?_⟩
 ·rw [Below.heap_setCell _ _ _ _ (by simp; omega)];exact hW k (by omega) (hnb k (by omega))
 ·simp [World.setCell, Array.getElem?_modify, hWb]
 ·refine ⟨hg.os, hg.tape, hg.output, by simpa using hg.size, fun i hi => ?_, fun i cs e fz h1 h2 h3 h4 => ?_⟩
  ·rw [Below.heap_setCell _ _ _ _ (by simp; omega)];exact hW i (by omega) (hnb i (by omega))
  ·rw [Below.heap_setCell _ _ _ _ (by simpa using h2), <- h1];refine hW i (Ay h1) fun e2 => ?_
   obtain ⟨_, cs', h5⟩ := Ke hv e2.symm;rw [h1] at h5;cases h5;exact h3 rfl
theorem Ar {w : World} {b : Nat} {E : Env} {X P : List Pc} {t : Int} {out : List UInt8} (h : Wr w b E X t out) {g k : Nat} (hk : P.length = k) (hm : Tk (Cm P) g w) (hX : X.length + k <= 100000000) :
  Calls prog 82 #[pR b, .slice (some ⟨g, 0, none⟩) k k] w (Put b E X t out P w) := by
 have hbl := h.lt;obtain ⟨he, v, p, u, hb, hv, hu, hp⟩ := h;have c2 : w.cell? ⟨b, 2, none⟩ = some v := by simp [World.cell?, hb]
 have f2 : w.frozen? ⟨b, 2, none⟩ = false := by simp [World.frozen?, hb]
 have HE := zz he;have HB := zz hb;have HV := zz hv;have HU := zz hu;have HP := zz hp;have HM := zz hm;clear he hb hv hu hp hm;go_enter func82, ntmps82;go_wp2_with (at_builtin; refine V7 rfl _ _ rfl (b + 1) v X P g k rfl rfl hk HM.out HV.out (by omega) hX ?_; intro v' w2 ho2 hg2; have hnb : some b ≠ v.ownBlock := (fun e => by have := (Ke HV.out e.symm).1; omega); have j2 := hg2.cell c2 hnb; have j3 := (World.frozen?_of_block (a := ⟨b, 2, none⟩) (hg2.block b hbl hnb)).trans f2; obtain ⟨a2, n2, cp2, rfl⟩ := a32 ho2; replace ho2 := zz ho2; replace hg2 := zz hg2);refine bodyPost_end (v := .tuple #[]) (by simp [results, results82]) rfl ?_;have := b2n HE.out HB.out HV.out HU.out HP.out ho2.out hg2.out;exact ⟨rfl, this.1, this.2⟩
theorem Cy (s : ByteArray) (w : World) : Calls prog 83 #[.string s] w fun e w' => e = .returned (pcV s 0 0 0) ∧ Below w.heap.size w w' := by
 go_enter func83, ntmps83;go_wp2;refine bodyPost_ret (v := pcV s 0 0 0) (by simp [results, results83, go_sem]) rfl ⟨rfl, by go_grown⟩
theorem Lk (n : Nat) (w : World) : Calls prog 48 #[.int .i64 n] w fun e w' => e = .returned (pcV { data := #[] } n 0 0) ∧ Below w.heap.size w w' := by
 go_enter func48, ntmps48;go_wp2;refine bodyPost_ret (v := pcV { data := #[] } n 0 0) (by simp [results, results48, go_sem]) rfl ⟨rfl, by go_grown⟩
theorem a36 (n k : Nat) (w : World) : Calls prog 156 #[.int .i64 n, .int .i64 k] w fun e w' => e = .returned (pcV { data := #[] } n k 0) ∧ Below w.heap.size w w' := by
 go_enter func156, ntmps156;go_wp2;refine bodyPost_ret (v := pcV { data := #[] } n k 0) (by simp [results, results156, go_sem]) rfl ⟨rfl, by go_grown⟩
end
end Go.Proofs.YtoaplbljflhheaaGreat
