/-
 Contracts and plain facts on the way to PrettyBack. Conditions: as each says.
-/
import Derived.OneCell
import Derived.Test.YtoaplbljflhheaaGreatBaj
import Derived.Test.YtoaplbljflhheaaGreatBar
import Derived.Test.YtoaplbljflhheaaGreatBam
import Derived.Test.YtoaplbljflhheaaGreatBac
set_option maxHeartbeats 40000000
set_option maxRecDepth 100000
set_option linter.unusedVariables false
set_option linter.unusedSimpArgs false
namespace Go.Proofs.YtoaplbljflhheaaGreat
open _root_.Go.Proofs.Tryz
section
open Go.RowKit
def Da (l : List Nd) : List Value := l.flatMap Bn
theorem Dd (l : List Nd) : (Da l).length = l.length * 6 := by
 unfold Da
 induction l with
 | nil => rfl
 | cons t l ih => rw [List.flatMap_cons, List.length_append, ih]; simp [Bn]; omega
theorem G0 (l m : List Nd) : Da (l ++ m) = Da l ++ Da m := by simp [Da]
def Ov (w : World) (B : Nat) (v : Value) (l : List Nd) : Prop := w.ownsRow B 37 6 v l.length (Da l)
structure TAt (w : World) (b o : Nat) (t : Tok) : Prop where
 c0 : w.cell? ⟨b, o, none⟩ = some (.int .u8 t.kind)
 c1 : w.cell? ⟨b, o + 1, none⟩ = some (.int .i64 t.line)
 c2 : w.cell? ⟨b, o + 2, none⟩ = some (.int .i64 t.col)
 c3 : w.cell? ⟨b, o + 3, none⟩ = some (.int .i64 t.num)
 c4 : w.cell? ⟨b, o + 4, none⟩ = some (.string (bs t.text))
theorem TAt.of {w w' : World} {b o : Nat} {t : Tok} (h : TAt w b o t) (e : w'.heap[b]? = w.heap[b]?) : TAt w' b o t :=
 ⟨by rw [World.cell?_of_block (w := w) e]; exact h.c0, by rw [World.cell?_of_block (w := w) e]; exact h.c1, by rw [World.cell?_of_block (w := w) e]; exact h.c2, by rw [World.cell?_of_block (w := w) e]; exact h.c3, by rw [World.cell?_of_block (w := w) e]; exact h.c4⟩
structure Rd (w : World) (b : Nat) (tb to tc : Nat) (T : List Tok) (at_ : Nat) (d : Int) (v : Value) (D : List Nd) : Prop where
 c0 : w.cell? ⟨b, 0, none⟩ = some (.slice (some ⟨tb, to, none⟩) T.length tc)
 c1 : w.cell? ⟨b, 1, none⟩ = some (.int .i64 at_)
 c2 : w.cell? ⟨b, 2, none⟩ = some (.int .i64 d)
 c3 : w.cell? ⟨b, 3, none⟩ = some v
 c4 : ∃ u, w.cell? ⟨b, 4, none⟩ = some u
 c5 : ∃ u, w.cell? ⟨b, 5, none⟩ = some u
 c6 : ∃ u, w.cell? ⟨b, 6, none⟩ = some u
 fz : ∀ o, w.frozen? ⟨b, o, none⟩ = false
 tok : ∀ i t, T[i]? = some t -> TAt w tb (to + i * 5) t
 tl : tb < b
 tn : T.length <= 1000000
 own : Ov w (b + 1) v D
structure Rf (w : World) (b : Nat) (c : Int) (l k : Nat) : Prop where
 c2 : ∃ d : Int, w.cell? ⟨b, 2, none⟩ = some (.int .i64 d)
 c4 : w.cell? ⟨b, 4, none⟩ = some (.int .i64 c)
 c5 : w.cell? ⟨b, 5, none⟩ = some (.int .i64 l)
 c6 : w.cell? ⟨b, 6, none⟩ = some (.int .i64 k)
 fz : ∀ o, w.frozen? ⟨b, o, none⟩ = false
structure Onl (b : Nat) (w w' : World) : Prop where
 os : w'.os = w.os
 tape : w'.tape = w.tape
 output : w'.output = w.output
 size : w.heap.size <= w'.heap.size
 block : ∀ k, k < w.heap.size -> k ≠ b -> w'.heap[k]? = w.heap[k]?
structure Fr (b : Nat) (w w' : World) : Prop where
 os : w'.os = w.os
 tape : w'.tape = w.tape
 output : w'.output = w.output
 size : w.heap.size <= w'.heap.size
 low : ∀ k, k < b -> w'.heap[k]? = w.heap[k]?
 cells : ∀ k cs e fz, w.heap[k]? = some (.cells cs e fz) -> k ≠ b -> e ≠ 37 -> w'.heap[k]? = some (.cells cs e fz)
theorem Ay {w : World} {k : Nat} {O : Obj} (h : w.heap[k]? = some O) : k < w.heap.size := (Array.getElem?_eq_some_iff.1 h).1
theorem Onl.refl (b : Nat) (w : World) : Onl b w w := ⟨rfl, rfl, rfl, Nat.le_refl _, fun _ _ _ => rfl⟩
theorem Onl.trans {b : Nat} {x y z : World} (h : Onl b x y) (k : Onl b y z) : Onl b x z :=
 ⟨k.os.trans h.os, k.tape.trans h.tape, k.output.trans h.output, Nat.le_trans h.size k.size, fun i hi hb => (k.block i (Nat.lt_of_lt_of_le hi h.size) hb).trans (h.block i hi hb)⟩
theorem Onl.below {b : Nat} {x y : World} (h : Below x.heap.size x y) : Onl b x y := ⟨h.os, h.tape, h.output, h.size, fun k hk _ => h.block k hk⟩
theorem Onl.set (b : Nat) (w : World) (o : Nat) (u : Value) : Onl b w (w.setCell ⟨b, o, none⟩ u) :=
 ⟨rfl, rfl, rfl, by simp, fun k hk hb => Below.heap_setCell w _ u k hb⟩
theorem Fr.refl (b : Nat) (w : World) : Fr b w w := ⟨rfl, rfl, rfl, Nat.le_refl _, fun _ _ => rfl, fun _ _ _ _ h _ _ => h⟩
theorem Fr.trans {b : Nat} {x y z : World} (h : Fr b x y) (k : Fr b y z) : Fr b x z :=
 ⟨k.os.trans h.os, k.tape.trans h.tape, k.output.trans h.output, Nat.le_trans h.size k.size, fun i hi => (k.low i hi).trans (h.low i hi), fun i cs e fz h1 h2 h3 => k.cells i cs e fz (h.cells i cs e fz h1 h2 h3) h2 h3⟩
theorem Fr.only {b : Nat} {x y : World} (h : Onl b x y) (hb : b <= x.heap.size) : Fr b x y :=
 ⟨h.os, h.tape, h.output, h.size, fun i hi => h.block i (by omega) (by omega), fun i cs e fz h1 h2 h3 => (h.block i (Ay h1) h2).trans h1⟩
theorem Rd.lt {w : World} {b tb to tc : Nat} {T : List Tok} {at_ : Nat} {d : Int} {v : Value} {D : List Nd} (h : Rd w b tb to tc T at_ d v D) : b < w.heap.size := block_lt_of_cell h.c0
theorem Rf.lt {w : World} {b : Nat} {c : Int} {l k : Nat} (h : Rf w b c l k) : b < w.heap.size := block_lt_of_cell h.c4
theorem Rd.carry {w w' : World} {b tb to tc : Nat} {T : List Tok} {at_ : Nat} {d : Int} {v : Value} {D : List Nd} (h : Rd w b tb to tc T at_ d v D) (hb : Below w.heap.size w w') : Rd w' b tb to tc T at_ d v D := by
 obtain ⟨x4, h4⟩ := h.c4;obtain ⟨x5, h5⟩ := h.c5;obtain ⟨x6, h6⟩ := h.c6
 exact ⟨Ac hb h.c0, Ac hb h.c1, Ac hb h.c2, Ac hb h.c3, ⟨x4, Ac hb h4⟩, ⟨x5, Ac hb h5⟩, ⟨x6, Ac hb h6⟩, fun o => C2 hb h.c0 (h.fz o),
  fun i t ht => (h.tok i t ht).of (hb.block tb (Nat.lt_trans h.tl h.lt)), h.tl, h.tn,
  World.ownsRow.kept h.own (row := none) ⟨hb.os, hb.tape, hb.output, hb.size, fun k hk _ => hb.block k hk⟩ (by cases hv : v.ownBlock <;> simp)⟩
theorem Rf.carry {w w' : World} {b : Nat} {c : Int} {l k : Nat} (h : Rf w b c l k) (hb : Below w.heap.size w w') : Rf w' b c l k := by
 obtain ⟨x, h2⟩ := h.c2;exact ⟨⟨x, Ac hb h2⟩, Ac hb h.c4, Ac hb h.c5, Ac hb h.c6, fun o => C2 hb h.c4 (h.fz o)⟩
abbrev tV (t : Tok) : Value := .agg #[.int .u8 t.kind, .int .i64 t.line, .int .i64 t.col, .int .i64 t.num, .string (bs t.text)]
abbrev pR (b : Nat) : Value := .pointer (some ⟨b, 0, none⟩)
theorem Sn {w : World} {b tb to tc : Nat} {T : List Tok} {at_ : Nat} {d : Int} {v : Value} {D : List Nd} (h : Rd w b tb to tc T at_ d v D) {t : Tok} (ht : T[at_]? = some t) :
  Calls prog 65 #[pR b] w fun e w' => e = .returned (tV t) ∧ Below w.heap.size w w' := by
 have hlt : at_ < T.length := (List.getElem?_eq_some_iff.1 ht).1;obtain ⟨n, hn⟩ : ∃ n, T.length = n := ⟨_, rfl⟩;have c0 := h.c0;have c1 := h.c1;obtain ⟨t0, t1, t2, t3, t4⟩ := h.tok _ _ ht;have htn := h.tn;rw [hn] at c0 hlt htn;have hbl := h.lt;have htl : tb < w.heap.size := Nat.lt_trans h.tl h.lt;obtain ⟨kd, ln, cl, nm, tx⟩ := t;clear h ht hn;go_enter func65, ntmps65;go_wp2;go_region;go_wp2;refine bodyPost_ret (v := tV ⟨kd, ln, cl, nm, tx⟩) (by simp [results, results65, go_sem]) rfl ⟨rfl, by go_grown⟩
theorem A4 (l : List UInt8) : (bs l).toList = l := by rw [ByteArray.toList_eq, B9]
theorem a2v {w : World} {b : Nat} {kd ln cl : Nat} {nm : Int} {X s : ByteArray} (H : Hid (∀ w', Below w.heap.size w w' -> Calls prog 65 #[pR b] w' fun e w'' => e = .returned (.agg #[.int .u8 kd, .int .i64 ln, .int .i64 cl, .int .i64 nm, .string X]) ∧ Below w'.heap.size w' w'')) (q : Bool)
  (hq : Hid (decide ((kd = 6 ∨ kd = 7) ∧ X.toList = s.toList) = q)) :
  Calls prog 98 #[pR b, .string s] w fun e w' => e = .returned (.bool q) ∧ Below w.heap.size w w' := by
 by_cases k6 : kd = 6
 ·have e6 : ((kd : Int) == 6) = true := by rw [k6]; rfl
  by_cases hx : X.toList = s.toList
  ·obtain rfl : q = true := by rw [<- hq.out]; simp [k6, hx]
   have ex : (X.toList == s.toList) = true := by rw [hx]; simp
   clear k6 hx hq;go_enter func98, ntmps98;go_wp2_with fail;refine (H.out _ (Below.refl _ _)).mono ?_;rintro e w1 ⟨rfl, hb⟩;have hz := hb.size;go_wp2_with fail;go_ret;exact ⟨rfl, by go_grown⟩
  ·obtain rfl : q = false := by rw [<- hq.out]; simp [hx]
   have ex : (X.toList == s.toList) = false := by simpa using hx
   clear k6 hx hq;go_enter func98, ntmps98;go_wp2_with fail;refine (H.out _ (Below.refl _ _)).mono ?_;rintro e w1 ⟨rfl, hb⟩;have hz := hb.size;go_wp2_with fail;go_ret;exact ⟨rfl, by go_grown⟩
 ·have e6 : ((kd : Int) == 6) = false := by rw [beq_eq_false_iff_ne]; omega
  by_cases k7 : kd = 7
  ·have e7 : ((kd : Int) == 7) = true := by rw [k7]; rfl
   by_cases hx : X.toList = s.toList
   ·obtain rfl : q = true := by rw [<- hq.out]; simp [k7, hx]
    have ex : (X.toList == s.toList) = true := by rw [hx]; simp
    clear k6 k7 hx hq;go_enter func98, ntmps98;go_wp2_with fail;refine (H.out _ (Below.refl _ _)).mono ?_;rintro e w1 ⟨rfl, hb⟩;have hz := hb.size;go_wp2_with fail;go_ret;exact ⟨rfl, by go_grown⟩
   ·obtain rfl : q = false := by rw [<- hq.out]; simp [hx]
    have ex : (X.toList == s.toList) = false := by simpa using hx
    clear k6 k7 hx hq;go_enter func98, ntmps98;go_wp2_with fail;refine (H.out _ (Below.refl _ _)).mono ?_;rintro e w1 ⟨rfl, hb⟩;have hz := hb.size;go_wp2_with fail;go_ret;exact ⟨rfl, by go_grown⟩
  ·have e7 : ((kd : Int) == 7) = false := by rw [beq_eq_false_iff_ne]; omega
   obtain rfl : q = false := by rw [<- hq.out]; simp [k6, k7]
   clear k6 k7 hq;go_enter func98, ntmps98;go_wp2_with fail;refine (H.out _ (Below.refl _ _)).mono ?_;rintro e w1 ⟨rfl, hb⟩;have hz := hb.size;go_wp2_with fail;go_ret;exact ⟨rfl, by go_grown⟩
theorem Ah {w : World} {b tb to tc : Nat} {T : List Tok} {at_ : Nat} {d : Int} {v : Value} {D : List Nd} (h : Rd w b tb to tc T at_ d v D) {t : Tok} (ht : T[at_]? = some t) (s : ByteArray) (x : List UInt8) (hx : s.toList = x) (q : Bool) (hq : Lr x t = q) :
  Calls prog 98 #[pR b, .string s] w fun e w' => e = .returned (.bool q) ∧ Below w.heap.size w w' := by
 refine a2v (kd := t.kind) (ln := t.line) (cl := t.col) (nm := t.num) (X := bs t.text) (zz fun w' hb => Sn (h.carry hb) ht) q (zz ?_);rw [A4, hx];exact hq
theorem b8g {w : World} {b : Nat} {d c : Int} {l k : Nat} {x4 x5 x6 : Value} (d2 : w.cell? ⟨b, 2, none⟩ = some (.int .i64 d)) (d4 : w.cell? ⟨b, 4, none⟩ = some x4) (d5 : w.cell? ⟨b, 5, none⟩ = some x5) (d6 : w.cell? ⟨b, 6, none⟩ = some x6) (df : ∀ o, w.frozen? ⟨b, o, none⟩ = false) :
  Rf (((w.setCell ⟨b, 4, none⟩ (.int .i64 c)).setCell ⟨b, 5, none⟩ (.int .i64 l)).setCell ⟨b, 6, none⟩ (.int .i64 k)) b c l k :=
 ⟨⟨d, by simp [go_sem, d2]⟩, by simp [go_sem, d4], by simp [go_sem, d5], by simp [go_sem, d6], fun o => by simp [go_sem, df]⟩
def c26 (b : Nat) (w : World) (c : Int) (l k : Nat) (e : Ending) (w' : World) : Prop := e = .returned (.bool false) ∧ Rf w' b c l k ∧ Onl b w w'
theorem Mr {w : World} {b tb to tc : Nat} {T : List Tok} {at_ : Nat} {d : Int} {v : Value} {D : List Nd} (h : Rd w b tb to tc T at_ d v D) {t : Tok} (ht : T[at_]? = some t) (c : Int) :
  Calls prog 97 #[pR b, .int .i64 c] w (c26 b w c t.line t.col) := by
 have H := zz (fun w' hb => Sn (h.carry (w' := w') hb) ht);obtain ⟨c0, c1, c2, c3, ⟨x4, c4⟩, ⟨x5, c5⟩, ⟨x6, c6⟩, fz, -, -, -, -⟩ := h;have hbl := block_lt_of_cell c0;obtain ⟨kd, ln, cl, nm, tx⟩ := t;clear ht;go_enter func97, ntmps97;go_wp2_with fail;refine (H.out _ (Below.refl _ _)).mono ?_;rintro e w1 ⟨rfl, hb⟩;have d2 := Ac hb c2;have d4 := Ac hb c4;have d5 := Ac hb c5;have d6 := Ac hb c6;have df := fun o => C2 hb c0 (fz o)
 have hbl1 := block_lt_of_cell d4;clear c0 c1 c2 c3 c4 c5 c6 fz;replace hb := zz hb;go_wp2_with fail;go_ret;exact ⟨rfl, (b8g d2 d4 d5 d6 df).carry (Aa _ _), (((Onl.below hb.out).trans (Onl.set _ _ _ _)).trans ((Onl.set _ _ _ _).trans (Onl.set _ _ _ _))).trans (Onl.below (Aa _ _))⟩
theorem Rd.bump {w : World} {b tb to tc : Nat} {T : List Tok} {at_ : Nat} {d : Int} {v : Value} {D : List Nd} (h : Rd w b tb to tc T at_ d v D) (n : Nat) : Rd (w.setCell ⟨b, 1, none⟩ (.int .i64 n)) b tb to tc T n d v D := by
 have hs : ∀ o, (w.setCell ⟨b, 1, none⟩ (.int .i64 (n : Nat))).frozen? ⟨b, o, none⟩ = false := fun o => by simp [go_sem, h.fz o]
 obtain ⟨x4, h4⟩ := h.c4;obtain ⟨x5, h5⟩ := h.c5;obtain ⟨x6, h6⟩ := h.c6;refine ⟨by simp [go_sem, h.c0], by simp [go_sem, h.c1], by simp [go_sem, h.c2], by simp [go_sem, h.c3], ⟨x4, by simp [go_sem, h4]⟩, ⟨x5, by simp [go_sem, h5]⟩, ⟨x6, by simp [go_sem, h6]⟩, hs, ?_, h.tl, h.tn, ?_⟩
 ·exact fun i t ht => (h.tok i t ht).of (Below.heap_setCell _ _ _ _ (by have := h.tl; simp; omega))
 ·exact ownsRow_setCell_below h.own (by simp) _
theorem Rd.deep {w : World} {b tb to tc : Nat} {T : List Tok} {at_ : Nat} {d : Int} {v : Value} {D : List Nd} (h : Rd w b tb to tc T at_ d v D) (n : Int) : Rd (w.setCell ⟨b, 2, none⟩ (.int .i64 n)) b tb to tc T at_ n v D := by
 have hs : ∀ o, (w.setCell ⟨b, 2, none⟩ (.int .i64 n)).frozen? ⟨b, o, none⟩ = false := fun o => by simp [go_sem, h.fz o]
 obtain ⟨x4, h4⟩ := h.c4;obtain ⟨x5, h5⟩ := h.c5;obtain ⟨x6, h6⟩ := h.c6;refine ⟨by simp [go_sem, h.c0], by simp [go_sem, h.c1], by simp [go_sem, h.c2], by simp [go_sem, h.c3], ⟨x4, by simp [go_sem, h4]⟩, ⟨x5, by simp [go_sem, h5]⟩, ⟨x6, by simp [go_sem, h6]⟩, hs, ?_, h.tl, h.tn, ?_⟩
 ·exact fun i t ht => (h.tok i t ht).of (Below.heap_setCell _ _ _ _ (by have := h.tl; simp; omega))
 ·exact ownsRow_setCell_below h.own (by simp) _
theorem Rf.deep {w : World} {b : Nat} {c : Int} {l k : Nat} (h : Rf w b c l k) (n : Int) : Rf (w.setCell ⟨b, 2, none⟩ (.int .i64 n)) b c l k := by
 obtain ⟨x, h2⟩ := h.c2;exact ⟨⟨n, by simp [go_sem, h2]⟩, by simp [go_sem, h.c4], by simp [go_sem, h.c5], by simp [go_sem, h.c6], fun o => by simp [go_sem, h.fz o]⟩
theorem Oh {w : World} {b tb to tc : Nat} {T : List Tok} {at_ : Nat} {d : Int} {v : Value} {D : List Nd} (h : Rd w b tb to tc T at_ d v D) {t : Tok} (ht : T[at_]? = some t) :
  Calls prog 173 #[pR b, .bool true] w fun e w' => e = .returned (.bool true) ∧ Rd w' b tb to tc T (at_ + 1) d v D ∧ Onl b w w' := by
 have hlt : at_ < T.length := (List.getElem?_eq_some_iff.1 ht).1;have htn := h.tn;have hn : at_ < 1000000 := by omega
 have H := zz h;have c1 := h.c1;have fz := h.fz;clear h ht hlt htn;go_enter func173, ntmps173;go_wp2_with fail;go_ret;have := H.out.bump (at_ + 1);exact ⟨rfl, by simpa using this, Onl.set _ _ _ _⟩
theorem Se {w : World} {b tb to tc : Nat} {T : List Tok} {at_ : Nat} {d : Int} {v : Value} {D : List Nd} (h : Rd w b tb to tc T at_ d v D) {t : Tok} (ht : T[at_]? = some t) :
  Calls prog 173 #[pR b, .bool false] w (c26 b w 5 t.line t.col) := by
 have H := zz (fun w' hb => Mr (h.carry (w' := w') hb) ht 5);clear h ht;go_enter func173, ntmps173;go_wp2_with fail;refine (H.out _ (Below.refl _ _)).mono ?_;rintro e w1 ⟨rfl, h1, h2⟩;go_wp2_with fail;go_ret;exact ⟨rfl, h1, h2⟩
theorem Wi (kd ln cl : Nat) (nm : Int) (X : ByteArray) (w : World) : (Instr.field 89 (.agg #[.int .u8 kd, .int .i64 ln, .int .i64 cl, .int .i64 nm, .string X]) 0).run prog w = .ok (.int .u8 kd) w := by kernel_rfl
theorem a7n (kd ln cl : Nat) (nm : Int) (X : ByteArray) (w : World) : (Instr.field 89 (.agg #[.int .u8 kd, .int .i64 ln, .int .i64 cl, .int .i64 nm, .string X]) 4).run prog w = .ok (.string X) w := by kernel_rfl
end
section
section
open Go.RowKit Go.Sort
def Jn (i : Nat) (o : One) (w : World) (e : Ending) (w' : World) : Prop :=
 ∃ k : Nat, e = .returned (.tuple #[Jl k 0 0 o.num (bs o.text), .int .i64 ((if o.err = 0 then i + o.size else 0 : Nat) : Nat), .int .i64 o.err]) ∧ (o.err = 0 -> k = o.kind) ∧ Below w.heap.size w w'
theorem b38 {i k m : Nat} {n : Int} {t : List UInt8} {o : One} {w w' : World} (h : o = ⟨0, m, k, n, t⟩) {E : Nat} (hE : E = i + m) (hb : Below w.heap.size w w') : Jn i o w (.returned (.tuple #[Jl k 0 0 n (bs t), .int .i64 (E : Nat), .int .i64 0])) w' := by
 subst h hE;exact ⟨k, rfl, fun _ => rfl, hb⟩
theorem Sc {i k : Nat} {e : Int} {o : One} {w w' : World} (h : o = bad e) (he : e ≠ 0) (hb : Below w.heap.size w w') : Jn i o w (.returned (.tuple #[Jl k 0 0 0 { data := #[] }, .int .i64 0, .int .i64 e])) w' := by
 subst h;refine ⟨k, ?_, fun h => absurd h he, hb⟩;have : (if (bad e).err = 0 then i + (bad e).size else 0) = 0 := if_neg he;rw [this]; rfl
theorem kd3 (c : UInt8) : kdN c = 3 ↔ dgt c = true := by
 cases hd : dgt c with
 | true =>
  have h := hd;unfold dgt at h;rw [Bool.and_eq_true, decide_eq_true_eq, decide_eq_true_eq] at h;have a3 : ¬ c = 95 := fun e => by rw [e] at h; exact absurd h.2 (by decide)
  have a1 : sml c = false := by simp [sml, a3]; omega
  have a2 : grt c = false := by simp [grt]; omega
  rw [kdN, a1, a2, hd]; simp
 | false =>
  unfold kdN;rw [hd];cases sml c <;> cases grt c <;> simp
abbrev Qz : Obj := Obj.cells #[Value.int IntKind.u8 0, Value.int IntKind.i64 0, Value.int IntKind.i64 0, Value.int IntKind.i64 0, Value.string { data := #[] }] 89
theorem c1c {w W w1 : World} (hW : Below (w.heap.size + 1) (w.alloc Qz) W) (hb : Below W.heap.size W w1) : w1.cell? ⟨w.heap.size, 0, none⟩ = some (.int .u8 0) ∧ w1.cell? ⟨w.heap.size, 1, none⟩ = some (.int .i64 0) ∧ w1.cell? ⟨w.heap.size, 2, none⟩ = some (.int .i64 0) ∧
  w1.cell? ⟨w.heap.size, 3, none⟩ = some (.int .i64 0) ∧ w1.cell? ⟨w.heap.size, 4, none⟩ = some (.string { data := #[] }) ∧ ∀ o, w1.frozen? ⟨w.heap.size, o, none⟩ = false := by
 have hz : (w.alloc Qz).heap.size = w.heap.size + 1 := by simp
 have hs := hW.size;have h : Below (w.alloc Qz).heap.size (w.alloc Qz) w1 := by rw [hz]; exact hW.trans (hb.mono (by omega))
 refine ⟨?_, ?_, ?_, ?_, ?_, fun o => ?_⟩
 ·rw [(Cr h).1 _ _ (by omega)]; simp [go_sem]
 ·rw [(Cr h).1 _ _ (by omega)]; simp [go_sem]
 ·rw [(Cr h).1 _ _ (by omega)]; simp [go_sem]
 ·rw [(Cr h).1 _ _ (by omega)]; simp [go_sem]
 ·rw [(Cr h).1 _ _ (by omega)]; simp [go_sem]
 ·rw [(Cr h).2 _ _ (by omega)]; simp [go_sem]
end
end
section
section
open Go.RowKit Go.Sort
end
end
end Go.Proofs.YtoaplbljflhheaaGreat
