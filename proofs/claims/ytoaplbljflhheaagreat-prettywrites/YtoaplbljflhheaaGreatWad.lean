/-
 Contracts and plain facts on the way to PrettyWrites. Conditions: as each says.
-/
import Derived.Test.YtoaplbljflhheaaGreatWab
set_option maxHeartbeats 40000000
set_option maxRecDepth 100000
set_option linter.unusedVariables false
set_option linter.unusedSimpArgs false
namespace Go.Proofs.YtoaplbljflhheaaGreat
open Go.RowKit
structure Nd where
 kind : Nat
 line : Int
 col : Int
 size : Int
 num : Int
 text : ByteArray
def Ax (z : Int) : Prop := -9223372036854775808 ≤ z ∧ z ≤ 9223372036854775807
structure Nd.wf (n : Nd) : Prop where
 kind : n.kind < 256
 line : Ax n.line
 col : Ax n.col
 size : Ax n.size
 num : Ax n.num
 text : n.text.size ≤ maxLen
def nd0 : Nd := ⟨0, 0, 0, 0, 0, { data := #[] }⟩
def nd (l : List Nd) (i : Nat) : Nd := l.getD i nd0
def sz (l : List Nd) (i : Nat) : Int := (nd l i).size
def Be (n : Nd) : List Value := [.int .u8 n.kind, .int .i64 n.line, .int .i64 n.col, .int .i64 n.size, .int .i64 n.num, .string n.text]
abbrev ndV (n : Nd) : Value := .agg #[.int .u8 n.kind, .int .i64 n.line, .int .i64 n.col, .int .i64 n.size, .int .i64 n.num, .string n.text]
structure At (w : World) (b o : Nat) (n : Nd) : Prop where
 c0 : w.cell? ⟨b, o, none⟩ = some (.int .u8 n.kind)
 c1 : w.cell? ⟨b, o + 1, none⟩ = some (.int .i64 n.line)
 c2 : w.cell? ⟨b, o + 2, none⟩ = some (.int .i64 n.col)
 c3 : w.cell? ⟨b, o + 3, none⟩ = some (.int .i64 n.size)
 c4 : w.cell? ⟨b, o + 4, none⟩ = some (.int .i64 n.num)
 c5 : w.cell? ⟨b, o + 5, none⟩ = some (.string n.text)
theorem At.carry {w w' : World} {b o : Nat} {n : Nd} (h : At w b o n) (hb : Below w.heap.size w w') : At w' b o n :=
 ⟨Ad hb h.c0, Ad hb h.c1, Ad hb h.c2, Ad hb h.c3, Ad hb h.c4, Ad hb h.c5⟩
def Row (w : World) (a : Option Addr) (l : List Nd) : Prop :=
 ∀ i, i < l.length → ∃ b o, a = some ⟨b, o, none⟩ ∧ At w b (o + i * 6) (nd l i) ∧ (nd l i).wf
theorem Row.carry {w w' : World} {a : Option Addr} {l : List Nd} (h : Row w a l) (hb : Below w.heap.size w w') : Row w' a l := fun i hi => by
 obtain ⟨b, o, h1, h2, h3⟩ := h i hi
 exact ⟨b, o, h1, h2.carry hb, h3⟩
end Go.Proofs.YtoaplbljflhheaaGreat
namespace Go.Proofs.YtoaplbljflhheaaGreat
section
def hx (n : Nat) : UInt8 := if n < 10 then UInt8.ofNat (48 + n) else UInt8.ofNat (87 + n)
def esc (c : UInt8) : List UInt8 :=
 if c = 34 ∨ c = 92 then [92, c] else if c = 10 then [92, 110] else if c = 9 then [92, 116]
 else if c.toNat < 32 ∨ 126 < c.toNat then [92, 120, hx (c.toNat / 16), hx (c.toNat % 16)] else [c]
def F7 (l : List UInt8) : List UInt8 := l.flatMap esc
def lit (l : List UInt8) : List UInt8 := 34 :: (F7 l ++ [34])
def dg (c : UInt8) : Option Nat :=
 if 48 ≤ c.toNat ∧ c.toNat ≤ 57 then some (c.toNat - 48) else if 97 ≤ c.toNat ∧ c.toNat ≤ 102 then some (c.toNat - 87)
 else if 65 ≤ c.toNat ∧ c.toNat ≤ 70 then some (c.toNat - 55) else none
def bk (c : UInt8) : Option UInt8 := if c = 34 ∨ c = 92 then some c else if c = 110 then some 10 else if c = 116 then some 9 else none
abbrev Rb := UInt8 × Nat × Bool
def rd : List UInt8 → Rb
 | [] => (0, 2, false)
 | e :: v => match dg e with
  | none => (0, 2, false)
  | some x => match v with
   | [] => (0, 3, false)
   | f :: _ => match dg f with
    | none => (0, 3, false)
    | some y => (UInt8.ofNat (16 * x + y), 4, true)
def rb : List UInt8 → Rb
 | [] => (0, 0, false)
 | c :: t => if c.toNat < 32 ∨ 126 < c.toNat then (0, 0, false) else if c = 92 then (match t with
   | [] => (0, 1, false)
   | d :: u => if d = 120 then rd u else match bk d with
    | none => (0, 1, false)
    | some b => (b, 2, true)) else (c, 1, true)
theorem O2 : rd [] = (0, 2, false) := rfl
theorem O3 (e : UInt8) (v : List UInt8) (h : dg e = none) : rd (e :: v) = (0, 2, false) := by simp [rd, h]
theorem O1 (e : UInt8) (x : Nat) (h : dg e = some x) : rd [e] = (0, 3, false) := by simp [rd, h]
theorem Kn (e f : UInt8) (v : List UInt8) (x : Nat) (h : dg e = some x) (h2 : dg f = none) : rd (e :: f :: v) = (0, 3, false) := by simp [rd, h, h2]
theorem O0 (e f : UInt8) (v : List UInt8) (x y : Nat) (h : dg e = some x) (h2 : dg f = some y) : rd (e :: f :: v) = (UInt8.ofNat (16 * x + y), 4, true) := by simp [rd, h, h2]
theorem Yg : rb [] = (0, 0, false) := rfl
theorem O4 (c : UInt8) (t : List UInt8) (h : c.toNat < 32 ∨ 126 < c.toNat) : rb (c :: t) = (0, 0, false) := by
 rw [rb.eq_def]; exact if_pos h
theorem Ie (c : UInt8) (t : List UInt8) (h : ¬ (c.toNat < 32 ∨ 126 < c.toNat)) (h2 : c ≠ 92) : rb (c :: t) = (c, 1, true) := by
 rw [rb.eq_def]; exact (if_neg h).trans (if_neg h2)
theorem O5 : rb [92] = (0, 1, false) := by decide
theorem a87 (u : List UInt8) : rb (92 :: 120 :: u) = rd u := by rw [rb, if_neg (by decide), if_pos rfl]; rfl
theorem O6 (d : UInt8) (u : List UInt8) (h : d ≠ 120) (b : UInt8) (hb : bk d = some b) : rb (92 :: d :: u) = (b, 2, true) := by
 rw [rb, if_neg (by decide), if_pos rfl]; simp [h, hb]
theorem Yf (d : UInt8) (u : List UInt8) (h : d ≠ 120) (hb : bk d = none) : rb (92 :: d :: u) = (0, 1, false) := by
 rw [rb, if_neg (by decide), if_pos rfl]; simp [h, hb]
theorem a62 (l : List UInt8) (h : (rb l).2.2 = true) : ∃ p u b, l = p ++ u ∧ 1 ≤ p.length ∧ ∀ m, rb (p ++ m) = (b, p.length, true) := by
 match l with
 | [] => simp [Yg] at h
 | c :: t =>
  by_cases h1 : c.toNat < 32 ∨ 126 < c.toNat
  ·simp [O4 c t h1] at h
  ·by_cases h2 : c = 92
   ·subst h2
    match t with
    | [] => simp [O5] at h
    | d :: u =>
     by_cases h3 : d = 120
     ·subst h3
      rw [a87] at h
      match u with
      | [] => simp [O2] at h
      | e :: v =>
       cases he : dg e with
       | none => simp [O3 e v he] at h
       | some x =>
        match v with
        | [] => simp [O1 e x he] at h
        | f :: v =>
         cases hf : dg f with
         | none => simp [Kn e f v x he hf] at h
         | some y => exact ⟨[92, 120, e, f], v, _, rfl, by simp, fun m => by
           show rb (92 :: 120 :: e :: f :: m) = _
           rw [a87, O0 e f m x y he hf]; rfl⟩
     ·cases hb : bk d with
      | none => simp [Yf d u h3 hb] at h
      | some b => exact ⟨[92, d], u, b, rfl, by simp, fun m => O6 d m h3 b hb⟩
   ·exact ⟨[c], t, c, rfl, by simp, fun m => Ie c m h1 h2⟩
theorem Fq (l : List UInt8) (h : (rb l).2.2 = true) : 1 ≤ (rb l).2.1 ∧ (rb l).2.1 ≤ l.length := by
 obtain ⟨p, u, b, rfl, h1, h2⟩ := a62 l h
 rw [h2]; simp; omega
def Ci (l : List UInt8) : List UInt8 × Nat × Bool :=
 if l.head? = some 34 then ([], 1, true)
 else if h : (rb l).2.2 = true then
  ((rb l).1 :: (Ci (l.drop (rb l).2.1)).1, (rb l).2.1 + (Ci (l.drop (rb l).2.1)).2.1, (Ci (l.drop (rb l).2.1)).2.2)
 else ([], (rb l).2.1, false)
termination_by l.length
decreasing_by all_goals (have := Fq l h; simp; omega)
def unq (l : List UInt8) : List UInt8 :=
 if h : (rb l).2.2 = true then (rb l).1 :: unq (l.drop (rb l).2.1) else []
termination_by l.length
decreasing_by (have := Fq l h; simp; omega)
def Bb (l : List UInt8) : List UInt8 × Nat × Bool :=
 if l.head? = some 34 then ((Ci l.tail).1, 1 + (Ci l.tail).2.1, (Ci l.tail).2.2) else ([], 0, false)
theorem Dk (l : List UInt8) (h : l.head? = some 34) : Ci l = ([], 1, true) := by rw [Ci, if_pos h]
theorem Et (l : List UInt8) (h : ¬ l.head? = some 34) (h2 : (rb l).2.2 = false) : Ci l = ([], (rb l).2.1, false) := by
 rw [Ci, if_neg h, dif_neg (by simp [h2])]
theorem D8 (l : List UInt8) (h : ¬ l.head? = some 34) (h2 : (rb l).2.2 = true) : Ci l =
  ((rb l).1 :: (Ci (l.drop (rb l).2.1)).1, (rb l).2.1 + (Ci (l.drop (rb l).2.1)).2.1, (Ci (l.drop (rb l).2.1)).2.2) := by
 rw [Ci, if_neg h, dif_pos h2]
theorem b05 (l m : List UInt8) (h : (rb l).2.2 = true) : rb (l ++ m) = rb l := by
 obtain ⟨p, u, b, rfl, h1, h2⟩ := a62 l h
 rw [List.append_assoc, h2, h2]
theorem So (l : List UInt8) (h : (rb l).2.2 = true) (n : Nat) (hn : (rb l).2.1 ≤ n) : rb (l.take n) = rb l := by
 obtain ⟨p, u, b, rfl, h1, h2⟩ := a62 l h
 rw [h2] at hn ⊢
 simp only at hn
 rw [List.take_append, List.take_of_length_le hn, h2]
theorem a05 (n : Nat) : ∀ l : List UInt8, l.length ≤ n → (Ci l).2.2 = true → 1 ≤ (Ci l).2.1 ∧ (Ci l).2.1 ≤ l.length ∧ unq (l.take ((Ci l).2.1 - 1)) = (Ci l).1 := by
 induction n with
 | zero =>
  intro l hl h
  obtain rfl : l = [] := List.eq_nil_of_length_eq_zero (by omega)
  simp [Ci, rb] at h
 | succ n ih =>
  intro l hl h
  by_cases hq : l.head? = some 34
  ·rw [Dk l hq]
   refine ⟨Nat.le_refl _, ?_, ?_⟩
   ·cases l with
    | nil => simp at hq
    | cons => simp
   ·rw [unq]; simp [rb]
  ·by_cases hb : (rb l).2.2 = true
   ·have hs := D8 l hq hb
    have hz := Fq l hb
    obtain ⟨h1, h2, h3⟩ := ih (l.drop (rb l).2.1) (by simp; omega) (by rw [hs] at h; exact h)
    rw [hs]
    simp only [List.length_drop] at h2
    refine ⟨by simp; omega, by simp; omega, ?_⟩
    have ht := So l hb ((rb l).2.1 + (Ci (l.drop (rb l).2.1)).2.1 - 1) (by omega)
    rw [unq]
    simp only [ht, hb, dif_pos]
    rw [← h3, List.drop_take]
    simp only [List.cons.injEq, true_and]
    congr 2
    omega
   ·rw [Et l hq (by simpa using hb)] at h
    simp at h
theorem a3w : ∀ n : Fin 256, let c := UInt8.ofNat n.val; rb (esc c) = (c, (esc c).length, true) ∧ (esc c).head? ≠ some 34 ∧ 1 ≤ (esc c).length ∧ (esc c).length ≤ 4 ∧
  ∀ i : Fin 4, i.val < (esc c).length → (rb ((esc c).take i.val)).2 = (i.val, false) ∧ ((esc c).take i.val).head? ≠ some 34 := by
 decide +kernel
theorem Z3 (c : UInt8) : rb (esc c) = (c, (esc c).length, true) ∧ (esc c).head? ≠ some 34 ∧ 1 ≤ (esc c).length ∧ (esc c).length ≤ 4 ∧
  ∀ i, i < (esc c).length → (rb ((esc c).take i)).2 = (i, false) ∧ ((esc c).take i).head? ≠ some 34 := by
 have h := a3w ⟨c.toNat, c.toNat_lt⟩
 simp only [UInt8.ofNat_toNat] at h
 obtain ⟨h1, h2, h3, h4, h5⟩ := h
 exact ⟨h1, h2, h3, h4, fun i hi => h5 ⟨i, by omega⟩ hi⟩
theorem J4 (l : List UInt8) : (F7 l).length ≤ 4 * l.length := by
 induction l with
 | nil => simp [F7]
 | cons c t ih =>
  have e : F7 (c :: t) = esc c ++ F7 t := by simp [F7]
  have := (Z3 c).2.2.2.1
  rw [e]; simp; omega
theorem Nc (l : List UInt8) : (lit l).length = (F7 l).length + 2 := by simp [lit]
theorem a0i (l : List UInt8) (c : UInt8) : F7 (l ++ [c]) = F7 l ++ esc c := by simp [F7]
theorem Jq (l : List UInt8) (h : (Bb l).2.2 = true) : 2 ≤ (Bb l).2.1 ∧ (Bb l).2.1 ≤ l.length ∧ unq ((l.drop 1).take ((Bb l).2.1 - 2)) = (Bb l).1 := by
 unfold Bb at *
 split at h
 ·rename_i hq
  obtain ⟨h1, h2, h3⟩ := a05 _ l.tail (Nat.le_refl _) h
  rw [if_pos hq]
  simp only [List.length_tail] at h2
  refine ⟨by simp; omega, by simp; omega, ?_⟩
  rw [← h3, List.drop_one]
  simp only
  congr 2
  omega
 ·simp at h
end
end Go.Proofs.YtoaplbljflhheaaGreat
namespace Go.Proofs.YtoaplbljflhheaaGreat
section
open Go.RowKit
def byo (c : UInt8) : UInt8 × Bool := match bk c with | some b => (b, true) | none => (0, false)
def dgo (c : UInt8) : UInt8 × Bool := match dg c with | some x => (UInt8.ofNat x, true) | none => (0, false)
def vlo (c : UInt8) : Int := match dg c with | some x => x | none => -1
def wth (c : UInt8) : Bool := decide (32 ≤ c.toNat ∧ c.toNat ≤ 126)
theorem Hb (c : UInt8) (w : World) : Calls Tryz.prog 202 #[byt c] w fun e w' => e = .returned (.bool (wth c)) ∧ w = w' := by
 have hc : (c.toNat : Int) < 256 := by have := c.toNat_lt; omega
 by_cases h1 : (32 : Int) ≤ c.toNat
 ·by_cases h2 : (c.toNat : Int) ≤ 126
  ·have H := zz (show wth c = true by simp [wth]; omega)
   go_enter Tryz.func202, Tryz.ntmps202
   go_wp2
   go_ret
   rw [H.out]
   exact ⟨rfl, rfl⟩
  ·have H := zz (show wth c = false by simp [wth]; omega)
   go_enter Tryz.func202, Tryz.ntmps202
   go_wp2
   go_ret
   rw [H.out]
   exact ⟨rfl, rfl⟩
 ·have H := zz (show wth c = false by simp [wth]; omega)
  go_enter Tryz.func202, Tryz.ntmps202
  go_wp2
  go_ret
  rw [H.out]
  exact ⟨rfl, rfl⟩
theorem Td (c : UInt8) (w : World) : Calls Tryz.prog 204 #[byt c] w fun e w' => e = .returned (.tuple #[byt (byo c).1, .bool (byo c).2]) ∧ w = w' := by
 by_cases h1 : c = 34
 ·subst h1
  go_enter Tryz.func204, Tryz.ntmps204
  go_wp2
  go_ret2
  exact ⟨rfl, rfl⟩
 by_cases h2 : c = 92
 ·subst h2
  go_enter Tryz.func204, Tryz.ntmps204
  go_wp2
  go_ret2
  exact ⟨rfl, rfl⟩
 by_cases h3 : c = 110
 ·subst h3
  go_enter Tryz.func204, Tryz.ntmps204
  go_wp2
  go_ret2
  exact ⟨rfl, rfl⟩
 by_cases h4 : c = 116
 ·subst h4
  go_enter Tryz.func204, Tryz.ntmps204
  go_wp2
  go_ret2
  exact ⟨rfl, rfl⟩
 have H := zz (show byo c = (0, false) by simp [byo, bk, h1, h2, h3, h4])
 have e1 := Ac (n := 34) (by decide) h1
 have e2 := Ac (n := 92) (by decide) h2
 have e3 := Ac (n := 110) (by decide) h3
 have e4 := Ac (n := 116) (by decide) h4
 clear h1 h2 h3 h4
 go_enter Tryz.func204, Tryz.ntmps204
 go_wp2
 go_ret2
 rw [H.out]
 exact ⟨rfl, rfl⟩
theorem P7 {c : UInt8} {x : Nat} (h : dg c = some x) : x < 16 := by
 unfold dg at h
 split at h
 ·simp at h; omega
 ·split at h
  ·simp at h; omega
  ·split at h
   ·simp at h; omega
   ·simp at h
theorem Tc (c : UInt8) : (48 ≤ c.toNat ∧ c.toNat ≤ 57 ∧ dg c = some (c.toNat - 48)) ∨ (97 ≤ c.toNat ∧ c.toNat ≤ 102 ∧ dg c = some (c.toNat - 87)) ∨
  (65 ≤ c.toNat ∧ c.toNat ≤ 70 ∧ dg c = some (c.toNat - 55)) ∨ (¬ (48 ≤ c.toNat ∧ c.toNat ≤ 57) ∧ ¬ (97 ≤ c.toNat ∧ c.toNat ≤ 102) ∧ ¬ (65 ≤ c.toNat ∧ c.toNat ≤ 70) ∧ dg c = none) := by
 unfold dg
 by_cases h1 : 48 ≤ c.toNat ∧ c.toNat ≤ 57
 ·exact .inl ⟨h1.1, h1.2, if_pos h1⟩
 by_cases h2 : 97 ≤ c.toNat ∧ c.toNat ≤ 102
 ·exact .inr (.inl ⟨h2.1, h2.2, by rw [if_neg h1, if_pos h2]⟩)
 by_cases h3 : 65 ≤ c.toNat ∧ c.toNat ≤ 70
 ·exact .inr (.inr (.inl ⟨h3.1, h3.2, by rw [if_neg h1, if_neg h2, if_pos h3]⟩))
 exact .inr (.inr (.inr ⟨h1, h2, h3, by rw [if_neg h1, if_neg h2, if_neg h3]⟩))
theorem Sl {a : Int} {c : UInt8 × Bool} {b : UInt8} {t : Bool} (h : c = (b, t)) (h2 : a = (b.toNat : Nat)) : Ending.returned (.tuple #[.int .u8 a, .bool t]) = .returned (.tuple #[byt c.1, .bool c.2]) := by rw [h, h2]
theorem Md {x : Nat} (h : x < 256) : (UInt8.ofNat x).toNat = x := UInt8.toNat_ofNat_of_lt' (by simpa using h)
theorem Yb {a b : Int} {t : Bool} (h : a = b) : Ending.returned (.tuple #[.int .u8 a, .bool t]) = .returned (.tuple #[.int .u8 b, .bool t]) := by rw [h]
theorem b6f (n : Nat) (w : World) (k1 : (48 : Int) ≤ n) (k2 : (n : Int) ≤ 57) : Calls Tryz.prog 212 #[.int .u8 n] w fun e w' => e = .returned (.tuple #[.int .u8 ((n : Int) - 48), .bool true]) ∧ w = w' := by
 go_enter Tryz.func212, Tryz.ntmps212
 go_wp2
 go_ret2
 exact ⟨Yb (by omega), rfl⟩
theorem b6e (n : Nat) (w : World) (k1 : (97 : Int) ≤ n) (k2 : (n : Int) ≤ 102) : Calls Tryz.prog 212 #[.int .u8 n] w fun e w' => e = .returned (.tuple #[.int .u8 ((n : Int) - 87), .bool true]) ∧ w = w' := by
 go_enter Tryz.func212, Tryz.ntmps212
 go_wp2
 go_ret2
 exact ⟨Yb (by omega), rfl⟩
theorem b6d (n : Nat) (w : World) (k1 : (65 : Int) ≤ n) (k2 : (n : Int) ≤ 70) : Calls Tryz.prog 212 #[.int .u8 n] w fun e w' => e = .returned (.tuple #[.int .u8 ((n : Int) - 55), .bool true]) ∧ w = w' := by
 go_enter Tryz.func212, Tryz.ntmps212
 go_wp2
 go_ret2
 exact ⟨Yb (by omega), rfl⟩
theorem b6c (n : Nat) (w : World) (hn : (n : Int) < 256) (h1 : ¬ (48 ≤ n ∧ n ≤ 57)) (h2 : ¬ (97 ≤ n ∧ n ≤ 102)) (h3 : ¬ (65 ≤ n ∧ n ≤ 70)) :
  Calls Tryz.prog 212 #[.int .u8 n] w fun e w' => e = .returned (.tuple #[.int .u8 0, .bool false]) ∧ w = w' := by
 rcases (show (n : Int) < 48 ∨ ((57 : Int) < n ∧ (n : Int) < 65) ∨ ((70 : Int) < n ∧ (n : Int) < 97) ∨ (102 : Int) < n by omega) with h | ⟨h, h'⟩ | ⟨h, h'⟩ | h <;> clear h1 h2 h3 hn <;>
 ·go_enter Tryz.func212, Tryz.ntmps212
  go_wp2
  go_ret2
  exact ⟨rfl, rfl⟩
theorem P6 (c : UInt8) (w : World) : Calls Tryz.prog 212 #[byt c] w fun e w' => e = .returned (.tuple #[byt (dgo c).1, .bool (dgo c).2]) ∧ w = w' := by
 have hc : (c.toNat : Int) < 256 := by have := c.toNat_lt; omega
 rcases Tc c with ⟨h1, h2, h⟩ | ⟨h1, h2, h⟩ | ⟨h1, h2, h⟩ | ⟨h1, h2, h3, h⟩
 ·refine (b6f _ w (by omega) (by omega)).mono fun e w' he => ⟨he.1.trans (Sl (show dgo c = _ by rw [dgo, h]) ?_), he.2⟩
  rw [Md (by omega)]; omega
 ·refine (b6e _ w (by omega) (by omega)).mono fun e w' he => ⟨he.1.trans (Sl (show dgo c = _ by rw [dgo, h]) ?_), he.2⟩
  rw [Md (by omega)]; omega
 ·refine (b6d _ w (by omega) (by omega)).mono fun e w' he => ⟨he.1.trans (Sl (show dgo c = _ by rw [dgo, h]) ?_), he.2⟩
  rw [Md (by omega)]; omega
 ·exact (b6c _ w hc h1 h2 h3).mono fun e w' he => ⟨he.1.trans (Sl (show dgo c = _ by rw [dgo, h]) rfl), he.2⟩
end
end Go.Proofs.YtoaplbljflhheaaGreat
namespace Go.Proofs.YtoaplbljflhheaaGreat
section
open Go.RowKit
theorem Ar (s : ByteArray) (k : Nat) (h : k < s.size) : s.data.toList.drop k = s[k] :: s.data.toList.drop (k + 1) := by
 rw [List.drop_eq_getElem_cons (by rw [Ae]; exact h)]; rfl
theorem Bu (s : ByteArray) (k : Nat) (h : s.size ≤ k) : s.data.toList.drop k = [] := List.drop_of_length_le (by rw [Ae]; exact h)
abbrev tri (r : Rb) : Value := .tuple #[byt r.1, .int .i64 (r.2.1 : Nat), .bool r.2.2]
theorem Ez {a b : Int} {t : Bool} {r : Rb} {x : UInt8} {k : Nat} (h : r = (x, k, t)) (h1 : a = (x.toNat : Nat)) (h2 : b = (k : Nat)) : Ending.returned (.tuple #[.int .u8 a, .int .i64 b, .bool t]) = .returned (tri r) := by
 rw [h, h1, h2]
theorem Ta {c : UInt8} {x : Nat} (h : dg c = some x) (w : World) : Calls Tryz.prog 212 #[byt c] w fun e w' => e = .returned (.tuple #[.int .u8 x, .bool true]) ∧ w = w' := by
 have := P6 c w
 rw [dgo, h] at this
 simp only [byt, Md (show x < 256 from Nat.lt_trans (P7 h) (by decide))] at this
 exact this
theorem Tb {c : UInt8} (h : dg c = none) (w : World) : Calls Tryz.prog 212 #[byt c] w fun e w' => e = .returned (.tuple #[.int .u8 0, .bool false]) ∧ w = w' := by
 have := P6 c w
 rw [dgo, h] at this
 exact this
theorem or4 : ∀ x y : Fin 16, bits BinOp.or IntKind.u8 ((x.val : Int) * 16) (y.val : Int) = ((16 * x.val + y.val : Nat) : Int) := by decide +kernel
theorem Vn (s : ByteArray) (w : World) (h2 : 2 ≤ s.size) (hs : s.size ≤ 1000000) : Calls Tryz.prog 203 #[.string s] w fun e w' => e = .returned (tri (rd (s.data.toList.drop 2))) ∧ w = w' := by
 obtain ⟨r, hr⟩ : ∃ r, rd (s.data.toList.drop 2) = r := ⟨_, rfl⟩
 rw [hr]
 replace hr := zz hr
 go_enter Tryz.func203, Tryz.ntmps203
 go_wp2
 go_loop [5, 6] (fun b i => (b = .int .u8 0 ∧ i = .int .i64 2) ∨ (∃ (h : 2 < s.size) (x : Nat), dg s[2] = some x ∧ b = .int .u8 x ∧ i = .int .i64 3) ∨
  (∃ (h : 3 < s.size) (x y : Nat), dg s[2] = some x ∧ dg s[3] = some y ∧ b = .int .u8 (16 * x + y : Nat) ∧ i = .int .i64 4)) (fun _ i => 4 - (intOf i).toNat)
 case atStart => exact .inl ⟨rfl, rfl⟩
 case round =>
  rcases hrel with ⟨rfl, rfl⟩ | ⟨h, x, hx, rfl, rfl⟩ | ⟨h, x, y, hx, hy, rfl, rfl⟩
  ·by_cases hlt : 2 < s.size
   ·have hne : ((2 : Int) == (s.size : Int)) = false := by rw [beq_eq_false_iff_ne]; omega
    cases hd : dg s[2] with
    | none =>
     have HD := zz (Tb hd)
     have HR := zz (show r = (0, 2, false) by rw [← hr.out, Ar s 2 hlt, O3 _ _ hd])
     clear hd
     go_wp2_with fail
     refine (HD.out _).mono ?_
     rintro e w1 ⟨rfl, rfl⟩
     go_wp2
     go_ret3
     exact ⟨Ez HR.out rfl rfl, rfl⟩
    | some x =>
     have HD := zz (Ta hd)
     have hx16 := P7 hd
     have hor : bits BinOp.or IntKind.u8 0 (x : Int) = x := by simpa using or4 0 ⟨x, hx16⟩
     replace hd := zz hd
     go_wp2_with fail
     refine (HD.out _).mono ?_
     rintro e w1 ⟨rfl, rfl⟩
     go_wp2
     go_round
     case rel => exact .inr (.inl ⟨hlt, x, hd.out, rfl, by go_num⟩)
     case measure => simp [intOf]
   ·have hsz : s.size = 2 := by omega
    have HR := zz (show r = (0, 2, false) by rw [← hr.out, Bu s 2 (by omega), O2])
    have he : ((2 : Int) == (s.size : Int)) = true := by rw [beq_iff_eq]; omega
    clear hsz hlt
    go_wp2
    go_ret3
    exact ⟨Ez HR.out rfl rfl, rfl⟩
  ·by_cases hlt : 3 < s.size
   ·have hne : ((3 : Int) == (s.size : Int)) = false := by rw [beq_eq_false_iff_ne]; omega
    cases hd : dg s[3] with
    | none =>
     have HD := zz (Tb hd)
     have HR := zz (show r = (0, 3, false) by rw [← hr.out, Ar s 2 h, Ar s 3 hlt, Kn _ _ _ _ hx hd])
     clear hd
     go_wp2_with fail
     refine (HD.out _).mono ?_
     rintro e w1 ⟨rfl, rfl⟩
     go_wp2
     go_ret3
     exact ⟨Ez HR.out rfl rfl, rfl⟩
    | some y =>
     have HD := zz (Ta hd)
     have hx16 := P7 hx
     have hy16 := P7 hd
     have hor := or4 ⟨x, hx16⟩ ⟨y, hy16⟩
     simp only at hor
     replace hd := zz hd
     replace hx := zz hx
     go_wp2_with fail
     refine (HD.out _).mono ?_
     rintro e w1 ⟨rfl, rfl⟩
     go_wp2
     go_round
     case rel => exact .inr (.inr ⟨hlt, x, y, hx.out, hd.out, rfl, by go_num⟩)
     case measure => simp [intOf]
   ·have hsz : s.size = 3 := by omega
    have HR := zz (show r = (0, 3, false) by rw [← hr.out, Ar s 2 h, Bu s 3 (by omega), O1 _ _ hx])
    have he : ((3 : Int) == (s.size : Int)) = true := by rw [beq_iff_eq]; omega
    clear hsz hlt
    go_wp2
    go_ret3
    exact ⟨Ez HR.out rfl rfl, rfl⟩
  ·have HR := zz (show r = (UInt8.ofNat (16 * x + y), 4, true) by rw [← hr.out, Ar s 2 (by omega), Ar s 3 h, O0 _ _ _ _ _ hx hy])
   have hx16 := P7 hx
   have hy16 := P7 hy
   clear hx hy
   go_wp2
   go_ret3
   exact ⟨Ez HR.out (by rw [Md (by omega)]; omega) rfl, rfl⟩
theorem a0z {c : UInt8} (h : wth c = true) : ¬ (c.toNat < 32 ∨ 126 < c.toNat) := by simp [wth] at h; omega
theorem Wa {c : UInt8} (h : wth c = false) : c.toNat < 32 ∨ 126 < c.toNat := by simp [wth] at h; omega
theorem a32 {c b : UInt8} (h : bk c = some b) (w : World) : Calls Tryz.prog 204 #[byt c] w fun e w' => e = .returned (.tuple #[byt b, .bool true]) ∧ w = w' := by
 have := Td c w
 rw [byo, h] at this
 exact this
theorem a33 {c : UInt8} (h : bk c = none) (w : World) : Calls Tryz.prog 204 #[byt c] w fun e w' => e = .returned (.tuple #[byt 0, .bool false]) ∧ w = w' := by
 have := Td c w
 rw [byo, h] at this
 exact this
theorem rb0 (w : World) : Calls Tryz.prog 192 #[.string { data := #[] }] w fun e w' => e = .returned (tri (0, 0, false)) ∧ w = w' := by
 go_enter Tryz.func192, Tryz.ntmps192
 go_wp2
 go_ret3
 exact ⟨rfl, rfl⟩
theorem b04 (l : List UInt8) : (rb l).2.1 ≤ 4 := by
 match l with
 | [] => simp [Yg]
 | c :: t =>
  by_cases h1 : c.toNat < 32 ∨ 126 < c.toNat
  ·simp [O4 c t h1]
  ·by_cases h2 : c = 92
   ·subst h2
    match t with
    | [] => simp [O5]
    | d :: u =>
     by_cases h3 : d = 120
     ·subst h3
      rw [a87]
      match u with
      | [] => simp [O2]
      | e :: v =>
       cases he : dg e with
       | none => simp [O3 e v he]
       | some x =>
        match v with
        | [] => simp [O1 e x he]
        | f :: v =>
         cases hf : dg f with
         | none => simp [Kn e f v x he hf]
         | some y => simp [O0 e f v x y he hf]
     ·cases hb : bk d with
      | none => simp [Yf d u h3 hb]
      | some b => simp [O6 d u h3 b hb]
   ·simp [Ie c t h1 h2]
theorem E8 (s : ByteArray) (h : 0 < s.size) : (s.toList == []) = false := by
 rw [beq_eq_false_iff_ne, ByteArray.toList_eq]
 intro e
 have := congrArg List.length e
 rw [Ae, List.length_nil] at this
 omega
theorem Jg (s : ByteArray) (w : World) (hs : s.size ≤ 1000000) : Calls Tryz.prog 192 #[.string s] w fun e w' => e = .returned (tri (rb s.data.toList)) ∧ w = w' := by
 by_cases h0 : 0 < s.size
 case neg =>
  rw [Co s h0]
  exact rb0 w
 obtain ⟨r, hr⟩ : ∃ r, rb s.data.toList = r := ⟨_, rfl⟩
 rw [hr]
 have e0 := Ar s 0 h0
 rw [List.drop_zero] at e0
 rw [e0] at hr
 replace hr := zz hr
 clear e0
 have HW := zz (fun w => Hb s[0] w)
 have hne := E8 s h0
 cases hw : wth s[0] with
 | false =>
  have HR := zz (show r = (0, 0, false) by rw [← hr.out, O4 _ _ (Wa hw)])
  rw [hw] at HW
  clear hw
  go_enter Tryz.func192, Tryz.ntmps192
  go_wp2_with fail
  refine (HW.out _).mono ?_
  rintro e w1 ⟨rfl, rfl⟩
  go_wp2
  go_ret3
  exact ⟨Ez HR.out rfl rfl, rfl⟩
 | true =>
  rw [hw] at HW
  by_cases h92 : s[0] = 92
  case neg =>
   have HR := zz (show r = (s[0], 1, true) by rw [← hr.out, Ie _ _ (a0z hw) h92])
   have e1 := b2x (n := 92) (by decide) h92
   clear hw h92
   go_enter Tryz.func192, Tryz.ntmps192
   go_wp2_with fail
   refine (HW.out _).mono ?_
   rintro e w1 ⟨rfl, rfl⟩
   go_wp2
   go_ret3
   exact ⟨Ez HR.out rfl rfl, rfl⟩
  have e1 : ((s[0].toNat : Int) != 92) = false := by rw [h92]; rfl
  clear hw
  by_cases h1 : 1 < s.size
  case neg =>
   have HR := zz (show r = (0, 1, false) by rw [← hr.out, Bu s _ (by omega), h92, O5])
   have e2 : ((s.size : Int) == 1) = true := by rw [beq_iff_eq]; omega
   clear h92 h1
   go_enter Tryz.func192, Tryz.ntmps192
   go_wp2_with fail
   refine (HW.out _).mono ?_
   rintro e w1 ⟨rfl, rfl⟩
   go_wp2
   go_ret3
   exact ⟨Ez HR.out rfl rfl, rfl⟩
  have e2 : ((s.size : Int) == 1) = false := by rw [beq_eq_false_iff_ne]; omega
  by_cases h120 : s[1] = 120
  case pos =>
   have HR := zz (show rd (s.data.toList.drop 2) = r by rw [← hr.out, Ar s 1 h1, h92, h120, a87])
   have e3 : ((s[1].toNat : Int) == 120) = true := by rw [h120]; rfl
   have HD := zz (fun w => Vn s w h1 hs)
   rw [HR.out] at HD
   clear h92 h120
   go_enter Tryz.func192, Tryz.ntmps192
   go_wp2_with fail
   refine (HW.out _).mono ?_
   rintro e w1 ⟨rfl, rfl⟩
   go_wp2_with fail
   refine (HD.out _).mono ?_
   rintro e w1 ⟨rfl, rfl⟩
   go_wp2
   go_ret3
   exact ⟨rfl, rfl⟩
  have e3 := Ac (n := 120) (by decide) h120
  cases hb : bk s[1] with
  | none =>
   have HR := zz (show r = (0, 1, false) by rw [← hr.out, Ar s 1 h1, h92, Yf _ _ h120 hb])
   have HD := zz (fun w => a33 hb w)
   clear h92 h120 hb
   go_enter Tryz.func192, Tryz.ntmps192
   go_wp2_with fail
   refine (HW.out _).mono ?_
   rintro e w1 ⟨rfl, rfl⟩
   go_wp2_with fail
   refine (HD.out _).mono ?_
   rintro e w1 ⟨rfl, rfl⟩
   go_wp2
   go_ret3
   exact ⟨Ez HR.out rfl rfl, rfl⟩
  | some b =>
   have HR := zz (show r = (b, 2, true) by rw [← hr.out, Ar s 1 h1, h92, O6 _ _ h120 _ hb])
   have HD := zz (fun w => a32 hb w)
   clear h92 h120 hb
   go_enter Tryz.func192, Tryz.ntmps192
   go_wp2_with fail
   refine (HW.out _).mono ?_
   rintro e w1 ⟨rfl, rfl⟩
   go_wp2_with fail
   refine (HD.out _).mono ?_
   rintro e w1 ⟨rfl, rfl⟩
   go_wp2
   go_ret3
   exact ⟨Ez HR.out rfl rfl, rfl⟩
end
end Go.Proofs.YtoaplbljflhheaaGreat
namespace Go.Proofs.YtoaplbljflhheaaGreat
section
open Go.RowKit
theorem Ee (s : ByteArray) (k : Nat) : (s.extract k s.size).data.toList = s.data.toList.drop k := by
 rw [De, List.take_of_length_le]
 rw [List.length_drop, Ae]; exact Nat.le_refl _
theorem a3p (s : ByteArray) (k : Nat) (h : s.size ≤ 1000000) : (s.extract k s.size).size ≤ 1000000 := by
 rw [← Ae, Ee, List.length_drop, Ae]; omega
theorem Sm (s : ByteArray) (k : Nat) (h : s.size ≤ 1000000) (r : Rb) (hr : rb (s.data.toList.drop k) = r) (w : World) : Calls Tryz.prog 192 #[.string (s.extract k s.size)] w fun e w' => e = .returned (tri r) ∧ w = w' := by
 have := Jg (s.extract k s.size) w (a3p s k h)
 rwa [Ee, hr] at this
theorem Ya {a : Int} {t : Bool} {R : Nat × Bool} {k : Nat} (h : (k, t) = R) (h1 : a = (k : Nat)) : Ending.returned (.tuple #[.int .i64 a, .bool t]) = .returned (.tuple #[.int .i64 (R.1 : Nat), .bool R.2]) := by
 rw [← h, h1]
theorem Fh (s : ByteArray) (k : Nat) (h : k < s.size) : (s.data.toList.drop k).head? = some s[k] := by rw [Ar s k h]; rfl
def b6x (s : ByteArray) (w : World) (R : Nat × Bool) (a' : Act) (w' : World) : Prop :=
 ∃ k : Nat, (w' = w ∧ 1 ≤ k ∧ k ≤ s.size ∧ (k + (Ci (s.data.toList.drop k)).2.1, (Ci (s.data.toList.drop k)).2.2) = R) ∧ ∃ u5 u6 u7 u8 u9 u10 u11 u12 u13 u14 u15 u16 u17 u18 u19 u20 u21 u22 u23 u24 u25 u26 u27 u28 u29 u30 u31 u32 u33 u34 u35 u36 u37 u38 u39 : Value, a' = { tmps := #[.string s, undef, .int .i64 0, .bool false, .int .i64 k, u5, u6, u7, u8, u9, u10, u11, u12, u13, u14, u15, u16, u17, u18, u19, u20, u21, u22, u23, u24, u25, u26, u27, u28, u29, u30, u31, u32, u33, u34, u35, u36, u37, u38, u39], defers := [] }
theorem a3x (s : ByteArray) (w : World) (hs : s.size ≤ 1000000) (h0 : 0 < s.size) (h34 : s[0] = 34) (R : Nat × Bool) (hR : Hid ((1 + (Ci (s.data.toList.drop 1)).2.1, (Ci (s.data.toList.drop 1)).2.2) = R)) :
  Calls Tryz.prog 171 #[.string s] w fun e w' => e = .returned (.tuple #[.int .i64 (R.1 : Nat), .bool R.2]) ∧ w = w' := by
 have hne := E8 s h0
 have e0 : ((s[0].toNat : Int) != 34) = false := by rw [h34]; rfl
 clear h34
 go_enter Tryz.func171, Tryz.ntmps171
 go_wp2
 refine C3 0 (b6x s w R) (fun a' _ => s.size - (intOf (a'.tmps.getD 4 undef)).toNat) rfl ?_ ?_
 ·rintro a' w' ⟨k, ⟨rfl, hk1, hk, hR⟩, u5, u6, u7, u8, u9, u10, u11, u12, u13, u14, u15, u16, u17, u18, u19, u20, u21, u22, u23, u24, u25, u26, u27, u28, u29, u30, u31, u32, u33, u34, u35, u36, u37, u38, u39, rfl⟩
  by_cases hlt : k < s.size
  ·by_cases hq : s[k] = 34
   ·have HR := zz (show (k + 1, true) = R by rw [← hR, Dk _ (by rw [Fh s k hlt, hq])])
    have e1 : ((s[k].toNat : Int) == 34) = true := by rw [hq]; rfl
    clear hq hR
    go_wp2
    simp only [Exit.jump]
    go_ret2
    exact ⟨Ya HR.out (by omega), rfl⟩
   ·have hq' : ¬ (s.data.toList.drop k).head? = some 34 := by rw [Fh s k hlt]; simpa using hq
    have e1 := Ac (n := 34) (by decide) hq
    obtain ⟨r, hr⟩ : ∃ r, rb (s.data.toList.drop k) = r := ⟨_, rfl⟩
    have HRB := zz (fun w => Sm s k hs r hr w)
    cases hok : r.2.2 with
    | true =>
     have hz := Fq (s.data.toList.drop k) (by rw [hr]; exact hok)
     have hst := D8 (s.data.toList.drop k) hq' (by rw [hr]; exact hok)
     rw [hr] at hz hst
     rw [List.drop_drop] at hst
     rw [List.length_drop, Ae] at hz
     have HR := zz (show (k + r.2.1 + (Ci (s.data.toList.drop (k + r.2.1))).2.1, (Ci (s.data.toList.drop (k + r.2.1))).2.2) = R by rw [← hR, hst]; simp only [Nat.add_assoc])
     obtain ⟨b, m, t⟩ := r
     simp only at hok hz HR
     subst hok
     clear hq hq' hR hst hr
     go_wp2_with fail
     refine (HRB.out _).mono ?_
     rintro e w1 ⟨rfl, rfl⟩
     go_wp2
     go_step3
     refine ⟨rfl, ⟨k + m, ⟨rfl, by omega, by omega, HR.out⟩, ?_⟩, ?_⟩
     ·exact ⟨_, _, _, _, _, _, _, _, _, _, _, _, _, _, _, _, _, _, _, _, _, _, _, _, _, _, _, _, _, _, _, _, _, _, _, rfl⟩
     ·simp [intOf]
      omega
    | false =>
     have hst := Et (s.data.toList.drop k) hq' (by rw [hr]; exact hok)
     rw [hr] at hst
     have HR := zz (show (k + r.2.1, false) = R by rw [← hR, hst])
     have hb : r.2.1 ≤ 4 := by rw [← hr]; exact b04 _
     obtain ⟨b, m, t⟩ := r
     simp only at hok HR hb
     subst hok
     clear hq hq' hR hst hr
     go_wp2_with fail
     refine (HRB.out _).mono ?_
     rintro e w1 ⟨rfl, rfl⟩
     go_wp2
     simp only [Exit.jump]
     go_ret2
     exact ⟨Ya HR.out (by omega), rfl⟩
  ·have hke := zz (show k = s.size by omega)
   have hki : ¬ (k : Int) < s.size := by omega
   have HRB := zz (fun w => Sm s k hs (0, 0, false) (by rw [Bu s _ (by omega)]; rfl) w)
   have HR := zz (show (k, false) = R by rw [← hR, Bu s _ (by omega), Et [] (by simp) rfl]; rfl)
   clear hR
   go_wp2_with fail
   refine (HRB.out _).mono ?_
   rintro e w1 ⟨rfl, rfl⟩
   go_wp2
   simp only [Exit.jump]
   go_ret2
   exact ⟨Ya HR.out (by omega), rfl⟩
 ·intro F
  go_wp2
  go_step3
  rename_i hK
  apply hK
  exact F _ _ ⟨1, ⟨rfl, Nat.le_refl _, h0, hR.out⟩, _, _, _, _, _, _, _, _, _, _, _, _, _, _, _, _, _, _, _, _, _, _, _, _, _, _, _, _, _, _, _, _, _, _, _, rfl⟩
theorem a3y (s : ByteArray) (w : World) (h0 : 0 < s.size) (h34 : s[0] ≠ 34) : Calls Tryz.prog 171 #[.string s] w fun e w' => e = .returned (.tuple #[.int .i64 0, .bool false]) ∧ w = w' := by
 have hne := E8 s h0
 have e0 := b2x (n := 34) (by decide) h34
 clear h34
 go_enter Tryz.func171, Tryz.ntmps171
 go_wp2
 go_step3
 go_wp2
 rw [Exit.noGoto_ret]
 go_ret2
 exact ⟨rfl, rfl⟩
theorem Z4 (w : World) : Calls Tryz.prog 171 #[.string { data := #[] }] w fun e w' => e = .returned (.tuple #[.int .i64 0, .bool false]) ∧ w = w' := by
 go_enter Tryz.func171, Tryz.ntmps171
 go_wp2
 go_step3
 go_wp2
 rw [Exit.noGoto_ret]
 go_ret2
 exact ⟨rfl, rfl⟩
theorem Ox (s : ByteArray) (h0 : 0 < s.size) (h34 : s[0] = 34) : Bb s.data.toList = ((Ci (s.data.toList.drop 1)).1, 1 + (Ci (s.data.toList.drop 1)).2.1, (Ci (s.data.toList.drop 1)).2.2) := by
 have e := Fh s 0 h0
 rw [List.drop_zero, h34] at e
 rw [Bb, if_pos e, List.drop_one]
theorem Oy (s : ByteArray) (h0 : 0 < s.size) (h34 : s[0] ≠ 34) : Bb s.data.toList = ([], 0, false) := by
 have e := Fh s 0 h0
 rw [List.drop_zero] at e
 rw [Bb, if_neg]
 rw [e]; simpa using h34
theorem Z5 (s : ByteArray) (w : World) (hs : s.size ≤ 1000000) (R : List UInt8 × Nat × Bool) (hR : Bb s.data.toList = R) : Calls Tryz.prog 171 #[.string s] w fun e w' => e = .returned (.tuple #[.int .i64 (R.2.1 : Nat), .bool R.2.2]) ∧ w = w' := by
 subst hR
 by_cases h0 : 0 < s.size
 ·by_cases h34 : s[0] = 34
  ·have := a3x s w hs h0 h34 _ (zz rfl)
   rw [Ox s h0 h34]
   exact this
  ·rw [Oy s h0 h34]
   exact a3y s w h0 h34
 ·rw [Co s h0]
  exact Z4 w
end
end Go.Proofs.YtoaplbljflhheaaGreat
namespace Go.Proofs.YtoaplbljflhheaaGreat
section
open Go.RowKit
def Wl (l : List UInt8) : List UInt8 × Int := if (Bb l).2.2 = true ∧ (Bb l).2.1 = l.length then ((Bb l).1, 0) else ([], 2)
def b3a : Value → Nat | .string t => t.size | _ => 0
theorem a04 (l : List UInt8) (h : (rb l).2.2 = true) : unq l = (rb l).1 :: unq (l.drop (rb l).2.1) := by rw [unq, dif_pos h]
theorem a03 (l : List UInt8) (h : (rb l).2.2 = false) : unq l = [] := by rw [unq, dif_neg (by simp [h])]
theorem Ti (s : ByteArray) (w : World) (N : Nat) (HE : Hid (∀ w, Calls Tryz.prog 171 #[.string s] w fun e w' => e = .returned (.tuple #[.int .i64 (N : Nat), .bool false]) ∧ w = w')) :
  Calls Tryz.prog 172 #[.string s] w fun e w' => e = .returned (.tuple #[.string { data := #[] }, .int .i64 2]) ∧ w = w' := by
 go_enter Tryz.func172, Tryz.ntmps172
 go_wp2
 go_step3
 go_wp2_with fail
 refine (HE.out _).mono ?_
 rintro e w1 ⟨rfl, rfl⟩
 go_wp2
 rw [Exit.noGoto_ret]
 go_ret2
 exact ⟨rfl, rfl⟩
theorem N9 (s : ByteArray) (w : World) (N : Nat) (hN : N < s.size) (HE : Hid (∀ w, Calls Tryz.prog 171 #[.string s] w fun e w' => e = .returned (.tuple #[.int .i64 (N : Nat), .bool true]) ∧ w = w')) :
  Calls Tryz.prog 172 #[.string s] w fun e w' => e = .returned (.tuple #[.string { data := #[] }, .int .i64 2]) ∧ w = w' := by
 go_enter Tryz.func172, Tryz.ntmps172
 go_wp2
 go_step3
 go_wp2_with fail
 refine (HE.out _).mono ?_
 rintro e w1 ⟨rfl, rfl⟩
 go_wp2
 rw [Exit.noGoto_ret]
 go_ret2
 exact ⟨rfl, rfl⟩
def b6v (s : ByteArray) (N : Nat) (w : World) (X : List UInt8) (a' : Act) (w' : World) : Prop :=
 ∃ (t : ByteArray) (v : Value) (l : List UInt8), (l.length + t.size ≤ 1000000 ∧ l ++ unq t.data.toList = X ∧ Own w' w.heap.size v l ∧ Below w.heap.size w w') ∧ ∃ u5 u8 u9 u10 u11 u12 u13 u14 u15 u16 u17 u18 u19 u20 u21 u22 u23 u24 u25 u26 u27 u28 u29 u30 u31 u32 u33 u34 u35 u36 u37 u38 u39 u40 u41 u42 u43 u44 u45 : Value, a' = { tmps := #[.string s, undef, .string { data := #[] }, .int .i64 0, .int .i64 N, u5, .string t, v, u8, u9, u10, u11, u12, u13, u14, u15, u16, u17, u18, u19, u20, u21, u22, u23, u24, u25, u26, u27, u28, u29, u30, u31, u32, u33, u34, u35, u36, u37, u38, u39, u40, u41, u42, u43, u44, u45], defers := [] }
theorem Qk (s : ByteArray) (w : World) (N : Nat) (hs : s.size ≤ 1000000) (hN : N = s.size) (hN2 : 2 ≤ N) (X : List UInt8) (hX : Hid (unq (s.extract 1 (N - 1)).data.toList = X))
  (HE : Hid (∀ w, Calls Tryz.prog 171 #[.string s] w fun e w' => e = .returned (.tuple #[.int .i64 (N : Nat), .bool true]) ∧ w = w')) :
  Calls Tryz.prog 172 #[.string s] w fun e w' => e = .returned (.tuple #[.string (bs X), .int .i64 0]) ∧ Below w.heap.size w w' := by
 obtain ⟨M, hM⟩ : ∃ M, N - 1 = M := ⟨_, rfl⟩
 rw [hM] at hX
 have hM' : (N : Int) - 1 = M := by omega
 have hM1 : 1 ≤ M := by omega
 have hM2 : M ≤ s.size := by omega
 have hlt : ¬ (N : Int) < s.size := by omega
 have hlt2 : ¬ N < s.size := by omega
 have hts : (s.extract 1 M).size ≤ 1000000 := by
  rw [← Ae, De, List.length_take, List.length_drop, Ae]; omega
 have hM3 : M ≤ 1000000 := by omega
 have hNe := zz hN
 clear hM hN hs
 go_enter Tryz.func172, Tryz.ntmps172
 go_wp2
 refine C3 0 (b6v s N w X) (fun a' _ => b3a (a'.tmps.getD 6 undef)) rfl ?_ ?_
 ·rintro a' w' ⟨t, v, l, ⟨hsz, hX, ho, hb⟩, u5, u8, u9, u10, u11, u12, u13, u14, u15, u16, u17, u18, u19, u20, u21, u22, u23, u24, u25, u26, u27, u28, u29, u30, u31, u32, u33, u34, u35, u36, u37, u38, u39, u40, u41, u42, u43, u44, u45, rfl⟩
  obtain ⟨r, hr⟩ : ∃ r, rb t.data.toList = r := ⟨_, rfl⟩
  have HRB := zz (fun w => Jg t w (by omega))
  rw [hr] at HRB
  have hbs := hb.size
  cases hok : r.2.2 with
  | true =>
   have hz := Fq t.data.toList (by rw [hr]; exact hok)
   have hst := a04 t.data.toList (by rw [hr]; exact hok)
   rw [hr] at hz hst
   rw [Ae] at hz
   rw [← Ee] at hst
   obtain ⟨b, m, tt⟩ := r
   simp only at hok hz hst
   subst hok
   have HX := zz (show l ++ [b] ++ unq (t.extract m t.size).data.toList = X by rw [← hX, hst]; simp)
   have hm1 : m ≤ t.size := hz.2
   have hm2 : (m : Int) ≤ t.size := by omega
   have hez : (t.extract m t.size).size = t.size - m := by rw [← Ae, Ee, List.length_drop, Ae]
   replace hez := zz hez
   replace ho := zz ho
   replace hb := zz hb
   clear hX hst hr
   go_wp2_with fail
   refine (HRB.out _).mono ?_
   rintro e w1 ⟨rfl, rfl⟩
   go_wp2_with (at_builtin; refine A5 rfl _ _ rfl w.heap.size v l [b] 1 rfl rfl rfl rfl ho.out hbs (by omega) ?_; intro v2 w2 ho2 hb2; replace ho2 := zz ho2; replace hb2 := zz hb2)
   go_step3
   refine ⟨rfl, ⟨t.extract m t.size, v2, l ++ [b], ⟨by rw [hez.out]; simp; omega, HX.out, ho2.out, hb.out.trans hb2.out⟩, ?_⟩, ?_⟩
   ·exact ⟨_, _, _, _, _, _, _, _, _, _, _, _, _, _, _, _, _, _, _, _, _, _, _, _, _, _, _, _, _, _, _, _, _, _, _, _, _, _, _, rfl⟩
   ·show b3a (.string (t.extract m t.size)) < b3a (.string t)
    simp only [b3a, hez.out]
    omega
  | false =>
   have hst := a03 t.data.toList (by rw [hr]; exact hok)
   have HX := zz (show l = X by rw [← hX, hst]; simp)
   obtain ⟨b, m, tt⟩ := r
   simp only at hok
   subst hok
   have hcv := Fu ho
   replace hb := zz hb
   clear hX hst hr ho
   go_wp2_with fail
   refine (HRB.out _).mono ?_
   rintro e w1 ⟨rfl, rfl⟩
   go_wp2
   simp only [Exit.jump]
   go_ret2
   rw [← HX.out]
   exact ⟨rfl, hb.out⟩
 ·intro F
  go_wp2_with fail
  refine (HE.out _).mono ?_
  rintro e w1 ⟨rfl, rfl⟩
  go_wp2_with (first
   | (at_make; refine Jc rfl _ _ rfl w.heap.size (M - 1) _ rfl rfl (by first | rfl | omega) (by omega) (Nat.le_refl _) ?_; intro v1 w1 ho1 hb1; replace ho1 := zz ho1; replace hb1 := zz hb1))
  go_step3
  rename_i hK
  apply hK
  exact F _ _ ⟨s.extract 1 M, v1, [], ⟨by simpa using hts, hX.out, ho1.out, hb1.out⟩, _, _, _, _, _, _, _, _, _, _, _, _, _, _, _, _, _, _, _, _, _, _, _, _, _, _, _, _, _, _, _, _, _, _, _, _, _, _, _, rfl⟩
theorem Ql (s : ByteArray) (w : World) (hs : s.size ≤ 1000000) : Calls Tryz.prog 172 #[.string s] w fun e w' => e = .returned (.tuple #[.string (bs (Wl s.data.toList).1), .int .i64 (Wl s.data.toList).2]) ∧ Below w.heap.size w w' := by
 have HE := zz (fun w => Z5 s w hs _ rfl)
 unfold Wl
 rw [Ae]
 cases hok : (Bb s.data.toList).2.2 with
 | false =>
  rw [hok] at HE
  rw [if_neg (by simp)]
  exact Cx (Ti s w _ HE)
 | true =>
  rw [hok] at HE
  obtain ⟨h1, h2, h3⟩ := Jq s.data.toList hok
  rw [Ae] at h2
  by_cases hN : (Bb s.data.toList).2.1 = s.size
  ·rw [if_pos ⟨rfl, hN⟩]
   refine Qk s w _ hs hN h1 _ (zz ?_) HE
   rw [De]
   exact h3
  ·rw [if_neg (by simp [hN])]
   exact Cx (N9 s w _ (by omega) HE)
end
end Go.Proofs.YtoaplbljflhheaaGreat
