/-
 Contracts and plain facts on the way to PrettyBack. Conditions: as each says.
-/
import Derived.Test.YtoaplbljflhheaaGreatBab
set_option maxHeartbeats 40000000
set_option maxRecDepth 100000
set_option linter.unusedVariables false
set_option linter.unusedSimpArgs false
namespace Go.Proofs.YtoaplbljflhheaaGreat
open _root_.Go.Proofs.Tryz
section
open Go.RowKit
structure Nd where
 kind : Nat
 line : Int
 col : Int
 size : Int
 num : Int
 text : ByteArray
def Bg (z : Int) : Prop := -9223372036854775808 <= z ∧ z <= 9223372036854775807
structure Nd.wf (n : Nd) : Prop where
 kind : n.kind < 256
 line : Bg n.line
 col : Bg n.col
 size : Bg n.size
 num : Bg n.num
 text : n.text.size <= maxLen
def nd0 : Nd := ⟨0, 0, 0, 0, 0, { data := #[] }⟩
def nd (l : List Nd) (i : Nat) : Nd := l.getD i nd0
def sz (l : List Nd) (i : Nat) : Int := (nd l i).size
def Bn (n : Nd) : List Value := [.int .u8 n.kind, .int .i64 n.line, .int .i64 n.col, .int .i64 n.size, .int .i64 n.num, .string n.text]
abbrev ndV (n : Nd) : Value := .agg #[.int .u8 n.kind, .int .i64 n.line, .int .i64 n.col, .int .i64 n.size, .int .i64 n.num, .string n.text]
structure At (w : World) (b o : Nat) (n : Nd) : Prop where
 c0 : w.cell? ⟨b, o, none⟩ = some (.int .u8 n.kind)
 c1 : w.cell? ⟨b, o + 1, none⟩ = some (.int .i64 n.line)
 c2 : w.cell? ⟨b, o + 2, none⟩ = some (.int .i64 n.col)
 c3 : w.cell? ⟨b, o + 3, none⟩ = some (.int .i64 n.size)
 c4 : w.cell? ⟨b, o + 4, none⟩ = some (.int .i64 n.num)
 c5 : w.cell? ⟨b, o + 5, none⟩ = some (.string n.text)
theorem At.carry {w w' : World} {b o : Nat} {n : Nd} (h : At w b o n) (hb : Below w.heap.size w w') : At w' b o n :=
 ⟨Ac hb h.c0, Ac hb h.c1, Ac hb h.c2, Ac hb h.c3, Ac hb h.c4, Ac hb h.c5⟩
def Row (w : World) (a : Option Addr) (l : List Nd) : Prop :=
 ∀ i, i < l.length -> ∃ b o, a = some ⟨b, o, none⟩ ∧ At w b (o + i * 6) (nd l i) ∧ (nd l i).wf
theorem Row.carry {w w' : World} {a : Option Addr} {l : List Nd} (h : Row w a l) (hb : Below w.heap.size w w') : Row w' a l := fun i hi => by
 obtain ⟨b, o, h1, h2, h3⟩ := h i hi;exact ⟨b, o, h1, h2.carry hb, h3⟩
end
section
section
def hx (n : Nat) : UInt8 := if n < 10 then UInt8.ofNat (48 + n) else UInt8.ofNat (87 + n)
def esc (c : UInt8) : List UInt8 :=
 if c = 34 ∨ c = 92 then [92, c] else if c = 10 then [92, 110] else if c = 9 then [92, 116]
 else if c.toNat < 32 ∨ 126 < c.toNat then [92, 120, hx (c.toNat / 16), hx (c.toNat % 16)] else [c]
def body (l : List UInt8) : List UInt8 := l.flatMap esc
def lit (l : List UInt8) : List UInt8 := 34 :: (body l ++ [34])
def dg (c : UInt8) : Option Nat :=
 if 48 <= c.toNat ∧ c.toNat <= 57 then some (c.toNat - 48) else if 97 <= c.toNat ∧ c.toNat <= 102 then some (c.toNat - 87)
 else if 65 <= c.toNat ∧ c.toNat <= 70 then some (c.toNat - 55) else none
def bk (c : UInt8) : Option UInt8 := if c = 34 ∨ c = 92 then some c else if c = 110 then some 10 else if c = 116 then some 9 else none
abbrev Rb := UInt8 × Nat × Bool
def rd : List UInt8 -> Rb
 | [] => (0, 2, false)
 | e :: v => match dg e with
  | none => (0, 2, false)
  | some x => match v with
   | [] => (0, 3, false)
   | f :: _ => match dg f with
    | none => (0, 3, false)
    | some y => (UInt8.ofNat (16 * x + y), 4, true)
def rb : List UInt8 -> Rb
 | [] => (0, 0, false)
 | c :: t => if c.toNat < 32 ∨ 126 < c.toNat then (0, 0, false) else if c = 92 then (match t with
   | [] => (0, 1, false)
   | d :: u => if d = 120 then rd u else match bk d with
    | none => (0, 1, false)
    | some b => (b, 2, true)) else (c, 1, true)
theorem Um : rd [] = (0, 2, false) := rfl
theorem Un (e : UInt8) (v : List UInt8) (h : dg e = none) : rd (e :: v) = (0, 2, false) := by simp [rd, h]
theorem Ul (e : UInt8) (x : Nat) (h : dg e = some x) : rd [e] = (0, 3, false) := by simp [rd, h]
theorem Pg (e f : UInt8) (v : List UInt8) (x : Nat) (h : dg e = some x) (h2 : dg f = none) : rd (e :: f :: v) = (0, 3, false) := by simp [rd, h, h2]
theorem Uk (e f : UInt8) (v : List UInt8) (x y : Nat) (h : dg e = some x) (h2 : dg f = some y) : rd (e :: f :: v) = (UInt8.ofNat (16 * x + y), 4, true) := by simp [rd, h, h2]
theorem a3m : rb [] = (0, 0, false) := rfl
theorem Uo (c : UInt8) (t : List UInt8) (h : c.toNat < 32 ∨ 126 < c.toNat) : rb (c :: t) = (0, 0, false) := by
 rw [rb.eq_def]; exact if_pos h
theorem Md (c : UInt8) (t : List UInt8) (h : ¬ (c.toNat < 32 ∨ 126 < c.toNat)) (h2 : c ≠ 92) : rb (c :: t) = (c, 1, true) := by
 rw [rb.eq_def]; exact (if_neg h).trans (if_neg h2)
theorem Up : rb [92] = (0, 1, false) := by decide
theorem b6n (u : List UInt8) : rb (92 :: 120 :: u) = rd u := by rw [rb, if_neg (by decide), if_pos rfl]; rfl
theorem Uq (d : UInt8) (u : List UInt8) (h : d ≠ 120) (b : UInt8) (hb : bk d = some b) : rb (92 :: d :: u) = (b, 2, true) := by
 rw [rb, if_neg (by decide), if_pos rfl]; simp [h, hb]
theorem a3l (d : UInt8) (u : List UInt8) (h : d ≠ 120) (hb : bk d = none) : rb (92 :: d :: u) = (0, 1, false) := by
 rw [rb, if_neg (by decide), if_pos rfl]; simp [h, hb]
theorem b4a (l : List UInt8) (h : (rb l).2.2 = true) : ∃ p u b, l = p ++ u ∧ 1 <= p.length ∧ ∀ m, rb (p ++ m) = (b, p.length, true) := by
 match l with
 | [] => simp [a3m] at h
 | c :: t =>
  by_cases h1 : c.toNat < 32 ∨ 126 < c.toNat
  ·simp [Uo c t h1] at h
  ·by_cases h2 : c = 92
   ·subst h2
    match t with
    | [] => simp [Up] at h
    | d :: u =>
     by_cases h3 : d = 120
     ·subst h3;rw [b6n] at h
      match u with
      | [] => simp [Um] at h
      | e :: v =>
       cases he : dg e with
       | none => simp [Un e v he] at h
       | some x =>
        match v with
        | [] => simp [Ul e x he] at h
        | f :: v =>
         cases hf : dg f with
         | none => simp [Pg e f v x he hf] at h
         | some y => exact ⟨[92, 120, e, f], v, _, rfl, by simp, fun m => by
           show rb (92 :: 120 :: e :: f :: m) = _
           rw [b6n, Uk e f m x y he hf]; rfl⟩
     ·cases hb : bk d with
      | none => simp [a3l d u h3 hb] at h
      | some b => exact ⟨[92, d], u, b, rfl, by simp, fun m => Uq d m h3 b hb⟩
   ·exact ⟨[c], t, c, rfl, by simp, fun m => Md c m h1 h2⟩
theorem Hz (l : List UInt8) (h : (rb l).2.2 = true) : 1 <= (rb l).2.1 ∧ (rb l).2.1 <= l.length := by
 obtain ⟨p, u, b, rfl, h1, h2⟩ := b4a l h;rw [h2]; simp; omega
def C5 (l : List UInt8) : List UInt8 × Nat × Bool :=
 if l.head? = some 34 then ([], 1, true)
 else if h : (rb l).2.2 = true then
  ((rb l).1 :: (C5 (l.drop (rb l).2.1)).1, (rb l).2.1 + (C5 (l.drop (rb l).2.1)).2.1, (C5 (l.drop (rb l).2.1)).2.2)
 else ([], (rb l).2.1, false)
termination_by l.length
decreasing_by all_goals (have := Hz l h; simp; omega)
def unq (l : List UInt8) : List UInt8 :=
 if h : (rb l).2.2 = true then (rb l).1 :: unq (l.drop (rb l).2.1) else []
termination_by l.length
decreasing_by (have := Hz l h; simp; omega)
def A8 (l : List UInt8) : List UInt8 × Nat × Bool :=
 if l.head? = some 34 then ((C5 l.tail).1, 1 + (C5 l.tail).2.1, (C5 l.tail).2.2) else ([], 0, false)
theorem Dv (l : List UInt8) (h : l.head? = some 34) : C5 l = ([], 1, true) := by rw [C5, if_pos h]
theorem Gr (l : List UInt8) (h : ¬ l.head? = some 34) (h2 : (rb l).2.2 = false) : C5 l = ([], (rb l).2.1, false) := by
 rw [C5, if_neg h, dif_neg (by simp [h2])]
theorem Eu (l : List UInt8) (h : ¬ l.head? = some 34) (h2 : (rb l).2.2 = true) : C5 l =
  ((rb l).1 :: (C5 (l.drop (rb l).2.1)).1, (rb l).2.1 + (C5 (l.drop (rb l).2.1)).2.1, (C5 (l.drop (rb l).2.1)).2.2) := by
 rw [C5, if_neg h, dif_pos h2]
theorem b11 (l m : List UInt8) (h : (rb l).2.2 = true) : rb (l ++ m) = rb l := by
 obtain ⟨p, u, b, rfl, h1, h2⟩ := b4a l h;rw [List.append_assoc, h2, h2]
theorem Yx (l : List UInt8) (h : (rb l).2.2 = true) (n : Nat) (hn : (rb l).2.1 <= n) : rb (l.take n) = rb l := by
 obtain ⟨p, u, b, rfl, h1, h2⟩ := b4a l h;rw [h2] at hn ⊢;simp only at hn;rw [List.take_append, List.take_of_length_le hn, h2]
theorem a7i (n : Nat) : ∀ l : List UInt8, l.length <= n -> (C5 l).2.2 = true -> 1 <= (C5 l).2.1 ∧ (C5 l).2.1 <= l.length ∧ unq (l.take ((C5 l).2.1 - 1)) = (C5 l).1 := by
 induction n with
 | zero =>
  intro l hl h;obtain rfl : l = [] := List.eq_nil_of_length_eq_zero (by omega)
  simp [C5, rb] at h
 | succ n ih =>
  intro l hl h;by_cases hq : l.head? = some 34
  ·rw [Dv l hq];refine ⟨Nat.le_refl _, ?_, ?_⟩
   ·cases l with
    | nil => simp at hq
    | cons => simp
   ·rw [unq]; simp [rb]
  ·by_cases hb : (rb l).2.2 = true
   ·have hs := Eu l hq hb;have hz := Hz l hb;obtain ⟨h1, h2, h3⟩ := ih (l.drop (rb l).2.1) (by simp; omega) (by rw [hs] at h; exact h);rw [hs];simp only [List.length_drop] at h2;refine ⟨by simp; omega, by simp; omega, ?_⟩;have ht := Yx l hb ((rb l).2.1 + (C5 (l.drop (rb l).2.1)).2.1 - 1) (by omega);rw [unq];simp only [ht, hb, dif_pos];rw [<- h3, List.drop_take];simp only [List.cons.injEq, true_and];congr 2;omega
   ·rw [Gr l hq (by simpa using hb)] at h;simp at h
theorem b0z : ∀ n : Fin 256, let c := UInt8.ofNat n.val; rb (esc c) = (c, (esc c).length, true) ∧ (esc c).head? ≠ some 34 ∧ 1 <= (esc c).length ∧ (esc c).length <= 4 ∧
  ∀ i : Fin 4, i.val < (esc c).length -> (rb ((esc c).take i.val)).2 = (i.val, false) ∧ ((esc c).take i.val).head? ≠ some 34 := by
 decide +kernel
theorem Xw (c : UInt8) : rb (esc c) = (c, (esc c).length, true) ∧ (esc c).head? ≠ some 34 ∧ 1 <= (esc c).length ∧ (esc c).length <= 4 ∧
  ∀ i, i < (esc c).length -> (rb ((esc c).take i)).2 = (i, false) ∧ ((esc c).take i).head? ≠ some 34 := by
 have h := b0z ⟨c.toNat, c.toNat_lt⟩;simp only [UInt8.ofNat_toNat] at h;obtain ⟨h1, h2, h3, h4, h5⟩ := h;exact ⟨h1, h2, h3, h4, fun i hi => h5 ⟨i, by omega⟩ hi⟩
theorem a92 {l m : List UInt8} (h : 1 <= l.length) : (l ++ m).head? = l.head? := by
 cases l with
 | nil => simp at h
 | cons => rfl
theorem a8c (c : UInt8) (m : List UInt8) : C5 (esc c ++ m) = (c :: (C5 m).1, (esc c).length + (C5 m).2.1, (C5 m).2.2) := by
 obtain ⟨h1, h2, h3, h4, h5⟩ := Xw c;have hr : rb (esc c ++ m) = (c, (esc c).length, true) := by rw [b11 _ _ (by rw [h1]), h1]
 rw [Eu _ (by rw [a92 h3]; exact h2) (by rw [hr]), hr];simp
theorem a2y (l more : List UInt8) : C5 (body l ++ 34 :: more) = (l, (body l).length + 1, true) := by
 induction l with
 | nil => exact Dv _ rfl
 | cons c t ih =>
  have : body (c :: t) = esc c ++ body t := by simp [body]
  rw [this, List.append_assoc, a8c, ih];simp; omega
theorem a8q (l more : List UInt8) : A8 (lit l ++ more) = (l, (lit l).length, true) := by
 unfold A8 lit;simp only [List.cons_append, List.head?_cons, if_true, List.tail_cons, List.append_assoc, List.nil_append];rw [a2y];simp; omega
theorem Th (l : List UInt8) : (body l).length <= 4 * l.length := by
 induction l with
 | nil => simp [body]
 | cons c t ih =>
  have e : body (c :: t) = esc c ++ body t := by simp [body]
  have := (Xw c).2.2.2.1;rw [e]; simp; omega
theorem Xl (l : List UInt8) : (lit l).length = (body l).length + 2 := by simp [lit]
theorem a6g (l : List UInt8) (c : UInt8) : body (l ++ [c]) = body l ++ esc c := by simp [body]
theorem N9 (l : List UInt8) (h : (A8 l).2.2 = true) : 2 <= (A8 l).2.1 ∧ (A8 l).2.1 <= l.length ∧ unq ((l.drop 1).take ((A8 l).2.1 - 2)) = (A8 l).1 := by
 unfold A8 at *;split at h
 ·rename_i hq;obtain ⟨h1, h2, h3⟩ := a7i _ l.tail (Nat.le_refl _) h;rw [if_pos hq];simp only [List.length_tail] at h2;refine ⟨by simp; omega, by simp; omega, ?_⟩;rw [<- h3, List.drop_one];simp only;congr 2;omega
 ·simp at h
end
end
section
section
open Go.RowKit
def byo (c : UInt8) : UInt8 × Bool := match bk c with | some b => (b, true) | none => (0, false)
def dgo (c : UInt8) : UInt8 × Bool := match dg c with | some x => (UInt8.ofNat x, true) | none => (0, false)
def vlo (c : UInt8) : Int := match dg c with | some x => x | none => -1
def wth (c : UInt8) : Bool := decide (32 <= c.toNat ∧ c.toNat <= 126)
theorem Kp (c : UInt8) (w : World) : Calls prog 202 #[byt c] w fun e w' => e = .returned (.bool (wth c)) ∧ w = w' := by
 have hc : (c.toNat : Int) < 256 := by have := c.toNat_lt; omega
 by_cases h1 : (32 : Int) <= c.toNat
 ·by_cases h2 : (c.toNat : Int) <= 126
  ·have H := zz (show wth c = true by simp [wth]; omega);go_enter func202, ntmps202;go_wp2;go_ret;rw [H.out];exact ⟨rfl, rfl⟩
  ·have H := zz (show wth c = false by simp [wth]; omega);go_enter func202, ntmps202;go_wp2;go_ret;rw [H.out];exact ⟨rfl, rfl⟩
 ·have H := zz (show wth c = false by simp [wth]; omega);go_enter func202, ntmps202;go_wp2;go_ret;rw [H.out];exact ⟨rfl, rfl⟩
theorem Zn (c : UInt8) (w : World) : Calls prog 204 #[byt c] w fun e w' => e = .returned (.tuple #[byt (byo c).1, .bool (byo c).2]) ∧ w = w' := by
 by_cases h1 : c = 34
 ·subst h1;go_enter func204, ntmps204;go_wp2
  go_ret2
  exact ⟨rfl, rfl⟩
 by_cases h2 : c = 92
 ·subst h2;go_enter func204, ntmps204;go_wp2
  go_ret2
  exact ⟨rfl, rfl⟩
 by_cases h3 : c = 110
 ·subst h3;go_enter func204, ntmps204;go_wp2
  go_ret2
  exact ⟨rfl, rfl⟩
 by_cases h4 : c = 116
 ·subst h4;go_enter func204, ntmps204;go_wp2
  go_ret2
  exact ⟨rfl, rfl⟩
 have H := zz (show byo c = (0, false) by simp [byo, bk, h1, h2, h3, h4]);have e1 := Av (n := 34) (by decide) h1;have e2 := Av (n := 92) (by decide) h2;have e3 := Av (n := 110) (by decide) h3;have e4 := Av (n := 116) (by decide) h4;clear h1 h2 h3 h4;go_enter func204, ntmps204;go_wp2
 go_ret2
 rw [H.out];exact ⟨rfl, rfl⟩
theorem Vr {c : UInt8} {x : Nat} (h : dg c = some x) : x < 16 := by
 unfold dg at h;split at h
 ·simp at h; omega
 ·split at h
  ·simp at h; omega
  ·split at h
   ·simp at h; omega
   ·simp at h
theorem Zl (c : UInt8) : (48 <= c.toNat ∧ c.toNat <= 57 ∧ dg c = some (c.toNat - 48)) ∨ (97 <= c.toNat ∧ c.toNat <= 102 ∧ dg c = some (c.toNat - 87)) ∨
  (65 <= c.toNat ∧ c.toNat <= 70 ∧ dg c = some (c.toNat - 55)) ∨ (¬ (48 <= c.toNat ∧ c.toNat <= 57) ∧ ¬ (97 <= c.toNat ∧ c.toNat <= 102) ∧ ¬ (65 <= c.toNat ∧ c.toNat <= 70) ∧ dg c = none) := by
 unfold dg;by_cases h1 : 48 <= c.toNat ∧ c.toNat <= 57
 ·exact .inl ⟨h1.1, h1.2, if_pos h1⟩
 by_cases h2 : 97 <= c.toNat ∧ c.toNat <= 102
 ·exact .inr (.inl ⟨h2.1, h2.2, by rw [if_neg h1, if_pos h2]⟩)
 by_cases h3 : 65 <= c.toNat ∧ c.toNat <= 70
 ·exact .inr (.inr (.inl ⟨h3.1, h3.2, by rw [if_neg h1, if_neg h2, if_pos h3]⟩))
 exact .inr (.inr (.inr ⟨h1, h2, h3, by rw [if_neg h1, if_neg h2, if_neg h3]⟩))
theorem Ys {a : Int} {c : UInt8 × Bool} {b : UInt8} {t : Bool} (h : c = (b, t)) (h2 : a = (b.toNat : Nat)) : Ending.returned (.tuple #[.int .u8 a, .bool t]) = .returned (.tuple #[byt c.1, .bool c.2]) := by rw [h, h2]
theorem Rm {x : Nat} (h : x < 256) : (UInt8.ofNat x).toNat = x := UInt8.toNat_ofNat_of_lt' (by simpa using h)
theorem a3h {a b : Int} {t : Bool} (h : a = b) : Ending.returned (.tuple #[.int .u8 a, .bool t]) = .returned (.tuple #[.int .u8 b, .bool t]) := by rw [h]
theorem c4j (n : Nat) (w : World) (k1 : (48 : Int) <= n) (k2 : (n : Int) <= 57) : Calls prog 212 #[.int .u8 n] w fun e w' => e = .returned (.tuple #[.int .u8 ((n : Int) - 48), .bool true]) ∧ w = w' := by
 go_enter func212, ntmps212;go_wp2
 go_ret2
 exact ⟨a3h (by omega), rfl⟩
theorem c4i (n : Nat) (w : World) (k1 : (97 : Int) <= n) (k2 : (n : Int) <= 102) : Calls prog 212 #[.int .u8 n] w fun e w' => e = .returned (.tuple #[.int .u8 ((n : Int) - 87), .bool true]) ∧ w = w' := by
 go_enter func212, ntmps212;go_wp2
 go_ret2
 exact ⟨a3h (by omega), rfl⟩
theorem c4h (n : Nat) (w : World) (k1 : (65 : Int) <= n) (k2 : (n : Int) <= 70) : Calls prog 212 #[.int .u8 n] w fun e w' => e = .returned (.tuple #[.int .u8 ((n : Int) - 55), .bool true]) ∧ w = w' := by
 go_enter func212, ntmps212;go_wp2
 go_ret2
 exact ⟨a3h (by omega), rfl⟩
theorem c4g (n : Nat) (w : World) (hn : (n : Int) < 256) (h1 : ¬ (48 <= n ∧ n <= 57)) (h2 : ¬ (97 <= n ∧ n <= 102)) (h3 : ¬ (65 <= n ∧ n <= 70)) :
  Calls prog 212 #[.int .u8 n] w fun e w' => e = .returned (.tuple #[.int .u8 0, .bool false]) ∧ w = w' := by
 rcases (show (n : Int) < 48 ∨ ((57 : Int) < n ∧ (n : Int) < 65) ∨ ((70 : Int) < n ∧ (n : Int) < 97) ∨ (102 : Int) < n by omega) with h | ⟨h, h'⟩ | ⟨h, h'⟩ | h <;> clear h1 h2 h3 hn <;>
 ·go_enter func212, ntmps212;go_wp2
  go_ret2
  exact ⟨rfl, rfl⟩
theorem Vq (c : UInt8) (w : World) : Calls prog 212 #[byt c] w fun e w' => e = .returned (.tuple #[byt (dgo c).1, .bool (dgo c).2]) ∧ w = w' := by
 have hc : (c.toNat : Int) < 256 := by have := c.toNat_lt; omega
 rcases Zl c with ⟨h1, h2, h⟩ | ⟨h1, h2, h⟩ | ⟨h1, h2, h⟩ | ⟨h1, h2, h3, h⟩
 ·refine (c4j _ w (by omega) (by omega)).mono fun e w' he => ⟨he.1.trans (Ys (show dgo c = _ by rw [dgo, h]) ?_), he.2⟩
  rw [Rm (by omega)]; omega
 ·refine (c4i _ w (by omega) (by omega)).mono fun e w' he => ⟨he.1.trans (Ys (show dgo c = _ by rw [dgo, h]) ?_), he.2⟩
  rw [Rm (by omega)]; omega
 ·refine (c4h _ w (by omega) (by omega)).mono fun e w' he => ⟨he.1.trans (Ys (show dgo c = _ by rw [dgo, h]) ?_), he.2⟩
  rw [Rm (by omega)]; omega
 ·exact (c4g _ w hc h1 h2 h3).mono fun e w' he => ⟨he.1.trans (Ys (show dgo c = _ by rw [dgo, h]) rfl), he.2⟩
end
end
section
section
open Go.RowKit
theorem Au (s : ByteArray) (k : Nat) (h : k < s.size) : s.data.toList.drop k = s[k] :: s.data.toList.drop (k + 1) := by
 rw [List.drop_eq_getElem_cons (by rw [Ad]; exact h)]; rfl
theorem Co (s : ByteArray) (k : Nat) (h : s.size <= k) : s.data.toList.drop k = [] := List.drop_of_length_le (by rw [Ad]; exact h)
abbrev tri (r : Rb) : Value := .tuple #[byt r.1, .int .i64 (r.2.1 : Nat), .bool r.2.2]
theorem Hy {a b : Int} {t : Bool} {r : Rb} {x : UInt8} {k : Nat} (h : r = (x, k, t)) (h1 : a = (x.toNat : Nat)) (h2 : b = (k : Nat)) : Ending.returned (.tuple #[.int .u8 a, .int .i64 b, .bool t]) = .returned (tri r) := by
 rw [h, h1, h2]
theorem Zj {c : UInt8} {x : Nat} (h : dg c = some x) (w : World) : Calls prog 212 #[byt c] w fun e w' => e = .returned (.tuple #[.int .u8 x, .bool true]) ∧ w = w' := by
 have := Vq c w;rw [dgo, h] at this;simp only [byt, Rm (show x < 256 from Nat.lt_trans (Vr h) (by decide))] at this;exact this
theorem Zk {c : UInt8} (h : dg c = none) (w : World) : Calls prog 212 #[byt c] w fun e w' => e = .returned (.tuple #[.int .u8 0, .bool false]) ∧ w = w' := by
 have := Vq c w;rw [dgo, h] at this;exact this
theorem or4 : ∀ x y : Fin 16, bits BinOp.or IntKind.u8 ((x.val : Int) * 16) (y.val : Int) = ((16 * x.val + y.val : Nat) : Int) := by decide +kernel
theorem a1i (s : ByteArray) (w : World) (h2 : 2 <= s.size) (hs : s.size <= 1000000) : Calls prog 203 #[.string s] w fun e w' => e = .returned (tri (rd (s.data.toList.drop 2))) ∧ w = w' := by
 obtain ⟨r, hr⟩ : ∃ r, rd (s.data.toList.drop 2) = r := ⟨_, rfl⟩;rw [hr];replace hr := zz hr;go_enter func203, ntmps203;go_wp2
 go_loop [5, 6] (fun b i => (b = .int .u8 0 ∧ i = .int .i64 2) ∨ (∃ (h : 2 < s.size) (x : Nat), dg s[2] = some x ∧ b = .int .u8 x ∧ i = .int .i64 3) ∨
  (∃ (h : 3 < s.size) (x y : Nat), dg s[2] = some x ∧ dg s[3] = some y ∧ b = .int .u8 (16 * x + y : Nat) ∧ i = .int .i64 4)) (fun _ i => 4 - (intOf i).toNat)
 case atStart => exact .inl ⟨rfl, rfl⟩
 case round =>
  rcases hrel with ⟨rfl, rfl⟩ | ⟨h, x, hx, rfl, rfl⟩ | ⟨h, x, y, hx, hy, rfl, rfl⟩
  ·by_cases hlt : 2 < s.size
   ·have hne : ((2 : Int) == (s.size : Int)) = false := by rw [beq_eq_false_iff_ne]; omega
    cases hd : dg s[2] with
    | none =>
     have HD := zz (Zk hd);have HR := zz (show r = (0, 2, false) by rw [<- hr.out, Au s 2 hlt, Un _ _ hd]);clear hd;go_wp2_with fail;refine (HD.out _).mono ?_;rintro e w1 ⟨rfl, rfl⟩;go_wp2
     go_ret3
     exact ⟨Hy HR.out rfl rfl, rfl⟩
    | some x =>
     have HD := zz (Zj hd);have hx16 := Vr hd;have hor : bits BinOp.or IntKind.u8 0 (x : Int) = x := by simpa using or4 0 ⟨x, hx16⟩
     replace hd := zz hd;go_wp2_with fail;refine (HD.out _).mono ?_;rintro e w1 ⟨rfl, rfl⟩;go_wp2
     go_round
     case rel => exact .inr (.inl ⟨hlt, x, hd.out, rfl, by go_num⟩)
     case measure => simp [intOf]
   ·have hsz : s.size = 2 := by omega
    have HR := zz (show r = (0, 2, false) by rw [<- hr.out, Co s 2 (by omega), Um]);have he : ((2 : Int) == (s.size : Int)) = true := by rw [beq_iff_eq]; omega
    clear hsz hlt;go_wp2
    go_ret3
    exact ⟨Hy HR.out rfl rfl, rfl⟩
  ·by_cases hlt : 3 < s.size
   ·have hne : ((3 : Int) == (s.size : Int)) = false := by rw [beq_eq_false_iff_ne]; omega
    cases hd : dg s[3] with
    | none =>
     have HD := zz (Zk hd);have HR := zz (show r = (0, 3, false) by rw [<- hr.out, Au s 2 h, Au s 3 hlt, Pg _ _ _ _ hx hd]);clear hd;go_wp2_with fail;refine (HD.out _).mono ?_;rintro e w1 ⟨rfl, rfl⟩;go_wp2
     go_ret3
     exact ⟨Hy HR.out rfl rfl, rfl⟩
    | some y =>
     have HD := zz (Zj hd);have hx16 := Vr hx;have hy16 := Vr hd;have hor := or4 ⟨x, hx16⟩ ⟨y, hy16⟩;simp only at hor;replace hd := zz hd;replace hx := zz hx;go_wp2_with fail;refine (HD.out _).mono ?_;rintro e w1 ⟨rfl, rfl⟩;go_wp2
     go_round
     case rel => exact .inr (.inr ⟨hlt, x, y, hx.out, hd.out, rfl, by go_num⟩)
     case measure => simp [intOf]
   ·have hsz : s.size = 3 := by omega
    have HR := zz (show r = (0, 3, false) by rw [<- hr.out, Au s 2 h, Co s 3 (by omega), Ul _ _ hx]);have he : ((3 : Int) == (s.size : Int)) = true := by rw [beq_iff_eq]; omega
    clear hsz hlt;go_wp2
    go_ret3
    exact ⟨Hy HR.out rfl rfl, rfl⟩
  ·have HR := zz (show r = (UInt8.ofNat (16 * x + y), 4, true) by rw [<- hr.out, Au s 2 (by omega), Au s 3 h, Uk _ _ _ _ _ hx hy]);have hx16 := Vr hx;have hy16 := Vr hy;clear hx hy;go_wp2
   go_ret3
   exact ⟨Hy HR.out (by rw [Rm (by omega)]; omega) rfl, rfl⟩
theorem a7b {c : UInt8} (h : wth c = true) : ¬ (c.toNat < 32 ∨ 126 < c.toNat) := by simp [wth] at h; omega
theorem a1x {c : UInt8} (h : wth c = false) : c.toNat < 32 ∨ 126 < c.toNat := by simp [wth] at h; omega
theorem b07 {c b : UInt8} (h : bk c = some b) (w : World) : Calls prog 204 #[byt c] w fun e w' => e = .returned (.tuple #[byt b, .bool true]) ∧ w = w' := by
 have := Zn c w;rw [byo, h] at this;exact this
theorem b08 {c : UInt8} (h : bk c = none) (w : World) : Calls prog 204 #[byt c] w fun e w' => e = .returned (.tuple #[byt 0, .bool false]) ∧ w = w' := by
 have := Zn c w;rw [byo, h] at this;exact this
theorem rb0 (w : World) : Calls prog 192 #[.string { data := #[] }] w fun e w' => e = .returned (tri (0, 0, false)) ∧ w = w' := by
 go_enter func192, ntmps192;go_wp2
 go_ret3
 exact ⟨rfl, rfl⟩
theorem b8i (l : List UInt8) : (rb l).2.1 <= 4 := by
 match l with
 | [] => simp [a3m]
 | c :: t =>
  by_cases h1 : c.toNat < 32 ∨ 126 < c.toNat
  ·simp [Uo c t h1]
  ·by_cases h2 : c = 92
   ·subst h2
    match t with
    | [] => simp [Up]
    | d :: u =>
     by_cases h3 : d = 120
     ·subst h3;rw [b6n]
      match u with
      | [] => simp [Um]
      | e :: v =>
       cases he : dg e with
       | none => simp [Un e v he]
       | some x =>
        match v with
        | [] => simp [Ul e x he]
        | f :: v =>
         cases hf : dg f with
         | none => simp [Pg e f v x he hf]
         | some y => simp [Uk e f v x y he hf]
     ·cases hb : bk d with
      | none => simp [a3l d u h3 hb]
      | some b => simp [Uq d u h3 b hb]
   ·simp [Md c t h1 h2]
theorem H6 (s : ByteArray) (h : 0 < s.size) : (s.toList == []) = false := by
 rw [beq_eq_false_iff_ne, ByteArray.toList_eq];intro e;have := congrArg List.length e;rw [Ad, List.length_nil] at this;omega
theorem Nt (s : ByteArray) (w : World) (hs : s.size <= 1000000) : Calls prog 192 #[.string s] w fun e w' => e = .returned (tri (rb s.data.toList)) ∧ w = w' := by
 by_cases h0 : 0 < s.size
 case neg =>
  rw [Dz s h0];exact rb0 w
 obtain ⟨r, hr⟩ : ∃ r, rb s.data.toList = r := ⟨_, rfl⟩;rw [hr];have e0 := Au s 0 h0;rw [List.drop_zero] at e0;rw [e0] at hr;replace hr := zz hr;clear e0;have HW := zz (fun w => Kp s[0] w);have hne := H6 s h0
 cases hw : wth s[0] with
 | false =>
  have HR := zz (show r = (0, 0, false) by rw [<- hr.out, Uo _ _ (a1x hw)]);rw [hw] at HW;clear hw;go_enter func192, ntmps192;go_wp2_with fail;refine (HW.out _).mono ?_;rintro e w1 ⟨rfl, rfl⟩;go_wp2
  go_ret3
  exact ⟨Hy HR.out rfl rfl, rfl⟩
 | true =>
  rw [hw] at HW;by_cases h92 : s[0] = 92
  case neg =>
   have HR := zz (show r = (s[0], 1, true) by rw [<- hr.out, Md _ _ (a7b hw) h92]);have e1 := c01 (n := 92) (by decide) h92;clear hw h92;go_enter func192, ntmps192;go_wp2_with fail;refine (HW.out _).mono ?_;rintro e w1 ⟨rfl, rfl⟩;go_wp2
   go_ret3
   exact ⟨Hy HR.out rfl rfl, rfl⟩
  have e1 : ((s[0].toNat : Int) != 92) = false := by rw [h92]; rfl
  clear hw;by_cases h1 : 1 < s.size
  case neg =>
   have HR := zz (show r = (0, 1, false) by rw [<- hr.out, Co s _ (by omega), h92, Up]);have e2 : ((s.size : Int) == 1) = true := by rw [beq_iff_eq]; omega
   clear h92 h1;go_enter func192, ntmps192;go_wp2_with fail;refine (HW.out _).mono ?_;rintro e w1 ⟨rfl, rfl⟩;go_wp2
   go_ret3
   exact ⟨Hy HR.out rfl rfl, rfl⟩
  have e2 : ((s.size : Int) == 1) = false := by rw [beq_eq_false_iff_ne]; omega
  by_cases h120 : s[1] = 120
  case pos =>
   have HR := zz (show rd (s.data.toList.drop 2) = r by rw [<- hr.out, Au s 1 h1, h92, h120, b6n]);have e3 : ((s[1].toNat : Int) == 120) = true := by rw [h120]; rfl
   have HD := zz (fun w => a1i s w h1 hs);rw [HR.out] at HD;clear h92 h120;go_enter func192, ntmps192;go_wp2_with fail;refine (HW.out _).mono ?_;rintro e w1 ⟨rfl, rfl⟩;go_wp2_with fail;refine (HD.out _).mono ?_;rintro e w1 ⟨rfl, rfl⟩;go_wp2
   go_ret3
   exact ⟨rfl, rfl⟩
  have e3 := Av (n := 120) (by decide) h120
  cases hb : bk s[1] with
  | none =>
   have HR := zz (show r = (0, 1, false) by rw [<- hr.out, Au s 1 h1, h92, a3l _ _ h120 hb]);have HD := zz (fun w => b08 hb w);clear h92 h120 hb;go_enter func192, ntmps192;go_wp2_with fail;refine (HW.out _).mono ?_;rintro e w1 ⟨rfl, rfl⟩;go_wp2_with fail;refine (HD.out _).mono ?_;rintro e w1 ⟨rfl, rfl⟩;go_wp2
   go_ret3
   exact ⟨Hy HR.out rfl rfl, rfl⟩
  | some b =>
   have HR := zz (show r = (b, 2, true) by rw [<- hr.out, Au s 1 h1, h92, Uq _ _ h120 _ hb]);have HD := zz (fun w => b07 hb w);clear h92 h120 hb;go_enter func192, ntmps192;go_wp2_with fail;refine (HW.out _).mono ?_;rintro e w1 ⟨rfl, rfl⟩;go_wp2_with fail;refine (HD.out _).mono ?_;rintro e w1 ⟨rfl, rfl⟩;go_wp2
   go_ret3
   exact ⟨Hy HR.out rfl rfl, rfl⟩
end
end
section
section
open Go.RowKit
theorem Hg (s : ByteArray) (k : Nat) : (s.extract k s.size).data.toList = s.data.toList.drop k := by
 rw [E8, List.take_of_length_le];rw [List.length_drop, Ad]; exact Nat.le_refl _
theorem b0s (s : ByteArray) (k : Nat) (h : s.size <= 1000000) : (s.extract k s.size).size <= 1000000 := by
 rw [<- Ad, Hg, List.length_drop, Ad]; omega
theorem Yu (s : ByteArray) (k : Nat) (h : s.size <= 1000000) (r : Rb) (hr : rb (s.data.toList.drop k) = r) (w : World) : Calls prog 192 #[.string (s.extract k s.size)] w fun e w' => e = .returned (tri r) ∧ w = w' := by
 have := Nt (s.extract k s.size) w (b0s s k h)
 rwa [Hg, hr] at this
theorem a3g {a : Int} {t : Bool} {R : Nat × Bool} {k : Nat} (h : (k, t) = R) (h1 : a = (k : Nat)) : Ending.returned (.tuple #[.int .i64 a, .bool t]) = .returned (.tuple #[.int .i64 (R.1 : Nat), .bool R.2]) := by
 rw [<- h, h1]
theorem Iv (s : ByteArray) (k : Nat) (h : k < s.size) : (s.data.toList.drop k).head? = some s[k] := by rw [Au s k h]; rfl
def c40 (s : ByteArray) (w : World) (R : Nat × Bool) (a' : Act) (w' : World) : Prop :=
 ∃ k : Nat, (w' = w ∧ 1 <= k ∧ k <= s.size ∧ (k + (C5 (s.data.toList.drop k)).2.1, (C5 (s.data.toList.drop k)).2.2) = R) ∧ ∃ u5 u6 u7 u8 u9 u10 u11 u12 u13 u14 u15 u16 u17 u18 u19 u20 u21 u22 u23 u24 u25 u26 u27 u28 u29 u30 u31 u32 u33 u34 u35 u36 u37 u38 u39 : Value, a' = { tmps := #[.string s, undef, .int .i64 0, .bool false, .int .i64 k, u5, u6, u7, u8, u9, u10, u11, u12, u13, u14, u15, u16, u17, u18, u19, u20, u21, u22, u23, u24, u25, u26, u27, u28, u29, u30, u31, u32, u33, u34, u35, u36, u37, u38, u39], defers := [] }
theorem b00 (s : ByteArray) (w : World) (hs : s.size <= 1000000) (h0 : 0 < s.size) (h34 : s[0] = 34) (R : Nat × Bool) (hR : Hid ((1 + (C5 (s.data.toList.drop 1)).2.1, (C5 (s.data.toList.drop 1)).2.2) = R)) :
  Calls prog 171 #[.string s] w fun e w' => e = .returned (.tuple #[.int .i64 (R.1 : Nat), .bool R.2]) ∧ w = w' := by
 have hne := H6 s h0;have e0 : ((s[0].toNat : Int) != 34) = false := by rw [h34]; rfl
 clear h34;go_enter func171, ntmps171;go_wp2;refine Ep 0 (c40 s w R) (fun a' _ => s.size - (intOf (a'.tmps.getD 4 undef)).toNat) rfl ?_ ?_
 ·rintro a' w' ⟨k, ⟨rfl, hk1, hk, hR⟩, u5, u6, u7, u8, u9, u10, u11, u12, u13, u14, u15, u16, u17, u18, u19, u20, u21, u22, u23, u24, u25, u26, u27, u28, u29, u30, u31, u32, u33, u34, u35, u36, u37, u38, u39, rfl⟩;by_cases hlt : k < s.size
  ·by_cases hq : s[k] = 34
   ·have HR := zz (show (k + 1, true) = R by rw [<- hR, Dv _ (by rw [Iv s k hlt, hq])]);have e1 : ((s[k].toNat : Int) == 34) = true := by rw [hq]; rfl
    clear hq hR;go_wp2;simp only [Exit.jump]
    go_ret2
    exact ⟨a3g HR.out (by omega), rfl⟩
   ·have hq' : ¬ (s.data.toList.drop k).head? = some 34 := by rw [Iv s k hlt]; simpa using hq
    have e1 := Av (n := 34) (by decide) hq;obtain ⟨r, hr⟩ : ∃ r, rb (s.data.toList.drop k) = r := ⟨_, rfl⟩;have HRB := zz (fun w => Yu s k hs r hr w)
    cases hok : r.2.2 with
    | true =>
     have hz := Hz (s.data.toList.drop k) (by rw [hr]; exact hok);have hst := Eu (s.data.toList.drop k) hq' (by rw [hr]; exact hok);rw [hr] at hz hst;rw [List.drop_drop] at hst;rw [List.length_drop, Ad] at hz;have HR := zz (show (k + r.2.1 + (C5 (s.data.toList.drop (k + r.2.1))).2.1, (C5 (s.data.toList.drop (k + r.2.1))).2.2) = R by rw [<- hR, hst]; simp only [Nat.add_assoc]);obtain ⟨b, m, t⟩ := r;simp only at hok hz HR;subst hok;clear hq hq' hR hst hr;go_wp2_with fail;refine (HRB.out _).mono ?_;rintro e w1 ⟨rfl, rfl⟩;go_wp2
     go_step3
     refine ⟨rfl, ⟨k + m, ⟨rfl, by omega, by omega, HR.out⟩, ?_⟩, ?_⟩
     ·exact ⟨_, _, _, _, _, _, _, _, _, _, _, _, _, _, _, _, _, _, _, _, _, _, _, _, _, _, _, _, _, _, _, _, _, _, _, rfl⟩
     ·simp [intOf]
      omega
    | false =>
     have hst := Gr (s.data.toList.drop k) hq' (by rw [hr]; exact hok);rw [hr] at hst;have HR := zz (show (k + r.2.1, false) = R by rw [<- hR, hst]);have hb : r.2.1 <= 4 := by rw [<- hr]; exact b8i _
     obtain ⟨b, m, t⟩ := r;simp only at hok HR hb;subst hok;clear hq hq' hR hst hr;go_wp2_with fail;refine (HRB.out _).mono ?_;rintro e w1 ⟨rfl, rfl⟩;go_wp2;simp only [Exit.jump]
     go_ret2
     exact ⟨a3g HR.out (by omega), rfl⟩
  ·have hke := zz (show k = s.size by omega);have hki : ¬ (k : Int) < s.size := by omega
   have HRB := zz (fun w => Yu s k hs (0, 0, false) (by rw [Co s _ (by omega)]; rfl) w);have HR := zz (show (k, false) = R by rw [<- hR, Co s _ (by omega), Gr [] (by simp) rfl]; rfl);clear hR;go_wp2_with fail;refine (HRB.out _).mono ?_;rintro e w1 ⟨rfl, rfl⟩;go_wp2;simp only [Exit.jump]
   go_ret2
   exact ⟨a3g HR.out (by omega), rfl⟩
 ·intro F;go_wp2
  go_step3
  rename_i hK;apply hK;exact F _ _ ⟨1, ⟨rfl, Nat.le_refl _, h0, hR.out⟩, _, _, _, _, _, _, _, _, _, _, _, _, _, _, _, _, _, _, _, _, _, _, _, _, _, _, _, _, _, _, _, _, _, _, _, rfl⟩
theorem b01 (s : ByteArray) (w : World) (h0 : 0 < s.size) (h34 : s[0] ≠ 34) : Calls prog 171 #[.string s] w fun e w' => e = .returned (.tuple #[.int .i64 0, .bool false]) ∧ w = w' := by
 have hne := H6 s h0;have e0 := c01 (n := 34) (by decide) h34;clear h34;go_enter func171, ntmps171;go_wp2
 go_step3
 go_wp2;rw [Exit.noGoto_ret]
 go_ret2
 exact ⟨rfl, rfl⟩
theorem a5s (w : World) : Calls prog 171 #[.string { data := #[] }] w fun e w' => e = .returned (.tuple #[.int .i64 0, .bool false]) ∧ w = w' := by
 go_enter func171, ntmps171;go_wp2
 go_step3
 go_wp2;rw [Exit.noGoto_ret]
 go_ret2
 exact ⟨rfl, rfl⟩
theorem Ui (s : ByteArray) (h0 : 0 < s.size) (h34 : s[0] = 34) : A8 s.data.toList = ((C5 (s.data.toList.drop 1)).1, 1 + (C5 (s.data.toList.drop 1)).2.1, (C5 (s.data.toList.drop 1)).2.2) := by
 have e := Iv s 0 h0;rw [List.drop_zero, h34] at e;rw [A8, if_pos e, List.drop_one]
theorem Uj (s : ByteArray) (h0 : 0 < s.size) (h34 : s[0] ≠ 34) : A8 s.data.toList = ([], 0, false) := by
 have e := Iv s 0 h0;rw [List.drop_zero] at e;rw [A8, if_neg];rw [e]; simpa using h34
theorem a5t (s : ByteArray) (w : World) (hs : s.size <= 1000000) (R : List UInt8 × Nat × Bool) (hR : A8 s.data.toList = R) : Calls prog 171 #[.string s] w fun e w' => e = .returned (.tuple #[.int .i64 (R.2.1 : Nat), .bool R.2.2]) ∧ w = w' := by
 subst hR;by_cases h0 : 0 < s.size
 ·by_cases h34 : s[0] = 34
  ·have := b00 s w hs h0 h34 _ (zz rfl);rw [Ui s h0 h34];exact this
  ·rw [Uj s h0 h34];exact b01 s w h0 h34
 ·rw [Dz s h0];exact a5s w
end
end
section
section
open Go.RowKit
def a19 (l : List UInt8) : List UInt8 × Int := if (A8 l).2.2 = true ∧ (A8 l).2.1 = l.length then ((A8 l).1, 0) else ([], 2)
def c1d : Value -> Nat | .string t => t.size | _ => 0
theorem a7h (l : List UInt8) (h : (rb l).2.2 = true) : unq l = (rb l).1 :: unq (l.drop (rb l).2.1) := by rw [unq, dif_pos h]
theorem a7g (l : List UInt8) (h : (rb l).2.2 = false) : unq l = [] := by rw [unq, dif_neg (by simp [h])]
theorem Z3 (s : ByteArray) (w : World) (N : Nat) (HE : Hid (∀ w, Calls prog 171 #[.string s] w fun e w' => e = .returned (.tuple #[.int .i64 (N : Nat), .bool false]) ∧ w = w')) :
  Calls prog 172 #[.string s] w fun e w' => e = .returned (.tuple #[.string { data := #[] }, .int .i64 2]) ∧ w = w' := by
 go_enter func172, ntmps172;go_wp2
 go_step3
 go_wp2_with fail;refine (HE.out _).mono ?_;rintro e w1 ⟨rfl, rfl⟩;go_wp2;rw [Exit.noGoto_ret]
 go_ret2
 exact ⟨rfl, rfl⟩
theorem Tr (s : ByteArray) (w : World) (N : Nat) (hN : N < s.size) (HE : Hid (∀ w, Calls prog 171 #[.string s] w fun e w' => e = .returned (.tuple #[.int .i64 (N : Nat), .bool true]) ∧ w = w')) :
  Calls prog 172 #[.string s] w fun e w' => e = .returned (.tuple #[.string { data := #[] }, .int .i64 2]) ∧ w = w' := by
 go_enter func172, ntmps172;go_wp2
 go_step3
 go_wp2_with fail;refine (HE.out _).mono ?_;rintro e w1 ⟨rfl, rfl⟩;go_wp2;rw [Exit.noGoto_ret]
 go_ret2
 exact ⟨rfl, rfl⟩
def c4y (s : ByteArray) (N : Nat) (w : World) (X : List UInt8) (a' : Act) (w' : World) : Prop :=
 ∃ (t : ByteArray) (v : Value) (l : List UInt8), (l.length + t.size <= 1000000 ∧ l ++ unq t.data.toList = X ∧ Own w' w.heap.size v l ∧ Below w.heap.size w w') ∧ ∃ u5 u8 u9 u10 u11 u12 u13 u14 u15 u16 u17 u18 u19 u20 u21 u22 u23 u24 u25 u26 u27 u28 u29 u30 u31 u32 u33 u34 u35 u36 u37 u38 u39 u40 u41 u42 u43 u44 u45 : Value, a' = { tmps := #[.string s, undef, .string { data := #[] }, .int .i64 0, .int .i64 N, u5, .string t, v, u8, u9, u10, u11, u12, u13, u14, u15, u16, u17, u18, u19, u20, u21, u22, u23, u24, u25, u26, u27, u28, u29, u30, u31, u32, u33, u34, u35, u36, u37, u38, u39, u40, u41, u42, u43, u44, u45], defers := [] }
theorem V9 (s : ByteArray) (w : World) (N : Nat) (hs : s.size <= 1000000) (hN : N = s.size) (hN2 : 2 <= N) (X : List UInt8) (hX : Hid (unq (s.extract 1 (N - 1)).data.toList = X))
  (HE : Hid (∀ w, Calls prog 171 #[.string s] w fun e w' => e = .returned (.tuple #[.int .i64 (N : Nat), .bool true]) ∧ w = w')) :
  Calls prog 172 #[.string s] w fun e w' => e = .returned (.tuple #[.string (bs X), .int .i64 0]) ∧ Below w.heap.size w w' := by
 obtain ⟨M, hM⟩ : ∃ M, N - 1 = M := ⟨_, rfl⟩;rw [hM] at hX;have hM' : (N : Int) - 1 = M := by omega
 have hM1 : 1 <= M := by omega
 have hM2 : M <= s.size := by omega
 have hlt : ¬ (N : Int) < s.size := by omega
 have hlt2 : ¬ N < s.size := by omega
 have hts : (s.extract 1 M).size <= 1000000 := by
  rw [<- Ad, E8, List.length_take, List.length_drop, Ad]; omega
 have hM3 : M <= 1000000 := by omega
 have hNe := zz hN;clear hM hN hs;go_enter func172, ntmps172;go_wp2;refine Ep 0 (c4y s N w X) (fun a' _ => c1d (a'.tmps.getD 6 undef)) rfl ?_ ?_
 ·rintro a' w' ⟨t, v, l, ⟨hsz, hX, ho, hb⟩, u5, u8, u9, u10, u11, u12, u13, u14, u15, u16, u17, u18, u19, u20, u21, u22, u23, u24, u25, u26, u27, u28, u29, u30, u31, u32, u33, u34, u35, u36, u37, u38, u39, u40, u41, u42, u43, u44, u45, rfl⟩;obtain ⟨r, hr⟩ : ∃ r, rb t.data.toList = r := ⟨_, rfl⟩;have HRB := zz (fun w => Nt t w (by omega));rw [hr] at HRB;have hbs := hb.size
  cases hok : r.2.2 with
  | true =>
   have hz := Hz t.data.toList (by rw [hr]; exact hok);have hst := a7h t.data.toList (by rw [hr]; exact hok);rw [hr] at hz hst;rw [Ad] at hz;rw [<- Hg] at hst;obtain ⟨b, m, tt⟩ := r;simp only at hok hz hst;subst hok;have HX := zz (show l ++ [b] ++ unq (t.extract m t.size).data.toList = X by rw [<- hX, hst]; simp);have hm1 : m <= t.size := hz.2;have hm2 : (m : Int) <= t.size := by omega
   have hez : (t.extract m t.size).size = t.size - m := by rw [<- Ad, Hg, List.length_drop, Ad]
   replace hez := zz hez;replace ho := zz ho;replace hb := zz hb;clear hX hst hr;go_wp2_with fail;refine (HRB.out _).mono ?_;rintro e w1 ⟨rfl, rfl⟩;go_wp2_with (at_builtin; refine Cd rfl _ _ rfl w.heap.size v l [b] 1 rfl rfl rfl rfl ho.out hbs (by omega) ?_; intro v2 w2 ho2 hb2; replace ho2 := zz ho2; replace hb2 := zz hb2)
   go_step3
   refine ⟨rfl, ⟨t.extract m t.size, v2, l ++ [b], ⟨by rw [hez.out]; simp; omega, HX.out, ho2.out, hb.out.trans hb2.out⟩, ?_⟩, ?_⟩
   ·exact ⟨_, _, _, _, _, _, _, _, _, _, _, _, _, _, _, _, _, _, _, _, _, _, _, _, _, _, _, _, _, _, _, _, _, _, _, _, _, _, _, rfl⟩
   ·show c1d (.string (t.extract m t.size)) < c1d (.string t);simp only [c1d, hez.out]
    omega
  | false =>
   have hst := a7g t.data.toList (by rw [hr]; exact hok);have HX := zz (show l = X by rw [<- hX, hst]; simp);obtain ⟨b, m, tt⟩ := r;simp only at hok;subst hok;have hcv := Kv ho;replace hb := zz hb;clear hX hst hr ho;go_wp2_with fail;refine (HRB.out _).mono ?_;rintro e w1 ⟨rfl, rfl⟩;go_wp2;simp only [Exit.jump]
   go_ret2
   rw [<- HX.out];exact ⟨rfl, hb.out⟩
 ·intro F;go_wp2_with fail;refine (HE.out _).mono ?_;rintro e w1 ⟨rfl, rfl⟩
  go_wp2_with (first
   | (at_make; refine Np rfl _ _ rfl w.heap.size (M - 1) _ rfl rfl (by first | rfl | omega) (by omega) (Nat.le_refl _) ?_; intro v1 w1 ho1 hb1; replace ho1 := zz ho1; replace hb1 := zz hb1))
  go_step3
  rename_i hK;apply hK;exact F _ _ ⟨s.extract 1 M, v1, [], ⟨by simpa using hts, hX.out, ho1.out, hb1.out⟩, _, _, _, _, _, _, _, _, _, _, _, _, _, _, _, _, _, _, _, _, _, _, _, _, _, _, _, _, _, _, _, _, _, _, _, _, _, _, _, rfl⟩
theorem Wa (s : ByteArray) (w : World) (hs : s.size <= 1000000) : Calls prog 172 #[.string s] w fun e w' => e = .returned (.tuple #[.string (bs (a19 s.data.toList).1), .int .i64 (a19 s.data.toList).2]) ∧ Below w.heap.size w w' := by
 have HE := zz (fun w => a5t s w hs _ rfl);unfold a19;rw [Ad]
 cases hok : (A8 s.data.toList).2.2 with
 | false =>
  rw [hok] at HE;rw [if_neg (by simp)]
  exact Eh (Z3 s w _ HE)
 | true =>
  rw [hok] at HE;obtain ⟨h1, h2, h3⟩ := N9 s.data.toList hok;rw [Ad] at h2;by_cases hN : (A8 s.data.toList).2.1 = s.size
  ·rw [if_pos ⟨rfl, hN⟩];refine V9 s w _ hs hN h1 _ (zz ?_) HE;rw [E8];exact h3
  ·rw [if_neg (by simp [hN])];exact Eh (Tr s w _ (by omega) HE)
end
end
end Go.Proofs.YtoaplbljflhheaaGreat
