/-
 Contracts and plain facts on the way to PrettyTerms. Conditions: as each says.
-/
import Derived.Test.YtoaplbljflhheaaGreatTab
set_option maxHeartbeats 40000000
set_option maxRecDepth 100000
set_option linter.unusedVariables false
set_option linter.unusedSimpArgs false
namespace Go.Proofs.YtoaplbljflhheaaGreat
section
def hx (n : Nat) : UInt8 := if n < 10 then UInt8.ofNat (48 + n) else UInt8.ofNat (87 + n)
def esc (c : UInt8) : List UInt8 :=
 if c = 34 ∨ c = 92 then [92, c] else if c = 10 then [92, 110] else if c = 9 then [92, 116]
 else if c.toNat < 32 ∨ 126 < c.toNat then [92, 120, hx (c.toNat / 16), hx (c.toNat % 16)] else [c]
def body (l : List UInt8) : List UInt8 := l.flatMap esc
def lit (l : List UInt8) : List UInt8 := 34 :: (body l ++ [34])
def dg (c : UInt8) : Option Nat :=
 if 48 ≤ c.toNat ∧ c.toNat ≤ 57 then some (c.toNat - 48) else if 97 ≤ c.toNat ∧ c.toNat ≤ 102 then some (c.toNat - 87)
 else if 65 ≤ c.toNat ∧ c.toNat ≤ 70 then some (c.toNat - 55) else none
def bk (c : UInt8) : Option UInt8 := if c = 34 ∨ c = 92 then some c else if c = 110 then some 10 else if c = 116 then some 9 else none
abbrev Rb := UInt8 × Nat × Bool
def rd : List UInt8 → Rb
 | [] => (0, 2, false)
 | e :: v => match dg e with
  | none => (0, 2, false)
  | some x => match v with
   | [] => (0, 3, false)
   | f :: _ => match dg f with
    | none => (0, 3, false)
    | some y => (UInt8.ofNat (16 * x + y), 4, true)
def rb : List UInt8 → Rb
 | [] => (0, 0, false)
 | c :: t => if c.toNat < 32 ∨ 126 < c.toNat then (0, 0, false) else if c = 92 then (match t with
   | [] => (0, 1, false)
   | d :: u => if d = 120 then rd u else match bk d with
    | none => (0, 1, false)
    | some b => (b, 2, true)) else (c, 1, true)
theorem Yr : rd [] = (0, 2, false) := rfl
theorem Ys (e : UInt8) (v : List UInt8) (h : dg e = none) : rd (e :: v) = (0, 2, false) := by simp [rd, h]
theorem Yq (e : UInt8) (x : Nat) (h : dg e = some x) : rd [e] = (0, 3, false) := by simp [rd, h]
theorem Rk (e f : UInt8) (v : List UInt8) (x : Nat) (h : dg e = some x) (h2 : dg f = none) : rd (e :: f :: v) = (0, 3, false) := by simp [rd, h, h2]
theorem Yp (e f : UInt8) (v : List UInt8) (x y : Nat) (h : dg e = some x) (h2 : dg f = some y) : rd (e :: f :: v) = (UInt8.ofNat (16 * x + y), 4, true) := by simp [rd, h, h2]
theorem a57 : rb [] = (0, 0, false) := rfl
theorem Yt (c : UInt8) (t : List UInt8) (h : c.toNat < 32 ∨ 126 < c.toNat) : rb (c :: t) = (0, 0, false) := by
 rw [rb.eq_def]; exact if_pos h
theorem N6 (c : UInt8) (t : List UInt8) (h : ¬ (c.toNat < 32 ∨ 126 < c.toNat)) (h2 : c ≠ 92) : rb (c :: t) = (c, 1, true) := by
 rw [rb.eq_def]; exact (if_neg h).trans (if_neg h2)
theorem Yu : rb [92] = (0, 1, false) := by decide
theorem b4o (u : List UInt8) : rb (92 :: 120 :: u) = rd u := by rw [rb, if_neg (by decide), if_pos rfl]; rfl
theorem a8j (d : UInt8) (u : List UInt8) (h : d ≠ 120) (b : UInt8) (hb : bk d = some b) : rb (92 :: d :: u) = (b, 2, true) := by
 rw [rb, if_neg (by decide), if_pos rfl]; simp [h, hb]
theorem a8i (d : UInt8) (u : List UInt8) (h : d ≠ 120) (hb : bk d = none) : rb (92 :: d :: u) = (0, 1, false) := by
 rw [rb, if_neg (by decide), if_pos rfl]; simp [h, hb]
theorem a8h (l : List UInt8) (h : (rb l).2.2 = true) : ∃ p u b, l = p ++ u ∧ 1 ≤ p.length ∧ ∀ m, rb (p ++ m) = (b, p.length, true) := by
 match l with
 | [] => simp [a57] at h
 | c :: t =>
  by_cases h1 : c.toNat < 32 ∨ 126 < c.toNat
  ·simp [Yt c t h1] at h
  ·by_cases h2 : c = 92
   ·subst h2
    match t with
    | [] => simp [Yu] at h
    | d :: u =>
     by_cases h3 : d = 120
     ·subst h3
      rw [b4o] at h
      match u with
      | [] => simp [Yr] at h
      | e :: v =>
       cases he : dg e with
       | none => simp [Ys e v he] at h
       | some x =>
        match v with
        | [] => simp [Yq e x he] at h
        | f :: v =>
         cases hf : dg f with
         | none => simp [Rk e f v x he hf] at h
         | some y => exact ⟨[92, 120, e, f], v, _, rfl, by simp, fun m => by
           show rb (92 :: 120 :: e :: f :: m) = _
           rw [b4o, Yp e f m x y he hf]; rfl⟩
     ·cases hb : bk d with
      | none => simp [a8i d u h3 hb] at h
      | some b => exact ⟨[92, d], u, b, rfl, by simp, fun m => a8j d m h3 b hb⟩
   ·exact ⟨[c], t, c, rfl, by simp, fun m => N6 c m h1 h2⟩
theorem Ik (l : List UInt8) (h : (rb l).2.2 = true) : 1 ≤ (rb l).2.1 ∧ (rb l).2.1 ≤ l.length := by
 obtain ⟨p, u, b, rfl, h1, h2⟩ := a8h l h
 rw [h2]; simp; omega
def C8 (l : List UInt8) : List UInt8 × Nat × Bool :=
 if l.head? = some 34 then ([], 1, true)
 else if h : (rb l).2.2 = true then
  ((rb l).1 :: (C8 (l.drop (rb l).2.1)).1, (rb l).2.1 + (C8 (l.drop (rb l).2.1)).2.1, (C8 (l.drop (rb l).2.1)).2.2)
 else ([], (rb l).2.1, false)
termination_by l.length
decreasing_by all_goals (have := Ik l h; simp; omega)
def unq (l : List UInt8) : List UInt8 :=
 if h : (rb l).2.2 = true then (rb l).1 :: unq (l.drop (rb l).2.1) else []
termination_by l.length
decreasing_by (have := Ik l h; simp; omega)
def A5 (l : List UInt8) : List UInt8 × Nat × Bool :=
 if l.head? = some 34 then ((C8 l.tail).1, 1 + (C8 l.tail).2.1, (C8 l.tail).2.2) else ([], 0, false)
theorem Eh (l : List UInt8) (h : l.head? = some 34) : C8 l = ([], 1, true) := by rw [C8, if_pos h]
theorem Hs (l : List UInt8) (h : ¬ l.head? = some 34) (h2 : (rb l).2.2 = false) : C8 l = ([], (rb l).2.1, false) := by
 rw [C8, if_neg h, dif_neg (by simp [h2])]
theorem Ft (l : List UInt8) (h : ¬ l.head? = some 34) (h2 : (rb l).2.2 = true) : C8 l =
  ((rb l).1 :: (C8 (l.drop (rb l).2.1)).1, (rb l).2.1 + (C8 (l.drop (rb l).2.1)).2.1, (C8 (l.drop (rb l).2.1)).2.2) := by
 rw [C8, if_neg h, dif_pos h2]
theorem a58 (l m : List UInt8) (h : (rb l).2.2 = true) : rb (l ++ m) = rb l := by
 obtain ⟨p, u, b, rfl, h1, h2⟩ := a8h l h
 rw [List.append_assoc, h2, h2]
theorem S6 (l : List UInt8) (h : (rb l).2.2 = true) (n : Nat) (hn : (rb l).2.1 ≤ n) : rb (l.take n) = rb l := by
 obtain ⟨p, u, b, rfl, h1, h2⟩ := a8h l h
 rw [h2] at hn ⊢
 simp only at hn
 rw [List.take_append, List.take_of_length_le hn, h2]
theorem a12 (n : Nat) : ∀ l : List UInt8, l.length ≤ n → (C8 l).2.2 = true → 1 ≤ (C8 l).2.1 ∧ (C8 l).2.1 ≤ l.length ∧ unq (l.take ((C8 l).2.1 - 1)) = (C8 l).1 := by
 induction n with
 | zero =>
  intro l hl h
  obtain rfl : l = [] := List.eq_nil_of_length_eq_zero (by omega)
  simp [C8, rb] at h
 | succ n ih =>
  intro l hl h
  by_cases hq : l.head? = some 34
  ·rw [Eh l hq]
   refine ⟨Nat.le_refl _, ?_, ?_⟩
   ·cases l with
    | nil => simp at hq
    | cons => simp
   ·rw [unq]; simp [rb]
  ·by_cases hb : (rb l).2.2 = true
   ·have hs := Ft l hq hb
    have hz := Ik l hb
    obtain ⟨h1, h2, h3⟩ := ih (l.drop (rb l).2.1) (by simp; omega) (by rw [hs] at h; exact h)
    rw [hs]
    simp only [List.length_drop] at h2
    refine ⟨by simp; omega, by simp; omega, ?_⟩
    have ht := S6 l hb ((rb l).2.1 + (C8 (l.drop (rb l).2.1)).2.1 - 1) (by omega)
    rw [unq]
    simp only [ht, hb, dif_pos]
    rw [← h3, List.drop_take]
    simp only [List.cons.injEq, true_and]
    congr 2
    omega
   ·rw [Hs l hq (by simpa using hb)] at h
    simp at h
theorem a4u : ∀ n : Fin 256, let c := UInt8.ofNat n.val; rb (esc c) = (c, (esc c).length, true) ∧ (esc c).head? ≠ some 34 ∧ 1 ≤ (esc c).length ∧ (esc c).length ≤ 4 ∧
  ∀ i : Fin 4, i.val < (esc c).length → (rb ((esc c).take i.val)).2 = (i.val, false) ∧ ((esc c).take i.val).head? ≠ some 34 := by
 decide +kernel
theorem Sa (c : UInt8) : rb (esc c) = (c, (esc c).length, true) ∧ (esc c).head? ≠ some 34 ∧ 1 ≤ (esc c).length ∧ (esc c).length ≤ 4 ∧
  ∀ i, i < (esc c).length → (rb ((esc c).take i)).2 = (i, false) ∧ ((esc c).take i).head? ≠ some 34 := by
 have h := a4u ⟨c.toNat, c.toNat_lt⟩
 simp only [UInt8.ofNat_toNat] at h
 obtain ⟨h1, h2, h3, h4, h5⟩ := h
 exact ⟨h1, h2, h3, h4, fun i hi => h5 ⟨i, by omega⟩ hi⟩
theorem a38 {l m : List UInt8} (h : 1 ≤ l.length) : (l ++ m).head? = l.head? := by
 cases l with
 | nil => simp at h
 | cons => rfl
theorem a2q (c : UInt8) (m : List UInt8) : C8 (esc c ++ m) = (c :: (C8 m).1, (esc c).length + (C8 m).2.1, (C8 m).2.2) := by
 obtain ⟨h1, h2, h3, h4, h5⟩ := Sa c
 have hr : rb (esc c ++ m) = (c, (esc c).length, true) := by rw [a58 _ _ (by rw [h1]), h1]
 rw [Ft _ (by rw [a38 h3]; exact h2) (by rw [hr]), hr]
 simp
theorem X6 (l more : List UInt8) : C8 (body l ++ 34 :: more) = (l, (body l).length + 1, true) := by
 induction l with
 | nil => exact Eh _ rfl
 | cons c t ih =>
  have : body (c :: t) = esc c ++ body t := by simp [body]
  rw [this, List.append_assoc, a2q, ih]
  simp; omega
theorem a2y (l more : List UInt8) : A5 (lit l ++ more) = (l, (lit l).length, true) := by
 unfold A5 lit
 simp only [List.cons_append, List.head?_cons, if_true, List.tail_cons, List.append_assoc, List.nil_append]
 rw [X6]
 simp; omega
theorem Ld (l : List UInt8) : (body l).length ≤ 4 * l.length := by
 induction l with
 | nil => simp [body]
 | cons c t ih =>
  have e : body (c :: t) = esc c ++ body t := by simp [body]
  have := (Sa c).2.2.2.1
  rw [e]; simp; omega
theorem Og (l : List UInt8) : (lit l).length = (body l).length + 2 := by simp [lit]
theorem a1c (l : List UInt8) (c : UInt8) : body (l ++ [c]) = body l ++ esc c := by simp [body]
theorem Nu (l : List UInt8) (h : (A5 l).2.2 = true) : 2 ≤ (A5 l).2.1 ∧ (A5 l).2.1 ≤ l.length ∧ unq ((l.drop 1).take ((A5 l).2.1 - 2)) = (A5 l).1 := by
 unfold A5 at *
 split at h
 ·rename_i hq
  obtain ⟨h1, h2, h3⟩ := a12 _ l.tail (Nat.le_refl _) h
  rw [if_pos hq]
  simp only [List.length_tail] at h2
  refine ⟨by simp; omega, by simp; omega, ?_⟩
  rw [← h3, List.drop_one]
  simp only
  congr 2
  omega
 ·simp at h
end
end Go.Proofs.YtoaplbljflhheaaGreat
namespace Go.Proofs.YtoaplbljflhheaaGreat
section
open Go.RowKit
def byo (c : UInt8) : UInt8 × Bool := match bk c with | some b => (b, true) | none => (0, false)
def dgo (c : UInt8) : UInt8 × Bool := match dg c with | some x => (UInt8.ofNat x, true) | none => (0, false)
def wth (c : UInt8) : Bool := decide (32 ≤ c.toNat ∧ c.toNat ≤ 126)
theorem Hq (c : UInt8) (w : World) : Calls Tryz.prog 202 #[byt c] w fun e w' => e = .returned (.bool (wth c)) ∧ w = w' := by
 have hc : (c.toNat : Int) < 256 := by have := c.toNat_lt; omega
 by_cases h1 : (32 : Int) ≤ c.toNat
 ·by_cases h2 : (c.toNat : Int) ≤ 126
  ·have H := zz (show wth c = true by simp [wth]; omega)
   go_enter Tryz.func202, Tryz.ntmps202
   go_wp2
   go_ret
   rw [H.out]
   exact ⟨rfl, rfl⟩
  ·have H := zz (show wth c = false by simp [wth]; omega)
   go_enter Tryz.func202, Tryz.ntmps202
   go_wp2
   go_ret
   rw [H.out]
   exact ⟨rfl, rfl⟩
 ·have H := zz (show wth c = false by simp [wth]; omega)
  go_enter Tryz.func202, Tryz.ntmps202
  go_wp2
  go_ret
  rw [H.out]
  exact ⟨rfl, rfl⟩
theorem T4 (c : UInt8) (w : World) : Calls Tryz.prog 204 #[byt c] w fun e w' => e = .returned (.tuple #[byt (byo c).1, .bool (byo c).2]) ∧ w = w' := by
 by_cases h1 : c = 34
 ·subst h1
  go_enter Tryz.func204, Tryz.ntmps204
  go_wp2
  go_ret2
  exact ⟨rfl, rfl⟩
 by_cases h2 : c = 92
 ·subst h2
  go_enter Tryz.func204, Tryz.ntmps204
  go_wp2
  go_ret2
  exact ⟨rfl, rfl⟩
 by_cases h3 : c = 110
 ·subst h3
  go_enter Tryz.func204, Tryz.ntmps204
  go_wp2
  go_ret2
  exact ⟨rfl, rfl⟩
 by_cases h4 : c = 116
 ·subst h4
  go_enter Tryz.func204, Tryz.ntmps204
  go_wp2
  go_ret2
  exact ⟨rfl, rfl⟩
 have H := zz (show byo c = (0, false) by simp [byo, bk, h1, h2, h3, h4])
 have e1 := Ac (n := 34) (by decide) h1
 have e2 := Ac (n := 92) (by decide) h2
 have e3 := Ac (n := 110) (by decide) h3
 have e4 := Ac (n := 116) (by decide) h4
 clear h1 h2 h3 h4
 go_enter Tryz.func204, Tryz.ntmps204
 go_wp2
 go_ret2
 rw [H.out]
 exact ⟨rfl, rfl⟩
theorem Wa {c : UInt8} {x : Nat} (h : dg c = some x) : x < 16 := by
 unfold dg at h
 split at h
 ·simp at h; omega
 ·split at h
  ·simp at h; omega
  ·split at h
   ·simp at h; omega
   ·simp at h
theorem a41 (c : UInt8) : (48 ≤ c.toNat ∧ c.toNat ≤ 57 ∧ dg c = some (c.toNat - 48)) ∨ (97 ≤ c.toNat ∧ c.toNat ≤ 102 ∧ dg c = some (c.toNat - 87)) ∨
  (65 ≤ c.toNat ∧ c.toNat ≤ 70 ∧ dg c = some (c.toNat - 55)) ∨ (¬ (48 ≤ c.toNat ∧ c.toNat ≤ 57) ∧ ¬ (97 ≤ c.toNat ∧ c.toNat ≤ 102) ∧ ¬ (65 ≤ c.toNat ∧ c.toNat ≤ 70) ∧ dg c = none) := by
 unfold dg
 by_cases h1 : 48 ≤ c.toNat ∧ c.toNat ≤ 57
 ·exact .inl ⟨h1.1, h1.2, if_pos h1⟩
 by_cases h2 : 97 ≤ c.toNat ∧ c.toNat ≤ 102
 ·exact .inr (.inl ⟨h2.1, h2.2, by rw [if_neg h1, if_pos h2]⟩)
 by_cases h3 : 65 ≤ c.toNat ∧ c.toNat ≤ 70
 ·exact .inr (.inr (.inl ⟨h3.1, h3.2, by rw [if_neg h1, if_neg h2, if_pos h3]⟩))
 exact .inr (.inr (.inr ⟨h1, h2, h3, by rw [if_neg h1, if_neg h2, if_neg h3]⟩))
theorem S3 {a : Int} {c : UInt8 × Bool} {b : UInt8} {t : Bool} (h : c = (b, t)) (h2 : a = (b.toNat : Nat)) : Ending.returned (.tuple #[.int .u8 a, .bool t]) = .returned (.tuple #[byt c.1, .bool c.2]) := by rw [h, h2]
theorem Px {x : Nat} (h : x < 256) : (UInt8.ofNat x).toNat = x := UInt8.toNat_ofNat_of_lt' (by simpa using h)
theorem Yk {a b : Int} {t : Bool} (h : a = b) : Ending.returned (.tuple #[.int .u8 a, .bool t]) = .returned (.tuple #[.int .u8 b, .bool t]) := by rw [h]
theorem b6w (n : Nat) (w : World) (k1 : (48 : Int) ≤ n) (k2 : (n : Int) ≤ 57) : Calls Tryz.prog 212 #[.int .u8 n] w fun e w' => e = .returned (.tuple #[.int .u8 ((n : Int) - 48), .bool true]) ∧ w = w' := by
 go_enter Tryz.func212, Tryz.ntmps212
 go_wp2
 go_ret2
 exact ⟨Yk (by omega), rfl⟩
theorem b6v (n : Nat) (w : World) (k1 : (97 : Int) ≤ n) (k2 : (n : Int) ≤ 102) : Calls Tryz.prog 212 #[.int .u8 n] w fun e w' => e = .returned (.tuple #[.int .u8 ((n : Int) - 87), .bool true]) ∧ w = w' := by
 go_enter Tryz.func212, Tryz.ntmps212
 go_wp2
 go_ret2
 exact ⟨Yk (by omega), rfl⟩
theorem b6u (n : Nat) (w : World) (k1 : (65 : Int) ≤ n) (k2 : (n : Int) ≤ 70) : Calls Tryz.prog 212 #[.int .u8 n] w fun e w' => e = .returned (.tuple #[.int .u8 ((n : Int) - 55), .bool true]) ∧ w = w' := by
 go_enter Tryz.func212, Tryz.ntmps212
 go_wp2
 go_ret2
 exact ⟨Yk (by omega), rfl⟩
theorem b6t (n : Nat) (w : World) (hn : (n : Int) < 256) (h1 : ¬ (48 ≤ n ∧ n ≤ 57)) (h2 : ¬ (97 ≤ n ∧ n ≤ 102)) (h3 : ¬ (65 ≤ n ∧ n ≤ 70)) :
  Calls Tryz.prog 212 #[.int .u8 n] w fun e w' => e = .returned (.tuple #[.int .u8 0, .bool false]) ∧ w = w' := by
 rcases (show (n : Int) < 48 ∨ ((57 : Int) < n ∧ (n : Int) < 65) ∨ ((70 : Int) < n ∧ (n : Int) < 97) ∨ (102 : Int) < n by omega) with h | ⟨h, h'⟩ | ⟨h, h'⟩ | h <;> clear h1 h2 h3 hn <;>
 ·go_enter Tryz.func212, Tryz.ntmps212
  go_wp2
  go_ret2
  exact ⟨rfl, rfl⟩
theorem Ql (c : UInt8) (w : World) : Calls Tryz.prog 212 #[byt c] w fun e w' => e = .returned (.tuple #[byt (dgo c).1, .bool (dgo c).2]) ∧ w = w' := by
 have hc : (c.toNat : Int) < 256 := by have := c.toNat_lt; omega
 rcases a41 c with ⟨h1, h2, h⟩ | ⟨h1, h2, h⟩ | ⟨h1, h2, h⟩ | ⟨h1, h2, h3, h⟩
 ·refine (b6w _ w (by omega) (by omega)).mono fun e w' he => ⟨he.1.trans (S3 (show dgo c = _ by rw [dgo, h]) ?_), he.2⟩
  rw [Px (by omega)]; omega
 ·refine (b6v _ w (by omega) (by omega)).mono fun e w' he => ⟨he.1.trans (S3 (show dgo c = _ by rw [dgo, h]) ?_), he.2⟩
  rw [Px (by omega)]; omega
 ·refine (b6u _ w (by omega) (by omega)).mono fun e w' he => ⟨he.1.trans (S3 (show dgo c = _ by rw [dgo, h]) ?_), he.2⟩
  rw [Px (by omega)]; omega
 ·exact (b6t _ w hc h1 h2 h3).mono fun e w' he => ⟨he.1.trans (S3 (show dgo c = _ by rw [dgo, h]) rfl), he.2⟩
end
end Go.Proofs.YtoaplbljflhheaaGreat
namespace Go.Proofs.YtoaplbljflhheaaGreat
section
open Go.RowKit
theorem A3 (s : ByteArray) (k : Nat) (h : k < s.size) : s.data.toList.drop k = s[k] :: s.data.toList.drop (k + 1) := by
 rw [List.drop_eq_getElem_cons (by rw [Af]; exact h)]; rfl
theorem Dr (s : ByteArray) (k : Nat) (h : s.size ≤ k) : s.data.toList.drop k = [] := List.drop_of_length_le (by rw [Af]; exact h)
abbrev tri (r : Rb) : Value := .tuple #[byt r.1, .int .i64 (r.2.1 : Nat), .bool r.2.2]
theorem Fe {a b : Int} {t : Bool} {r : Rb} {x : UInt8} {k : Nat} (h : r = (x, k, t)) (h1 : a = (x.toNat : Nat)) (h2 : b = (k : Nat)) : Ending.returned (.tuple #[.int .u8 a, .int .i64 b, .bool t]) = .returned (tri r) := by
 rw [h, h1, h2]
theorem Tu {c : UInt8} {x : Nat} (h : dg c = some x) (w : World) : Calls Tryz.prog 212 #[byt c] w fun e w' => e = .returned (.tuple #[.int .u8 x, .bool true]) ∧ w = w' := by
 have := Ql c w
 rw [dgo, h] at this
 simp only [byt, Px (show x < 256 from Nat.lt_trans (Wa h) (by decide))] at this
 exact this
theorem Tv {c : UInt8} (h : dg c = none) (w : World) : Calls Tryz.prog 212 #[byt c] w fun e w' => e = .returned (.tuple #[.int .u8 0, .bool false]) ∧ w = w' := by
 have := Ql c w
 rw [dgo, h] at this
 exact this
theorem or4 : ∀ x y : Fin 16, bits BinOp.or IntKind.u8 ((x.val : Int) * 16) (y.val : Int) = ((16 * x.val + y.val : Nat) : Int) := by decide +kernel
theorem V9 (s : ByteArray) (w : World) (h2 : 2 ≤ s.size) (hs : s.size ≤ 1000000) : Calls Tryz.prog 203 #[.string s] w fun e w' => e = .returned (tri (rd (s.data.toList.drop 2))) ∧ w = w' := by
 obtain ⟨r, hr⟩ : ∃ r, rd (s.data.toList.drop 2) = r := ⟨_, rfl⟩
 rw [hr]
 replace hr := zz hr
 go_enter Tryz.func203, Tryz.ntmps203
 go_wp2
 go_loop [5, 6] (fun b i => (b = .int .u8 0 ∧ i = .int .i64 2) ∨ (∃ (h : 2 < s.size) (x : Nat), dg s[2] = some x ∧ b = .int .u8 x ∧ i = .int .i64 3) ∨
  (∃ (h : 3 < s.size) (x y : Nat), dg s[2] = some x ∧ dg s[3] = some y ∧ b = .int .u8 (16 * x + y : Nat) ∧ i = .int .i64 4)) (fun _ i => 4 - (intOf i).toNat)
 case atStart => exact .inl ⟨rfl, rfl⟩
 case round =>
  rcases hrel with ⟨rfl, rfl⟩ | ⟨h, x, hx, rfl, rfl⟩ | ⟨h, x, y, hx, hy, rfl, rfl⟩
  ·by_cases hlt : 2 < s.size
   ·have hne : ((2 : Int) == (s.size : Int)) = false := by rw [beq_eq_false_iff_ne]; omega
    cases hd : dg s[2] with
    | none =>
     have HD := zz (Tv hd)
     have HR := zz (show r = (0, 2, false) by rw [← hr.out, A3 s 2 hlt, Ys _ _ hd])
     clear hd
     go_wp2_with fail
     refine (HD.out _).mono ?_
     rintro e w1 ⟨rfl, rfl⟩
     go_wp2
     go_ret3
     exact ⟨Fe HR.out rfl rfl, rfl⟩
    | some x =>
     have HD := zz (Tu hd)
     have hx16 := Wa hd
     have hor : bits BinOp.or IntKind.u8 0 (x : Int) = x := by simpa using or4 0 ⟨x, hx16⟩
     replace hd := zz hd
     go_wp2_with fail
     refine (HD.out _).mono ?_
     rintro e w1 ⟨rfl, rfl⟩
     go_wp2
     go_round
     case rel => exact .inr (.inl ⟨hlt, x, hd.out, rfl, by go_num⟩)
     case measure => simp [intOf]
   ·have hsz : s.size = 2 := by omega
    have HR := zz (show r = (0, 2, false) by rw [← hr.out, Dr s 2 (by omega), Yr])
    have he : ((2 : Int) == (s.size : Int)) = true := by rw [beq_iff_eq]; omega
    clear hsz hlt
    go_wp2
    go_ret3
    exact ⟨Fe HR.out rfl rfl, rfl⟩
  ·by_cases hlt : 3 < s.size
   ·have hne : ((3 : Int) == (s.size : Int)) = false := by rw [beq_eq_false_iff_ne]; omega
    cases hd : dg s[3] with
    | none =>
     have HD := zz (Tv hd)
     have HR := zz (show r = (0, 3, false) by rw [← hr.out, A3 s 2 h, A3 s 3 hlt, Rk _ _ _ _ hx hd])
     clear hd
     go_wp2_with fail
     refine (HD.out _).mono ?_
     rintro e w1 ⟨rfl, rfl⟩
     go_wp2
     go_ret3
     exact ⟨Fe HR.out rfl rfl, rfl⟩
    | some y =>
     have HD := zz (Tu hd)
     have hx16 := Wa hx
     have hy16 := Wa hd
     have hor := or4 ⟨x, hx16⟩ ⟨y, hy16⟩
     simp only at hor
     replace hd := zz hd
     replace hx := zz hx
     go_wp2_with fail
     refine (HD.out _).mono ?_
     rintro e w1 ⟨rfl, rfl⟩
     go_wp2
     go_round
     case rel => exact .inr (.inr ⟨hlt, x, y, hx.out, hd.out, rfl, by go_num⟩)
     case measure => simp [intOf]
   ·have hsz : s.size = 3 := by omega
    have HR := zz (show r = (0, 3, false) by rw [← hr.out, A3 s 2 h, Dr s 3 (by omega), Yq _ _ hx])
    have he : ((3 : Int) == (s.size : Int)) = true := by rw [beq_iff_eq]; omega
    clear hsz hlt
    go_wp2
    go_ret3
    exact ⟨Fe HR.out rfl rfl, rfl⟩
  ·have HR := zz (show r = (UInt8.ofNat (16 * x + y), 4, true) by rw [← hr.out, A3 s 2 (by omega), A3 s 3 h, Yp _ _ _ _ _ hx hy])
   have hx16 := Wa hx
   have hy16 := Wa hy
   clear hx hy
   go_wp2
   go_ret3
   exact ⟨Fe HR.out (by rw [Px (by omega)]; omega) rfl, rfl⟩
theorem a1w {c : UInt8} (h : wth c = true) : ¬ (c.toNat < 32 ∨ 126 < c.toNat) := by simp [wth] at h; omega
theorem Wo {c : UInt8} (h : wth c = false) : c.toNat < 32 ∨ 126 < c.toNat := by simp [wth] at h; omega
theorem a45 {c b : UInt8} (h : bk c = some b) (w : World) : Calls Tryz.prog 204 #[byt c] w fun e w' => e = .returned (.tuple #[byt b, .bool true]) ∧ w = w' := by
 have := T4 c w
 rw [byo, h] at this
 exact this
theorem a48 {c : UInt8} (h : bk c = none) (w : World) : Calls Tryz.prog 204 #[byt c] w fun e w' => e = .returned (.tuple #[byt 0, .bool false]) ∧ w = w' := by
 have := T4 c w
 rw [byo, h] at this
 exact this
theorem rb0 (w : World) : Calls Tryz.prog 192 #[.string { data := #[] }] w fun e w' => e = .returned (tri (0, 0, false)) ∧ w = w' := by
 go_enter Tryz.func192, Tryz.ntmps192
 go_wp2
 go_ret3
 exact ⟨rfl, rfl⟩
theorem b44 (l : List UInt8) : (rb l).2.1 ≤ 4 := by
 match l with
 | [] => simp [a57]
 | c :: t =>
  by_cases h1 : c.toNat < 32 ∨ 126 < c.toNat
  ·simp [Yt c t h1]
  ·by_cases h2 : c = 92
   ·subst h2
    match t with
    | [] => simp [Yu]
    | d :: u =>
     by_cases h3 : d = 120
     ·subst h3
      rw [b4o]
      match u with
      | [] => simp [Yr]
      | e :: v =>
       cases he : dg e with
       | none => simp [Ys e v he]
       | some x =>
        match v with
        | [] => simp [Yq e x he]
        | f :: v =>
         cases hf : dg f with
         | none => simp [Rk e f v x he hf]
         | some y => simp [Yp e f v x y he hf]
     ·cases hb : bk d with
      | none => simp [a8i d u h3 hb]
      | some b => simp [a8j d u h3 b hb]
   ·simp [N6 c t h1 h2]
theorem Ff (s : ByteArray) (h : 0 < s.size) : (s.toList == []) = false := by
 rw [beq_eq_false_iff_ne, ByteArray.toList_eq]
 intro e
 have := congrArg List.length e
 rw [Af, List.length_nil] at this
 omega
theorem Kc (s : ByteArray) (w : World) (hs : s.size ≤ 1000000) : Calls Tryz.prog 192 #[.string s] w fun e w' => e = .returned (tri (rb s.data.toList)) ∧ w = w' := by
 by_cases h0 : 0 < s.size
 case neg =>
  rw [Jh s h0]
  exact rb0 w
 obtain ⟨r, hr⟩ : ∃ r, rb s.data.toList = r := ⟨_, rfl⟩
 rw [hr]
 have e0 := A3 s 0 h0
 rw [List.drop_zero] at e0
 rw [e0] at hr
 replace hr := zz hr
 clear e0
 have HW := zz (fun w => Hq s[0] w)
 have hne := Ff s h0
 cases hw : wth s[0] with
 | false =>
  have HR := zz (show r = (0, 0, false) by rw [← hr.out, Yt _ _ (Wo hw)])
  rw [hw] at HW
  clear hw
  go_enter Tryz.func192, Tryz.ntmps192
  go_wp2_with fail
  refine (HW.out _).mono ?_
  rintro e w1 ⟨rfl, rfl⟩
  go_wp2
  go_ret3
  exact ⟨Fe HR.out rfl rfl, rfl⟩
 | true =>
  rw [hw] at HW
  by_cases h92 : s[0] = 92
  case neg =>
   have HR := zz (show r = (s[0], 1, true) by rw [← hr.out, N6 _ _ (a1w hw) h92])
   have e1 := b5m (n := 92) (by decide) h92
   clear hw h92
   go_enter Tryz.func192, Tryz.ntmps192
   go_wp2_with fail
   refine (HW.out _).mono ?_
   rintro e w1 ⟨rfl, rfl⟩
   go_wp2
   go_ret3
   exact ⟨Fe HR.out rfl rfl, rfl⟩
  have e1 : ((s[0].toNat : Int) != 92) = false := by rw [h92]; rfl
  clear hw
  by_cases h1 : 1 < s.size
  case neg =>
   have HR := zz (show r = (0, 1, false) by rw [← hr.out, Dr s _ (by omega), h92, Yu])
   have e2 : ((s.size : Int) == 1) = true := by rw [beq_iff_eq]; omega
   clear h92 h1
   go_enter Tryz.func192, Tryz.ntmps192
   go_wp2_with fail
   refine (HW.out _).mono ?_
   rintro e w1 ⟨rfl, rfl⟩
   go_wp2
   go_ret3
   exact ⟨Fe HR.out rfl rfl, rfl⟩
  have e2 : ((s.size : Int) == 1) = false := by rw [beq_eq_false_iff_ne]; omega
  by_cases h120 : s[1] = 120
  case pos =>
   have HR := zz (show rd (s.data.toList.drop 2) = r by rw [← hr.out, A3 s 1 h1, h92, h120, b4o])
   have e3 : ((s[1].toNat : Int) == 120) = true := by rw [h120]; rfl
   have HD := zz (fun w => V9 s w h1 hs)
   rw [HR.out] at HD
   clear h92 h120
   go_enter Tryz.func192, Tryz.ntmps192
   go_wp2_with fail
   refine (HW.out _).mono ?_
   rintro e w1 ⟨rfl, rfl⟩
   go_wp2_with fail
   refine (HD.out _).mono ?_
   rintro e w1 ⟨rfl, rfl⟩
   go_wp2
   go_ret3
   exact ⟨rfl, rfl⟩
  have e3 := Ac (n := 120) (by decide) h120
  cases hb : bk s[1] with
  | none =>
   have HR := zz (show r = (0, 1, false) by rw [← hr.out, A3 s 1 h1, h92, a8i _ _ h120 hb])
   have HD := zz (fun w => a48 hb w)
   clear h92 h120 hb
   go_enter Tryz.func192, Tryz.ntmps192
   go_wp2_with fail
   refine (HW.out _).mono ?_
   rintro e w1 ⟨rfl, rfl⟩
   go_wp2_with fail
   refine (HD.out _).mono ?_
   rintro e w1 ⟨rfl, rfl⟩
   go_wp2
   go_ret3
   exact ⟨Fe HR.out rfl rfl, rfl⟩
  | some b =>
   have HR := zz (show r = (b, 2, true) by rw [← hr.out, A3 s 1 h1, h92, a8j _ _ h120 _ hb])
   have HD := zz (fun w => a45 hb w)
   clear h92 h120 hb
   go_enter Tryz.func192, Tryz.ntmps192
   go_wp2_with fail
   refine (HW.out _).mono ?_
   rintro e w1 ⟨rfl, rfl⟩
   go_wp2_with fail
   refine (HD.out _).mono ?_
   rintro e w1 ⟨rfl, rfl⟩
   go_wp2
   go_ret3
   exact ⟨Fe HR.out rfl rfl, rfl⟩
end
end Go.Proofs.YtoaplbljflhheaaGreat
namespace Go.Proofs.YtoaplbljflhheaaGreat
section
open Go.RowKit
theorem Fi (s : ByteArray) (k : Nat) : (s.extract k s.size).data.toList = s.data.toList.drop k := by
 rw [Hz, List.take_of_length_le]
 rw [List.length_drop, Af]; exact Nat.le_refl _
theorem a4p (s : ByteArray) (k : Nat) (h : s.size ≤ 1000000) : (s.extract k s.size).size ≤ 1000000 := by
 rw [← Af, Fi, List.length_drop, Af]; omega
theorem S4 (s : ByteArray) (k : Nat) (h : s.size ≤ 1000000) (r : Rb) (hr : rb (s.data.toList.drop k) = r) (w : World) : Calls Tryz.prog 192 #[.string (s.extract k s.size)] w fun e w' => e = .returned (tri r) ∧ w = w' := by
 have := Kc (s.extract k s.size) w (a4p s k h)
 rwa [Fi, hr] at this
theorem Yj {a : Int} {t : Bool} {R : Nat × Bool} {k : Nat} (h : (k, t) = R) (h1 : a = (k : Nat)) : Ending.returned (.tuple #[.int .i64 a, .bool t]) = .returned (.tuple #[.int .i64 (R.1 : Nat), .bool R.2]) := by
 rw [← h, h1]
theorem F7 (s : ByteArray) (k : Nat) (h : k < s.size) : (s.data.toList.drop k).head? = some s[k] := by rw [A3 s k h]; rfl
def b7b (s : ByteArray) (w : World) (R : Nat × Bool) (a' : Act) (w' : World) : Prop :=
 ∃ k : Nat, (w' = w ∧ 1 ≤ k ∧ k ≤ s.size ∧ (k + (C8 (s.data.toList.drop k)).2.1, (C8 (s.data.toList.drop k)).2.2) = R) ∧ ∃ u5 u6 u7 u8 u9 u10 u11 u12 u13 u14 u15 u16 u17 u18 u19 u20 u21 u22 u23 u24 u25 u26 u27 u28 u29 u30 u31 u32 u33 u34 u35 u36 u37 u38 u39 : Value, a' = { tmps := #[.string s, undef, .int .i64 0, .bool false, .int .i64 k, u5, u6, u7, u8, u9, u10, u11, u12, u13, u14, u15, u16, u17, u18, u19, u20, u21, u22, u23, u24, u25, u26, u27, u28, u29, u30, u31, u32, u33, u34, u35, u36, u37, u38, u39], defers := [] }
theorem a4w (s : ByteArray) (w : World) (hs : s.size ≤ 1000000) (h0 : 0 < s.size) (h34 : s[0] = 34) (R : Nat × Bool) (hR : Hid ((1 + (C8 (s.data.toList.drop 1)).2.1, (C8 (s.data.toList.drop 1)).2.2) = R)) :
  Calls Tryz.prog 171 #[.string s] w fun e w' => e = .returned (.tuple #[.int .i64 (R.1 : Nat), .bool R.2]) ∧ w = w' := by
 have hne := Ff s h0
 have e0 : ((s[0].toNat : Int) != 34) = false := by rw [h34]; rfl
 clear h34
 go_enter Tryz.func171, Tryz.ntmps171
 go_wp2
 refine Dg 0 (b7b s w R) (fun a' _ => s.size - (intOf (a'.tmps.getD 4 undef)).toNat) rfl ?_ ?_
 ·rintro a' w' ⟨k, ⟨rfl, hk1, hk, hR⟩, u5, u6, u7, u8, u9, u10, u11, u12, u13, u14, u15, u16, u17, u18, u19, u20, u21, u22, u23, u24, u25, u26, u27, u28, u29, u30, u31, u32, u33, u34, u35, u36, u37, u38, u39, rfl⟩
  by_cases hlt : k < s.size
  ·by_cases hq : s[k] = 34
   ·have HR := zz (show (k + 1, true) = R by rw [← hR, Eh _ (by rw [F7 s k hlt, hq])])
    have e1 : ((s[k].toNat : Int) == 34) = true := by rw [hq]; rfl
    clear hq hR
    go_wp2
    simp only [Exit.jump]
    go_ret2
    exact ⟨Yj HR.out (by omega), rfl⟩
   ·have hq' : ¬ (s.data.toList.drop k).head? = some 34 := by rw [F7 s k hlt]; simpa using hq
    have e1 := Ac (n := 34) (by decide) hq
    obtain ⟨r, hr⟩ : ∃ r, rb (s.data.toList.drop k) = r := ⟨_, rfl⟩
    have HRB := zz (fun w => S4 s k hs r hr w)
    cases hok : r.2.2 with
    | true =>
     have hz := Ik (s.data.toList.drop k) (by rw [hr]; exact hok)
     have hst := Ft (s.data.toList.drop k) hq' (by rw [hr]; exact hok)
     rw [hr] at hz hst
     rw [List.drop_drop] at hst
     rw [List.length_drop, Af] at hz
     have HR := zz (show (k + r.2.1 + (C8 (s.data.toList.drop (k + r.2.1))).2.1, (C8 (s.data.toList.drop (k + r.2.1))).2.2) = R by rw [← hR, hst]; simp only [Nat.add_assoc])
     obtain ⟨b, m, t⟩ := r
     simp only at hok hz HR
     subst hok
     clear hq hq' hR hst hr
     go_wp2_with fail
     refine (HRB.out _).mono ?_
     rintro e w1 ⟨rfl, rfl⟩
     go_wp2
     go_step3
     refine ⟨rfl, ⟨k + m, ⟨rfl, by omega, by omega, HR.out⟩, ?_⟩, ?_⟩
     ·exact ⟨_, _, _, _, _, _, _, _, _, _, _, _, _, _, _, _, _, _, _, _, _, _, _, _, _, _, _, _, _, _, _, _, _, _, _, rfl⟩
     ·simp [intOf]
      omega
    | false =>
     have hst := Hs (s.data.toList.drop k) hq' (by rw [hr]; exact hok)
     rw [hr] at hst
     have HR := zz (show (k + r.2.1, false) = R by rw [← hR, hst])
     have hb : r.2.1 ≤ 4 := by rw [← hr]; exact b44 _
     obtain ⟨b, m, t⟩ := r
     simp only at hok HR hb
     subst hok
     clear hq hq' hR hst hr
     go_wp2_with fail
     refine (HRB.out _).mono ?_
     rintro e w1 ⟨rfl, rfl⟩
     go_wp2
     simp only [Exit.jump]
     go_ret2
     exact ⟨Yj HR.out (by omega), rfl⟩
  ·have hke := zz (show k = s.size by omega)
   have hki : ¬ (k : Int) < s.size := by omega
   have HRB := zz (fun w => S4 s k hs (0, 0, false) (by rw [Dr s _ (by omega)]; rfl) w)
   have HR := zz (show (k, false) = R by rw [← hR, Dr s _ (by omega), Hs [] (by simp) rfl]; rfl)
   clear hR
   go_wp2_with fail
   refine (HRB.out _).mono ?_
   rintro e w1 ⟨rfl, rfl⟩
   go_wp2
   simp only [Exit.jump]
   go_ret2
   exact ⟨Yj HR.out (by omega), rfl⟩
 ·intro F
  go_wp2
  go_step3
  rename_i hK
  apply hK
  exact F _ _ ⟨1, ⟨rfl, Nat.le_refl _, h0, hR.out⟩, _, _, _, _, _, _, _, _, _, _, _, _, _, _, _, _, _, _, _, _, _, _, _, _, _, _, _, _, _, _, _, _, _, _, _, rfl⟩
theorem a4x (s : ByteArray) (w : World) (h0 : 0 < s.size) (h34 : s[0] ≠ 34) : Calls Tryz.prog 171 #[.string s] w fun e w' => e = .returned (.tuple #[.int .i64 0, .bool false]) ∧ w = w' := by
 have hne := Ff s h0
 have e0 := b5m (n := 34) (by decide) h34
 clear h34
 go_enter Tryz.func171, Tryz.ntmps171
 go_wp2
 go_step3
 go_wp2
 rw [Exit.noGoto_ret]
 go_ret2
 exact ⟨rfl, rfl⟩
theorem a0t (w : World) : Calls Tryz.prog 171 #[.string { data := #[] }] w fun e w' => e = .returned (.tuple #[.int .i64 0, .bool false]) ∧ w = w' := by
 go_enter Tryz.func171, Tryz.ntmps171
 go_wp2
 go_step3
 go_wp2
 rw [Exit.noGoto_ret]
 go_ret2
 exact ⟨rfl, rfl⟩
theorem Ym (s : ByteArray) (h0 : 0 < s.size) (h34 : s[0] = 34) : A5 s.data.toList = ((C8 (s.data.toList.drop 1)).1, 1 + (C8 (s.data.toList.drop 1)).2.1, (C8 (s.data.toList.drop 1)).2.2) := by
 have e := F7 s 0 h0
 rw [List.drop_zero, h34] at e
 rw [A5, if_pos e, List.drop_one]
theorem Yn (s : ByteArray) (h0 : 0 < s.size) (h34 : s[0] ≠ 34) : A5 s.data.toList = ([], 0, false) := by
 have e := F7 s 0 h0
 rw [List.drop_zero] at e
 rw [A5, if_neg]
 rw [e]; simpa using h34
theorem a0u (s : ByteArray) (w : World) (hs : s.size ≤ 1000000) (R : List UInt8 × Nat × Bool) (hR : A5 s.data.toList = R) : Calls Tryz.prog 171 #[.string s] w fun e w' => e = .returned (.tuple #[.int .i64 (R.2.1 : Nat), .bool R.2.2]) ∧ w = w' := by
 subst hR
 by_cases h0 : 0 < s.size
 ·by_cases h34 : s[0] = 34
  ·have := a4w s w hs h0 h34 _ (zz rfl)
   rw [Ym s h0 h34]
   exact this
  ·rw [Yn s h0 h34]
   exact a4x s w h0 h34
 ·rw [Jh s h0]
  exact a0t w
end
end Go.Proofs.YtoaplbljflhheaaGreat
namespace Go.Proofs.YtoaplbljflhheaaGreat
section
open Go.RowKit
def W0 (l : List UInt8) : List UInt8 × Int := if (A5 l).2.2 = true ∧ (A5 l).2.1 = l.length then ((A5 l).1, 0) else ([], 2)
def b4m : Value → Nat | .string t => t.size | _ => 0
theorem a11 (l : List UInt8) (h : (rb l).2.2 = true) : unq l = (rb l).1 :: unq (l.drop (rb l).2.1) := by rw [unq, dif_pos h]
theorem a10 (l : List UInt8) (h : (rb l).2.2 = false) : unq l = [] := by rw [unq, dif_neg (by simp [h])]
theorem Uf (s : ByteArray) (w : World) (N : Nat) (HE : Hid (∀ w, Calls Tryz.prog 171 #[.string s] w fun e w' => e = .returned (.tuple #[.int .i64 (N : Nat), .bool false]) ∧ w = w')) :
  Calls Tryz.prog 172 #[.string s] w fun e w' => e = .returned (.tuple #[.string { data := #[] }, .int .i64 2]) ∧ w = w' := by
 go_enter Tryz.func172, Tryz.ntmps172
 go_wp2
 go_step3
 go_wp2_with fail
 refine (HE.out _).mono ?_
 rintro e w1 ⟨rfl, rfl⟩
 go_wp2
 rw [Exit.noGoto_ret]
 go_ret2
 exact ⟨rfl, rfl⟩
theorem Pa (s : ByteArray) (w : World) (N : Nat) (hN : N < s.size) (HE : Hid (∀ w, Calls Tryz.prog 171 #[.string s] w fun e w' => e = .returned (.tuple #[.int .i64 (N : Nat), .bool true]) ∧ w = w')) :
  Calls Tryz.prog 172 #[.string s] w fun e w' => e = .returned (.tuple #[.string { data := #[] }, .int .i64 2]) ∧ w = w' := by
 go_enter Tryz.func172, Tryz.ntmps172
 go_wp2
 go_step3
 go_wp2_with fail
 refine (HE.out _).mono ?_
 rintro e w1 ⟨rfl, rfl⟩
 go_wp2
 rw [Exit.noGoto_ret]
 go_ret2
 exact ⟨rfl, rfl⟩
def b69 (s : ByteArray) (N : Nat) (w : World) (X : List UInt8) (a' : Act) (w' : World) : Prop :=
 ∃ (t : ByteArray) (v : Value) (l : List UInt8), (l.length + t.size ≤ 1000000 ∧ l ++ unq t.data.toList = X ∧ Own w' w.heap.size v l ∧ Below w.heap.size w w') ∧ ∃ u5 u8 u9 u10 u11 u12 u13 u14 u15 u16 u17 u18 u19 u20 u21 u22 u23 u24 u25 u26 u27 u28 u29 u30 u31 u32 u33 u34 u35 u36 u37 u38 u39 u40 u41 u42 u43 u44 u45 : Value, a' = { tmps := #[.string s, undef, .string { data := #[] }, .int .i64 0, .int .i64 N, u5, .string t, v, u8, u9, u10, u11, u12, u13, u14, u15, u16, u17, u18, u19, u20, u21, u22, u23, u24, u25, u26, u27, u28, u29, u30, u31, u32, u33, u34, u35, u36, u37, u38, u39, u40, u41, u42, u43, u44, u45], defers := [] }
theorem Qz (s : ByteArray) (w : World) (N : Nat) (hs : s.size ≤ 1000000) (hN : N = s.size) (hN2 : 2 ≤ N) (X : List UInt8) (hX : Hid (unq (s.extract 1 (N - 1)).data.toList = X))
  (HE : Hid (∀ w, Calls Tryz.prog 171 #[.string s] w fun e w' => e = .returned (.tuple #[.int .i64 (N : Nat), .bool true]) ∧ w = w')) :
  Calls Tryz.prog 172 #[.string s] w fun e w' => e = .returned (.tuple #[.string (bs X), .int .i64 0]) ∧ Below w.heap.size w w' := by
 obtain ⟨M, hM⟩ : ∃ M, N - 1 = M := ⟨_, rfl⟩
 rw [hM] at hX
 have hM' : (N : Int) - 1 = M := by omega
 have hM1 : 1 ≤ M := by omega
 have hM2 : M ≤ s.size := by omega
 have hlt : ¬ (N : Int) < s.size := by omega
 have hlt2 : ¬ N < s.size := by omega
 have hts : (s.extract 1 M).size ≤ 1000000 := by
  rw [← Af, Hz, List.length_take, List.length_drop, Af]; omega
 have hM3 : M ≤ 1000000 := by omega
 have hNe := zz hN
 clear hM hN hs
 go_enter Tryz.func172, Tryz.ntmps172
 go_wp2
 refine Dg 0 (b69 s N w X) (fun a' _ => b4m (a'.tmps.getD 6 undef)) rfl ?_ ?_
 ·rintro a' w' ⟨t, v, l, ⟨hsz, hX, ho, hb⟩, u5, u8, u9, u10, u11, u12, u13, u14, u15, u16, u17, u18, u19, u20, u21, u22, u23, u24, u25, u26, u27, u28, u29, u30, u31, u32, u33, u34, u35, u36, u37, u38, u39, u40, u41, u42, u43, u44, u45, rfl⟩
  obtain ⟨r, hr⟩ : ∃ r, rb t.data.toList = r := ⟨_, rfl⟩
  have HRB := zz (fun w => Kc t w (by omega))
  rw [hr] at HRB
  have hbs := hb.size
  cases hok : r.2.2 with
  | true =>
   have hz := Ik t.data.toList (by rw [hr]; exact hok)
   have hst := a11 t.data.toList (by rw [hr]; exact hok)
   rw [hr] at hz hst
   rw [Af] at hz
   rw [← Fi] at hst
   obtain ⟨b, m, tt⟩ := r
   simp only at hok hz hst
   subst hok
   have HX := zz (show l ++ [b] ++ unq (t.extract m t.size).data.toList = X by rw [← hX, hst]; simp)
   have hm1 : m ≤ t.size := hz.2
   have hm2 : (m : Int) ≤ t.size := by omega
   have hez : (t.extract m t.size).size = t.size - m := by rw [← Af, Fi, List.length_drop, Af]
   replace hez := zz hez
   replace ho := zz ho
   replace hb := zz hb
   clear hX hst hr
   go_wp2_with fail
   refine (HRB.out _).mono ?_
   rintro e w1 ⟨rfl, rfl⟩
   go_wp2_with (at_builtin; refine Fl rfl _ _ rfl w.heap.size v l [b] 1 rfl rfl rfl rfl ho.out hbs (by omega) ?_; intro v2 w2 ho2 hb2; replace ho2 := zz ho2; replace hb2 := zz hb2)
   go_step3
   refine ⟨rfl, ⟨t.extract m t.size, v2, l ++ [b], ⟨by rw [hez.out]; simp; omega, HX.out, ho2.out, hb.out.trans hb2.out⟩, ?_⟩, ?_⟩
   ·exact ⟨_, _, _, _, _, _, _, _, _, _, _, _, _, _, _, _, _, _, _, _, _, _, _, _, _, _, _, _, _, _, _, _, _, _, _, _, _, _, _, rfl⟩
   ·show b4m (.string (t.extract m t.size)) < b4m (.string t)
    simp only [b4m, hez.out]
    omega
  | false =>
   have hst := a10 t.data.toList (by rw [hr]; exact hok)
   have HX := zz (show l = X by rw [← hX, hst]; simp)
   obtain ⟨b, m, tt⟩ := r
   simp only at hok
   subst hok
   have hcv := S7 ho
   replace hb := zz hb
   clear hX hst hr ho
   go_wp2_with fail
   refine (HRB.out _).mono ?_
   rintro e w1 ⟨rfl, rfl⟩
   go_wp2
   simp only [Exit.jump]
   go_ret2
   rw [← HX.out]
   exact ⟨rfl, hb.out⟩
 ·intro F
  go_wp2_with fail
  refine (HE.out _).mono ?_
  rintro e w1 ⟨rfl, rfl⟩
  go_wp2_with (first
   | (at_make; refine J8 rfl _ _ rfl w.heap.size (M - 1) _ rfl rfl (by first | rfl | omega) (by omega) (Nat.le_refl _) ?_; intro v1 w1 ho1 hb1; replace ho1 := zz ho1; replace hb1 := zz hb1))
  go_step3
  rename_i hK
  apply hK
  exact F _ _ ⟨s.extract 1 M, v1, [], ⟨by simpa using hts, hX.out, ho1.out, hb1.out⟩, _, _, _, _, _, _, _, _, _, _, _, _, _, _, _, _, _, _, _, _, _, _, _, _, _, _, _, _, _, _, _, _, _, _, _, _, _, _, _, rfl⟩
theorem Q3 (s : ByteArray) (w : World) (hs : s.size ≤ 1000000) : Calls Tryz.prog 172 #[.string s] w fun e w' => e = .returned (.tuple #[.string (bs (W0 s.data.toList).1), .int .i64 (W0 s.data.toList).2]) ∧ Below w.heap.size w w' := by
 have HE := zz (fun w => a0u s w hs _ rfl)
 unfold W0
 rw [Af]
 cases hok : (A5 s.data.toList).2.2 with
 | false =>
  rw [hok] at HE
  rw [if_neg (by simp)]
  exact Fu (Uf s w _ HE)
 | true =>
  rw [hok] at HE
  obtain ⟨h1, h2, h3⟩ := Nu s.data.toList hok
  rw [Af] at h2
  by_cases hN : (A5 s.data.toList).2.1 = s.size
  ·rw [if_pos ⟨rfl, hN⟩]
   refine Qz s w _ hs hN h1 _ (zz ?_) HE
   rw [Hz]
   exact h3
  ·rw [if_neg (by simp [hN])]
   exact Fu (Pa s w _ (by omega) HE)
end
end Go.Proofs.YtoaplbljflhheaaGreat
