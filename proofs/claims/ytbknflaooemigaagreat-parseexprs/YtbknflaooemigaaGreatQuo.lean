/-
 Literals of bytes as lists: what is written, what is read. No program is spoken of. Conditions: as said. Contracts of the small functions on one byte: quote.isWithin, byteOf, digitOf; the document's value. Conditions: none. Contracts of quote.readDigits and quote.readByte. Conditions: texts of at most 1000000 bytes. Contract of quote.End. Conditions: texts of at most 1000000 bytes. Contract of quote.Unquote. Conditions: texts of at most 1000000 bytes.
-/
import Derived.Test.YtbknflaooemigaaGreatBas
namespace Go.Proofs.YtbknflaooemigaaGreat
section
set_option linter.unusedVariables false

/-- A digit to the base 16, as it is written. -/
def hx (n : Nat) : UInt8 := if n < 10 then UInt8.ofNat (48 + n) else UInt8.ofNat (87 + n)
/-- What stands for a byte within a literal. -/
def esc (c : UInt8) : List UInt8 :=
 if c = 34 ∨ c = 92 then [92, c] else if c = 10 then [92, 110] else if c = 9 then [92, 116]
 else if c.toNat < 32 ∨ 126 < c.toNat then [92, 120, hx (c.toNat / 16), hx (c.toNat % 16)] else [c]
def body (l : List UInt8) : List UInt8 := l.flatMap esc
/-- A digit's worth. -/
def dg (c : UInt8) : Option Nat :=
 if 48 ≤ c.toNat ∧ c.toNat ≤ 57 then some (c.toNat - 48) else if 97 ≤ c.toNat ∧ c.toNat ≤ 102 then some (c.toNat - 87)
 else if 65 ≤ c.toNat ∧ c.toNat ≤ 70 then some (c.toNat - 55) else none
/-- The letter behind a backslash. -/
def bk (c : UInt8) : Option UInt8 := if c = 34 ∨ c = 92 then some c else if c = 110 then some 10 else if c = 116 then some 9 else none
abbrev Rb := UInt8 × Nat × Bool
/-- Two digits (behind a backslash and x). -/
def rd : List UInt8 → Rb
 | [] => (0, 2, false)
 | e :: v => match dg e with
  | none => (0, 2, false)
  | some x => match v with
   | [] => (0, 3, false)
   | f :: _ => match dg f with
    | none => (0, 3, false)
    | some y => (UInt8.ofNat (16 * x + y), 4, true)
/-- The first byte of what is left: the byte, how many bytes, whether it is whole. -/
def rb : List UInt8 → Rb
 | [] => (0, 0, false)
 | c :: t => if c.toNat < 32 ∨ 126 < c.toNat then (0, 0, false) else if c = 92 then (match t with
   | [] => (0, 1, false)
   | d :: u => if d = 120 then rd u else match bk d with
    | none => (0, 1, false)
    | some b => (b, 2, true)) else (c, 1, true)

theorem rd_nil : rd [] = (0, 2, false) := rfl
theorem rd_bad (e : UInt8) (v : List UInt8) (h : dg e = none) : rd (e :: v) = (0, 2, false) := by simp [rd, h]
theorem rd_one (e : UInt8) (x : Nat) (h : dg e = some x) : rd [e] = (0, 3, false) := by simp [rd, h]
theorem rd_bad2 (e f : UInt8) (v : List UInt8) (x : Nat) (h : dg e = some x) (h2 : dg f = none) : rd (e :: f :: v) = (0, 3, false) := by simp [rd, h, h2]
theorem rd_two (e f : UInt8) (v : List UInt8) (x y : Nat) (h : dg e = some x) (h2 : dg f = some y) : rd (e :: f :: v) = (UInt8.ofNat (16 * x + y), 4, true) := by simp [rd, h, h2]
theorem rb_nil : rb [] = (0, 0, false) := rfl
theorem rb_out (c : UInt8) (t : List UInt8) (h : c.toNat < 32 ∨ 126 < c.toNat) : rb (c :: t) = (0, 0, false) := by
 rw [rb.eq_def]; exact if_pos h
theorem rb_plain (c : UInt8) (t : List UInt8) (h : ¬ (c.toNat < 32 ∨ 126 < c.toNat)) (h2 : c ≠ 92) : rb (c :: t) = (c, 1, true) := by
 rw [rb.eq_def]; exact (if_neg h).trans (if_neg h2)
theorem rb_end : rb [92] = (0, 1, false) := by decide
theorem rb_x (u : List UInt8) : rb (92 :: 120 :: u) = rd u := by rw [rb, if_neg (by decide), if_pos rfl]; rfl
theorem rb_bk (d : UInt8) (u : List UInt8) (h : d ≠ 120) (b : UInt8) (hb : bk d = some b) : rb (92 :: d :: u) = (b, 2, true) := by
 rw [rb, if_neg (by decide), if_pos rfl]; simp [h, hb]
theorem rb_no (d : UInt8) (u : List UInt8) (h : d ≠ 120) (hb : bk d = none) : rb (92 :: d :: u) = (0, 1, false) := by
 rw [rb, if_neg (by decide), if_pos rfl]; simp [h, hb]

/-- Every way on which a byte is read, or isn't. -/
theorem rb_ok (l : List UInt8) (h : (rb l).2.2 = true) : ∃ p u b, l = p ++ u ∧ 1 ≤ p.length ∧ ∀ m, rb (p ++ m) = (b, p.length, true) := by
 match l with
 | [] => simp [rb_nil] at h
 | c :: t =>
  by_cases h1 : c.toNat < 32 ∨ 126 < c.toNat
  ·simp [rb_out c t h1] at h
  ·by_cases h2 : c = 92
   ·subst h2
    match t with
    | [] => simp [rb_end] at h
    | d :: u =>
     by_cases h3 : d = 120
     ·subst h3
      rw [rb_x] at h
      match u with
      | [] => simp [rd_nil] at h
      | e :: v =>
       cases he : dg e with
       | none => simp [rd_bad e v he] at h
       | some x =>
        match v with
        | [] => simp [rd_one e x he] at h
        | f :: v =>
         cases hf : dg f with
         | none => simp [rd_bad2 e f v x he hf] at h
         | some y => exact ⟨[92, 120, e, f], v, _, rfl, by simp, fun m => by
           show rb (92 :: 120 :: e :: f :: m) = _
           rw [rb_x, rd_two e f m x y he hf]; rfl⟩
     ·cases hb : bk d with
      | none => simp [rb_no d u h3 hb] at h
      | some b => exact ⟨[92, d], u, b, rfl, by simp, fun m => rb_bk d m h3 b hb⟩
   ·exact ⟨[c], t, c, rfl, by simp, fun m => rb_plain c m h1 h2⟩

theorem rb_size (l : List UInt8) (h : (rb l).2.2 = true) : 1 ≤ (rb l).2.1 ∧ (rb l).2.1 ≤ l.length := by
 obtain ⟨p, u, b, rfl, h1, h2⟩ := rb_ok l h
 rw [h2]; simp; omega

/-- What a text is read as from its first byte on (behind the first quote): the bytes, how many bytes, whether it is whole. -/
def scan (l : List UInt8) : List UInt8 × Nat × Bool :=
 if l.head? = some 34 then ([], 1, true)
 else if h : (rb l).2.2 = true then
  ((rb l).1 :: (scan (l.drop (rb l).2.1)).1, (rb l).2.1 + (scan (l.drop (rb l).2.1)).2.1, (scan (l.drop (rb l).2.1)).2.2)
 else ([], (rb l).2.1, false)
termination_by l.length
decreasing_by all_goals (have := rb_size l h; simp; omega)

/-- The bytes of what stands between the quotes. -/
def unq (l : List UInt8) : List UInt8 :=
 if h : (rb l).2.2 = true then (rb l).1 :: unq (l.drop (rb l).2.1) else []
termination_by l.length
decreasing_by (have := rb_size l h; simp; omega)

def readOf (l : List UInt8) : List UInt8 × Nat × Bool :=
 if l.head? = some 34 then ((scan l.tail).1, 1 + (scan l.tail).2.1, (scan l.tail).2.2) else ([], 0, false)

theorem scan_quote (l : List UInt8) (h : l.head? = some 34) : scan l = ([], 1, true) := by rw [scan, if_pos h]
theorem scan_bad (l : List UInt8) (h : ¬ l.head? = some 34) (h2 : (rb l).2.2 = false) : scan l = ([], (rb l).2.1, false) := by
 rw [scan, if_neg h, dif_neg (by simp [h2])]
theorem scan_step (l : List UInt8) (h : ¬ l.head? = some 34) (h2 : (rb l).2.2 = true) : scan l =
  ((rb l).1 :: (scan (l.drop (rb l).2.1)).1, (rb l).2.1 + (scan (l.drop (rb l).2.1)).2.1, (scan (l.drop (rb l).2.1)).2.2) := by
 rw [scan, if_neg h, dif_pos h2]

theorem rb_app (l m : List UInt8) (h : (rb l).2.2 = true) : rb (l ++ m) = rb l := by
 obtain ⟨p, u, b, rfl, h1, h2⟩ := rb_ok l h
 rw [List.append_assoc, h2, h2]

theorem rb_takeN (l : List UInt8) (h : (rb l).2.2 = true) (n : Nat) (hn : (rb l).2.1 ≤ n) : rb (l.take n) = rb l := by
 obtain ⟨p, u, b, rfl, h1, h2⟩ := rb_ok l h
 rw [h2] at hn ⊢
 simp only at hn
 rw [List.take_append, List.take_of_length_le hn, h2]

/-- Between the quotes stands what the scan reads. -/
theorem unq_scan (n : Nat) : ∀ l : List UInt8, l.length ≤ n → (scan l).2.2 = true → 1 ≤ (scan l).2.1 ∧ (scan l).2.1 ≤ l.length ∧ unq (l.take ((scan l).2.1 - 1)) = (scan l).1 := by
 induction n with
 | zero =>
  intro l hl h
  obtain rfl : l = [] := List.eq_nil_of_length_eq_zero (by omega)
  simp [scan, rb] at h
 | succ n ih =>
  intro l hl h
  by_cases hq : l.head? = some 34
  ·rw [scan_quote l hq]
   refine ⟨Nat.le_refl _, ?_, ?_⟩
   ·cases l with
    | nil => simp at hq
    | cons => simp
   ·rw [unq]; simp [rb]
  ·by_cases hb : (rb l).2.2 = true
   ·have hs := scan_step l hq hb
    have hz := rb_size l hb
    obtain ⟨h1, h2, h3⟩ := ih (l.drop (rb l).2.1) (by simp; omega) (by rw [hs] at h; exact h)
    rw [hs]
    simp only [List.length_drop] at h2
    refine ⟨by simp; omega, by simp; omega, ?_⟩
    have ht := rb_takeN l hb ((rb l).2.1 + (scan (l.drop (rb l).2.1)).2.1 - 1) (by omega)
    rw [unq]
    simp only [ht, hb, dif_pos]
    rw [← h3, List.drop_take]
    simp only [List.cons.injEq, true_and]
    congr 2
    omega
   ·rw [scan_bad l hq (by simpa using hb)] at h
    simp at h

/-- What a whole literal that is nothing else is read as. -/
theorem unq_read (l : List UInt8) (h : (readOf l).2.2 = true) : 2 ≤ (readOf l).2.1 ∧ (readOf l).2.1 ≤ l.length ∧ unq ((l.drop 1).take ((readOf l).2.1 - 2)) = (readOf l).1 := by
 unfold readOf at *
 split at h
 ·rename_i hq
  obtain ⟨h1, h2, h3⟩ := unq_scan _ l.tail (Nat.le_refl _) h
  rw [if_pos hq]
  simp only [List.length_tail] at h2
  refine ⟨by simp; omega, by simp; omega, ?_⟩
  rw [← h3, List.drop_one]
  simp only
  congr 2
  omega
 ·simp at h
end
end Go.Proofs.YtbknflaooemigaaGreat

namespace Go.Proofs.YtbknflaooemigaaGreat
section
open Go.RowKit
set_option linter.unusedVariables false

def byo (c : UInt8) : UInt8 × Bool := match bk c with | some b => (b, true) | none => (0, false)
def dgo (c : UInt8) : UInt8 × Bool := match dg c with | some x => (UInt8.ofNat x, true) | none => (0, false)
def vlo (c : UInt8) : Int := match dg c with | some x => x | none => -1
def wth (c : UInt8) : Bool := decide (32 ≤ c.toNat ∧ c.toNat ≤ 126)

theorem within_any (c : UInt8) (w : World) : Calls Tryz.prog 114 #[byt c] w fun e w' => e = .returned (.bool (wth c)) ∧ w = w' := by
 have hc : (c.toNat : Int) < 256 := by have := c.toNat_lt; omega
 by_cases h1 : (32 : Int) ≤ c.toNat
 ·by_cases h2 : (c.toNat : Int) ≤ 126
  ·have H := Lib.hid (show wth c = true by simp [wth]; omega)
   go_enter Tryz.func114, Tryz.ntmps114
   go_wp2
   go_ret
   rw [H.out]
   exact ⟨rfl, rfl⟩
  ·have H := Lib.hid (show wth c = false by simp [wth]; omega)
   go_enter Tryz.func114, Tryz.ntmps114
   go_wp2
   go_ret
   rw [H.out]
   exact ⟨rfl, rfl⟩
 ·have H := Lib.hid (show wth c = false by simp [wth]; omega)
  go_enter Tryz.func114, Tryz.ntmps114
  go_wp2
  go_ret
  rw [H.out]
  exact ⟨rfl, rfl⟩

theorem byte_any (c : UInt8) (w : World) : Calls Tryz.prog 116 #[byt c] w fun e w' => e = .returned (.tuple #[byt (byo c).1, .bool (byo c).2]) ∧ w = w' := by
 by_cases h1 : c = 34
 ·subst h1
  go_enter Tryz.func116, Tryz.ntmps116
  go_wp2
  go_ret2
  exact ⟨rfl, rfl⟩
 by_cases h2 : c = 92
 ·subst h2
  go_enter Tryz.func116, Tryz.ntmps116
  go_wp2
  go_ret2
  exact ⟨rfl, rfl⟩
 by_cases h3 : c = 110
 ·subst h3
  go_enter Tryz.func116, Tryz.ntmps116
  go_wp2
  go_ret2
  exact ⟨rfl, rfl⟩
 by_cases h4 : c = 116
 ·subst h4
  go_enter Tryz.func116, Tryz.ntmps116
  go_wp2
  go_ret2
  exact ⟨rfl, rfl⟩
 have H := Lib.hid (show byo c = (0, false) by simp [byo, bk, h1, h2, h3, h4])
 have e1 := byte_ne (n := 34) (by decide) h1
 have e2 := byte_ne (n := 92) (by decide) h2
 have e3 := byte_ne (n := 110) (by decide) h3
 have e4 := byte_ne (n := 116) (by decide) h4
 clear h1 h2 h3 h4
 go_enter Tryz.func116, Tryz.ntmps116
 go_wp2
 go_ret2
 rw [H.out]
 exact ⟨rfl, rfl⟩

theorem dg_lt {c : UInt8} {x : Nat} (h : dg c = some x) : x < 16 := by
 unfold dg at h
 split at h
 ·simp at h; omega
 ·split at h
  ·simp at h; omega
  ·split at h
   ·simp at h; omega
   ·simp at h

theorem dg_cases (c : UInt8) : (48 ≤ c.toNat ∧ c.toNat ≤ 57 ∧ dg c = some (c.toNat - 48)) ∨ (97 ≤ c.toNat ∧ c.toNat ≤ 102 ∧ dg c = some (c.toNat - 87)) ∨
  (65 ≤ c.toNat ∧ c.toNat ≤ 70 ∧ dg c = some (c.toNat - 55)) ∨ (¬ (48 ≤ c.toNat ∧ c.toNat ≤ 57) ∧ ¬ (97 ≤ c.toNat ∧ c.toNat ≤ 102) ∧ ¬ (65 ≤ c.toNat ∧ c.toNat ≤ 70) ∧ dg c = none) := by
 unfold dg
 by_cases h1 : 48 ≤ c.toNat ∧ c.toNat ≤ 57
 ·exact .inl ⟨h1.1, h1.2, if_pos h1⟩
 by_cases h2 : 97 ≤ c.toNat ∧ c.toNat ≤ 102
 ·exact .inr (.inl ⟨h2.1, h2.2, by rw [if_neg h1, if_pos h2]⟩)
 by_cases h3 : 65 ≤ c.toNat ∧ c.toNat ≤ 70
 ·exact .inr (.inr (.inl ⟨h3.1, h3.2, by rw [if_neg h1, if_neg h2, if_pos h3]⟩))
 exact .inr (.inr (.inr ⟨h1, h2, h3, by rw [if_neg h1, if_neg h2, if_neg h3]⟩))

theorem ret_bb {a : Int} {c : UInt8 × Bool} {b : UInt8} {t : Bool} (h : c = (b, t)) (h2 : a = (b.toNat : Nat)) : Ending.returned (.tuple #[.int .u8 a, .bool t]) = .returned (.tuple #[byt c.1, .bool c.2]) := by rw [h, h2]

theorem of_nat {x : Nat} (h : x < 256) : (UInt8.ofNat x).toNat = x := UInt8.toNat_ofNat_of_lt' (by simpa using h)

theorem ret_ib {a b : Int} {t : Bool} (h : a = b) : Ending.returned (.tuple #[.int .u8 a, .bool t]) = .returned (.tuple #[.int .u8 b, .bool t]) := by rw [h]

theorem dig0 (n : Nat) (w : World) (k1 : (48 : Int) ≤ n) (k2 : (n : Int) ≤ 57) : Calls Tryz.prog 124 #[.int .u8 n] w fun e w' => e = .returned (.tuple #[.int .u8 ((n : Int) - 48), .bool true]) ∧ w = w' := by
 go_enter Tryz.func124, Tryz.ntmps124
 go_wp2
 go_ret2
 exact ⟨ret_ib (by omega), rfl⟩

theorem dig1 (n : Nat) (w : World) (k1 : (97 : Int) ≤ n) (k2 : (n : Int) ≤ 102) : Calls Tryz.prog 124 #[.int .u8 n] w fun e w' => e = .returned (.tuple #[.int .u8 ((n : Int) - 87), .bool true]) ∧ w = w' := by
 go_enter Tryz.func124, Tryz.ntmps124
 go_wp2
 go_ret2
 exact ⟨ret_ib (by omega), rfl⟩

theorem dig2 (n : Nat) (w : World) (k1 : (65 : Int) ≤ n) (k2 : (n : Int) ≤ 70) : Calls Tryz.prog 124 #[.int .u8 n] w fun e w' => e = .returned (.tuple #[.int .u8 ((n : Int) - 55), .bool true]) ∧ w = w' := by
 go_enter Tryz.func124, Tryz.ntmps124
 go_wp2
 go_ret2
 exact ⟨ret_ib (by omega), rfl⟩

set_option maxHeartbeats 400000 in
theorem dig3 (n : Nat) (w : World) (hn : (n : Int) < 256) (h1 : ¬ (48 ≤ n ∧ n ≤ 57)) (h2 : ¬ (97 ≤ n ∧ n ≤ 102)) (h3 : ¬ (65 ≤ n ∧ n ≤ 70)) :
  Calls Tryz.prog 124 #[.int .u8 n] w fun e w' => e = .returned (.tuple #[.int .u8 0, .bool false]) ∧ w = w' := by
 rcases (show (n : Int) < 48 ∨ ((57 : Int) < n ∧ (n : Int) < 65) ∨ ((70 : Int) < n ∧ (n : Int) < 97) ∨ (102 : Int) < n by omega) with h | ⟨h, h'⟩ | ⟨h, h'⟩ | h <;> clear h1 h2 h3 hn <;>
 ·go_enter Tryz.func124, Tryz.ntmps124
  go_wp2
  go_ret2
  exact ⟨rfl, rfl⟩

theorem digit_any (c : UInt8) (w : World) : Calls Tryz.prog 124 #[byt c] w fun e w' => e = .returned (.tuple #[byt (dgo c).1, .bool (dgo c).2]) ∧ w = w' := by
 have hc : (c.toNat : Int) < 256 := by have := c.toNat_lt; omega
 rcases dg_cases c with ⟨h1, h2, h⟩ | ⟨h1, h2, h⟩ | ⟨h1, h2, h⟩ | ⟨h1, h2, h3, h⟩
 ·refine (dig0 _ w (by omega) (by omega)).mono fun e w' he => ⟨he.1.trans (ret_bb (show dgo c = _ by rw [dgo, h]) ?_), he.2⟩
  rw [of_nat (by omega)]; omega
 ·refine (dig1 _ w (by omega) (by omega)).mono fun e w' he => ⟨he.1.trans (ret_bb (show dgo c = _ by rw [dgo, h]) ?_), he.2⟩
  rw [of_nat (by omega)]; omega
 ·refine (dig2 _ w (by omega) (by omega)).mono fun e w' he => ⟨he.1.trans (ret_bb (show dgo c = _ by rw [dgo, h]) ?_), he.2⟩
  rw [of_nat (by omega)]; omega
 ·exact (dig3 _ w hc h1 h2 h3).mono fun e w' he => ⟨he.1.trans (ret_bb (show dgo c = _ by rw [dgo, h]) rfl), he.2⟩
end
end Go.Proofs.YtbknflaooemigaaGreat

namespace Go.Proofs.YtbknflaooemigaaGreat
section
open Go.RowKit
set_option linter.unusedVariables false

theorem drop_cons (s : ByteArray) (k : Nat) (h : k < s.size) : s.data.toList.drop k = s[k] :: s.data.toList.drop (k + 1) := by
 rw [List.drop_eq_getElem_cons (by rw [size_list]; exact h)]; rfl

theorem drop_end (s : ByteArray) (k : Nat) (h : s.size ≤ k) : s.data.toList.drop k = [] := List.drop_of_length_le (by rw [size_list]; exact h)

abbrev tri (r : Rb) : Value := .tuple #[byt r.1, .int .i64 (r.2.1 : Nat), .bool r.2.2]

theorem ret_tri {a b : Int} {t : Bool} {r : Rb} {x : UInt8} {k : Nat} (h : r = (x, k, t)) (h1 : a = (x.toNat : Nat)) (h2 : b = (k : Nat)) : Ending.returned (.tuple #[.int .u8 a, .int .i64 b, .bool t]) = .returned (tri r) := by
 rw [h, h1, h2]

theorem dgo_some {c : UInt8} {x : Nat} (h : dg c = some x) (w : World) : Calls Tryz.prog 124 #[byt c] w fun e w' => e = .returned (.tuple #[.int .u8 x, .bool true]) ∧ w = w' := by
 have := digit_any c w
 rw [dgo, h] at this
 simp only [byt, of_nat (show x < 256 from Nat.lt_trans (dg_lt h) (by decide))] at this
 exact this

theorem dgo_none {c : UInt8} (h : dg c = none) (w : World) : Calls Tryz.prog 124 #[byt c] w fun e w' => e = .returned (.tuple #[.int .u8 0, .bool false]) ∧ w = w' := by
 have := digit_any c w
 rw [dgo, h] at this
 exact this

theorem or4 : ∀ x y : Fin 16, bits BinOp.or IntKind.u8 ((x.val : Int) * 16) (y.val : Int) = ((16 * x.val + y.val : Nat) : Int) := by decide +kernel

set_option maxHeartbeats 1000000 in
theorem digits_any (s : ByteArray) (w : World) (h2 : 2 ≤ s.size) (hs : s.size ≤ 1000000) : Calls Tryz.prog 115 #[.string s] w fun e w' => e = .returned (tri (rd (s.data.toList.drop 2))) ∧ w = w' := by
 obtain ⟨r, hr⟩ : ∃ r, rd (s.data.toList.drop 2) = r := ⟨_, rfl⟩
 rw [hr]
 replace hr := Lib.hid hr
 go_enter Tryz.func115, Tryz.ntmps115
 go_wp2
 go_loop [5, 6] (fun b i => (b = .int .u8 0 ∧ i = .int .i64 2) ∨ (∃ (h : 2 < s.size) (x : Nat), dg s[2] = some x ∧ b = .int .u8 x ∧ i = .int .i64 3) ∨
  (∃ (h : 3 < s.size) (x y : Nat), dg s[2] = some x ∧ dg s[3] = some y ∧ b = .int .u8 (16 * x + y : Nat) ∧ i = .int .i64 4)) (fun _ i => 4 - (intOf i).toNat)
 case atStart => exact .inl ⟨rfl, rfl⟩
 case round =>
  rcases hrel with ⟨rfl, rfl⟩ | ⟨h, x, hx, rfl, rfl⟩ | ⟨h, x, y, hx, hy, rfl, rfl⟩
  ·by_cases hlt : 2 < s.size
   ·have hne : ((2 : Int) == (s.size : Int)) = false := by rw [beq_eq_false_iff_ne]; omega
    cases hd : dg s[2] with
    | none =>
     have HD := Lib.hid (dgo_none hd)
     have HR := Lib.hid (show r = (0, 2, false) by rw [← hr.out, drop_cons s 2 hlt, rd_bad _ _ hd])
     clear hd
     go_wp2_with fail
     refine (HD.out _).mono ?_
     rintro e w1 ⟨rfl, rfl⟩
     go_wp2
     go_ret3
     exact ⟨ret_tri HR.out rfl rfl, rfl⟩
    | some x =>
     have HD := Lib.hid (dgo_some hd)
     have hx16 := dg_lt hd
     have hor : bits BinOp.or IntKind.u8 0 (x : Int) = x := by simpa using or4 0 ⟨x, hx16⟩
     replace hd := Lib.hid hd
     go_wp2_with fail
     refine (HD.out _).mono ?_
     rintro e w1 ⟨rfl, rfl⟩
     go_wp2
     go_round
     case rel => exact .inr (.inl ⟨hlt, x, hd.out, rfl, by go_num⟩)
     case measure => simp [intOf]
   ·have hsz : s.size = 2 := by omega
    have HR := Lib.hid (show r = (0, 2, false) by rw [← hr.out, drop_end s 2 (by omega), rd_nil])
    have he : ((2 : Int) == (s.size : Int)) = true := by rw [beq_iff_eq]; omega
    clear hsz hlt
    go_wp2
    go_ret3
    exact ⟨ret_tri HR.out rfl rfl, rfl⟩
  ·by_cases hlt : 3 < s.size
   ·have hne : ((3 : Int) == (s.size : Int)) = false := by rw [beq_eq_false_iff_ne]; omega
    cases hd : dg s[3] with
    | none =>
     have HD := Lib.hid (dgo_none hd)
     have HR := Lib.hid (show r = (0, 3, false) by rw [← hr.out, drop_cons s 2 h, drop_cons s 3 hlt, rd_bad2 _ _ _ _ hx hd])
     clear hd
     go_wp2_with fail
     refine (HD.out _).mono ?_
     rintro e w1 ⟨rfl, rfl⟩
     go_wp2
     go_ret3
     exact ⟨ret_tri HR.out rfl rfl, rfl⟩
    | some y =>
     have HD := Lib.hid (dgo_some hd)
     have hx16 := dg_lt hx
     have hy16 := dg_lt hd
     have hor := or4 ⟨x, hx16⟩ ⟨y, hy16⟩
     simp only at hor
     replace hd := Lib.hid hd
     replace hx := Lib.hid hx
     go_wp2_with fail
     refine (HD.out _).mono ?_
     rintro e w1 ⟨rfl, rfl⟩
     go_wp2
     go_round
     case rel => exact .inr (.inr ⟨hlt, x, y, hx.out, hd.out, rfl, by go_num⟩)
     case measure => simp [intOf]
   ·have hsz : s.size = 3 := by omega
    have HR := Lib.hid (show r = (0, 3, false) by rw [← hr.out, drop_cons s 2 h, drop_end s 3 (by omega), rd_one _ _ hx])
    have he : ((3 : Int) == (s.size : Int)) = true := by rw [beq_iff_eq]; omega
    clear hsz hlt
    go_wp2
    go_ret3
    exact ⟨ret_tri HR.out rfl rfl, rfl⟩
  ·have HR := Lib.hid (show r = (UInt8.ofNat (16 * x + y), 4, true) by rw [← hr.out, drop_cons s 2 (by omega), drop_cons s 3 h, rd_two _ _ _ _ _ hx hy])
   have hx16 := dg_lt hx
   have hy16 := dg_lt hy
   clear hx hy
   go_wp2
   go_ret3
   exact ⟨ret_tri HR.out (by rw [of_nat (by omega)]; omega) rfl, rfl⟩

theorem wth_true {c : UInt8} (h : wth c = true) : ¬ (c.toNat < 32 ∨ 126 < c.toNat) := by simp [wth] at h; omega
theorem wth_false {c : UInt8} (h : wth c = false) : c.toNat < 32 ∨ 126 < c.toNat := by simp [wth] at h; omega

theorem byo_some {c b : UInt8} (h : bk c = some b) (w : World) : Calls Tryz.prog 116 #[byt c] w fun e w' => e = .returned (.tuple #[byt b, .bool true]) ∧ w = w' := by
 have := byte_any c w
 rw [byo, h] at this
 exact this

theorem byo_none {c : UInt8} (h : bk c = none) (w : World) : Calls Tryz.prog 116 #[byt c] w fun e w' => e = .returned (.tuple #[byt 0, .bool false]) ∧ w = w' := by
 have := byte_any c w
 rw [byo, h] at this
 exact this

theorem rb0 (w : World) : Calls Tryz.prog 107 #[.string { data := #[] }] w fun e w' => e = .returned (tri (0, 0, false)) ∧ w = w' := by
 go_enter Tryz.func107, Tryz.ntmps107
 go_wp2
 go_ret3
 exact ⟨rfl, rfl⟩

theorem rb_le (l : List UInt8) : (rb l).2.1 ≤ 4 := by
 match l with
 | [] => simp [rb_nil]
 | c :: t =>
  by_cases h1 : c.toNat < 32 ∨ 126 < c.toNat
  ·simp [rb_out c t h1]
  ·by_cases h2 : c = 92
   ·subst h2
    match t with
    | [] => simp [rb_end]
    | d :: u =>
     by_cases h3 : d = 120
     ·subst h3
      rw [rb_x]
      match u with
      | [] => simp [rd_nil]
      | e :: v =>
       cases he : dg e with
       | none => simp [rd_bad e v he]
       | some x =>
        match v with
        | [] => simp [rd_one e x he]
        | f :: v =>
         cases hf : dg f with
         | none => simp [rd_bad2 e f v x he hf]
         | some y => simp [rd_two e f v x y he hf]
     ·cases hb : bk d with
      | none => simp [rb_no d u h3 hb]
      | some b => simp [rb_bk d u h3 b hb]
   ·simp [rb_plain c t h1 h2]

theorem not_nil (s : ByteArray) (h : 0 < s.size) : (s.toList == []) = false := by
 rw [beq_eq_false_iff_ne, ByteArray.toList_eq]
 intro e
 have := congrArg List.length e
 rw [size_list, List.length_nil] at this
 omega

set_option maxHeartbeats 1000000 in
theorem readByte_any (s : ByteArray) (w : World) (hs : s.size ≤ 1000000) : Calls Tryz.prog 107 #[.string s] w fun e w' => e = .returned (tri (rb s.data.toList)) ∧ w = w' := by
 by_cases h0 : 0 < s.size
 case neg =>
  rw [empty_of s h0]
  exact rb0 w
 obtain ⟨r, hr⟩ : ∃ r, rb s.data.toList = r := ⟨_, rfl⟩
 rw [hr]
 have e0 := drop_cons s 0 h0
 rw [List.drop_zero] at e0
 rw [e0] at hr
 replace hr := Lib.hid hr
 clear e0
 have HW := Lib.hid (fun w => within_any s[0] w)
 have hne := not_nil s h0
 cases hw : wth s[0] with
 | false =>
  have HR := Lib.hid (show r = (0, 0, false) by rw [← hr.out, rb_out _ _ (wth_false hw)])
  rw [hw] at HW
  clear hw
  go_enter Tryz.func107, Tryz.ntmps107
  go_wp2_with fail
  refine (HW.out _).mono ?_
  rintro e w1 ⟨rfl, rfl⟩
  go_wp2
  go_ret3
  exact ⟨ret_tri HR.out rfl rfl, rfl⟩
 | true =>
  rw [hw] at HW
  by_cases h92 : s[0] = 92
  case neg =>
   have HR := Lib.hid (show r = (s[0], 1, true) by rw [← hr.out, rb_plain _ _ (wth_true hw) h92])
   have e1 := b_ne (n := 92) (by decide) h92
   clear hw h92
   go_enter Tryz.func107, Tryz.ntmps107
   go_wp2_with fail
   refine (HW.out _).mono ?_
   rintro e w1 ⟨rfl, rfl⟩
   go_wp2
   go_ret3
   exact ⟨ret_tri HR.out rfl rfl, rfl⟩
  have e1 : ((s[0].toNat : Int) != 92) = false := by rw [h92]; rfl
  clear hw
  by_cases h1 : 1 < s.size
  case neg =>
   have HR := Lib.hid (show r = (0, 1, false) by rw [← hr.out, drop_end s _ (by omega), h92, rb_end])
   have e2 : ((s.size : Int) == 1) = true := by rw [beq_iff_eq]; omega
   clear h92 h1
   go_enter Tryz.func107, Tryz.ntmps107
   go_wp2_with fail
   refine (HW.out _).mono ?_
   rintro e w1 ⟨rfl, rfl⟩
   go_wp2
   go_ret3
   exact ⟨ret_tri HR.out rfl rfl, rfl⟩
  have e2 : ((s.size : Int) == 1) = false := by rw [beq_eq_false_iff_ne]; omega
  by_cases h120 : s[1] = 120
  case pos =>
   have HR := Lib.hid (show rd (s.data.toList.drop 2) = r by rw [← hr.out, drop_cons s 1 h1, h92, h120, rb_x])
   have e3 : ((s[1].toNat : Int) == 120) = true := by rw [h120]; rfl
   have HD := Lib.hid (fun w => digits_any s w h1 hs)
   rw [HR.out] at HD
   clear h92 h120
   go_enter Tryz.func107, Tryz.ntmps107
   go_wp2_with fail
   refine (HW.out _).mono ?_
   rintro e w1 ⟨rfl, rfl⟩
   go_wp2_with fail
   refine (HD.out _).mono ?_
   rintro e w1 ⟨rfl, rfl⟩
   go_wp2
   go_ret3
   exact ⟨rfl, rfl⟩
  have e3 := byte_ne (n := 120) (by decide) h120
  cases hb : bk s[1] with
  | none =>
   have HR := Lib.hid (show r = (0, 1, false) by rw [← hr.out, drop_cons s 1 h1, h92, rb_no _ _ h120 hb])
   have HD := Lib.hid (fun w => byo_none hb w)
   clear h92 h120 hb
   go_enter Tryz.func107, Tryz.ntmps107
   go_wp2_with fail
   refine (HW.out _).mono ?_
   rintro e w1 ⟨rfl, rfl⟩
   go_wp2_with fail
   refine (HD.out _).mono ?_
   rintro e w1 ⟨rfl, rfl⟩
   go_wp2
   go_ret3
   exact ⟨ret_tri HR.out rfl rfl, rfl⟩
  | some b =>
   have HR := Lib.hid (show r = (b, 2, true) by rw [← hr.out, drop_cons s 1 h1, h92, rb_bk _ _ h120 _ hb])
   have HD := Lib.hid (fun w => byo_some hb w)
   clear h92 h120 hb
   go_enter Tryz.func107, Tryz.ntmps107
   go_wp2_with fail
   refine (HW.out _).mono ?_
   rintro e w1 ⟨rfl, rfl⟩
   go_wp2_with fail
   refine (HD.out _).mono ?_
   rintro e w1 ⟨rfl, rfl⟩
   go_wp2
   go_ret3
   exact ⟨ret_tri HR.out rfl rfl, rfl⟩
end
end Go.Proofs.YtbknflaooemigaaGreat

namespace Go.Proofs.YtbknflaooemigaaGreat
section
open Go.RowKit
set_option linter.unusedVariables false

theorem ext_end (s : ByteArray) (k : Nat) : (s.extract k s.size).data.toList = s.data.toList.drop k := by
 rw [ext_list, List.take_of_length_le]
 rw [List.length_drop, size_list]; exact Nat.le_refl _

theorem ext_size (s : ByteArray) (k : Nat) (h : s.size ≤ 1000000) : (s.extract k s.size).size ≤ 1000000 := by
 rw [← size_list, ext_end, List.length_drop, size_list]; omega

theorem rest_any (s : ByteArray) (k : Nat) (h : s.size ≤ 1000000) (r : Rb) (hr : rb (s.data.toList.drop k) = r) (w : World) : Calls Tryz.prog 107 #[.string (s.extract k s.size)] w fun e w' => e = .returned (tri r) ∧ w = w' := by
 have := readByte_any (s.extract k s.size) w (ext_size s k h)
 rwa [ext_end, hr] at this

theorem ret_nb {a : Int} {t : Bool} {R : Nat × Bool} {k : Nat} (h : (k, t) = R) (h1 : a = (k : Nat)) : Ending.returned (.tuple #[.int .i64 a, .bool t]) = .returned (.tuple #[.int .i64 (R.1 : Nat), .bool R.2]) := by
 rw [← h, h1]

theorem head_drop (s : ByteArray) (k : Nat) (h : k < s.size) : (s.data.toList.drop k).head? = some s[k] := by rw [drop_cons s k h]; rfl

def JEnd (s : ByteArray) (w : World) (R : Nat × Bool) (a' : Act) (w' : World) : Prop :=
 ∃ k : Nat, (w' = w ∧ 1 ≤ k ∧ k ≤ s.size ∧ (k + (scan (s.data.toList.drop k)).2.1, (scan (s.data.toList.drop k)).2.2) = R) ∧ ∃ u5 u6 u7 u8 u9 u10 u11 u12 u13 u14 u15 u16 u17 u18 u19 u20 u21 u22 u23 u24 u25 u26 u27 u28 u29 u30 u31 u32 u33 u34 u35 u36 u37 u38 u39 : Value, a' = { tmps := #[.string s, undef, .int .i64 0, .bool false, .int .i64 k, u5, u6, u7, u8, u9, u10, u11, u12, u13, u14, u15, u16, u17, u18, u19, u20, u21, u22, u23, u24, u25, u26, u27, u28, u29, u30, u31, u32, u33, u34, u35, u36, u37, u38, u39], defers := [] }

set_option maxHeartbeats 1000000 in
theorem end_some (s : ByteArray) (w : World) (hs : s.size ≤ 1000000) (h0 : 0 < s.size) (h34 : s[0] = 34) (R : Nat × Bool) (hR : Hid ((1 + (scan (s.data.toList.drop 1)).2.1, (scan (s.data.toList.drop 1)).2.2) = R)) :
  Calls Tryz.prog 89 #[.string s] w fun e w' => e = .returned (.tuple #[.int .i64 (R.1 : Nat), .bool R.2]) ∧ w = w' := by
 have hne := not_nil s h0
 have e0 : ((s[0].toNat : Int) != 34) = false := by rw [h34]; rfl
 clear h34
 go_enter Tryz.func89, Tryz.ntmps89
 go_wp2
 refine wp_scope_goto 0 (JEnd s w R) (fun a' _ => s.size - (intOf (a'.tmps.getD 4 undef)).toNat) rfl ?_ ?_
 ·rintro a' w' ⟨k, ⟨rfl, hk1, hk, hR⟩, u5, u6, u7, u8, u9, u10, u11, u12, u13, u14, u15, u16, u17, u18, u19, u20, u21, u22, u23, u24, u25, u26, u27, u28, u29, u30, u31, u32, u33, u34, u35, u36, u37, u38, u39, rfl⟩
  by_cases hlt : k < s.size
  ·by_cases hq : s[k] = 34
   ·have HR := Lib.hid (show (k + 1, true) = R by rw [← hR, scan_quote _ (by rw [head_drop s k hlt, hq])])
    have e1 : ((s[k].toNat : Int) == 34) = true := by rw [hq]; rfl
    clear hq hR
    go_wp2
    simp only [Exit.jump]
    go_ret2
    exact ⟨ret_nb HR.out (by omega), rfl⟩
   ·have hq' : ¬ (s.data.toList.drop k).head? = some 34 := by rw [head_drop s k hlt]; simpa using hq
    have e1 := byte_ne (n := 34) (by decide) hq
    obtain ⟨r, hr⟩ : ∃ r, rb (s.data.toList.drop k) = r := ⟨_, rfl⟩
    have HRB := Lib.hid (fun w => rest_any s k hs r hr w)
    cases hok : r.2.2 with
    | true =>
     have hz := rb_size (s.data.toList.drop k) (by rw [hr]; exact hok)
     have hst := scan_step (s.data.toList.drop k) hq' (by rw [hr]; exact hok)
     rw [hr] at hz hst
     rw [List.drop_drop] at hst
     rw [List.length_drop, size_list] at hz
     have HR := Lib.hid (show (k + r.2.1 + (scan (s.data.toList.drop (k + r.2.1))).2.1, (scan (s.data.toList.drop (k + r.2.1))).2.2) = R by rw [← hR, hst]; simp only [Nat.add_assoc])
     obtain ⟨b, m, t⟩ := r
     simp only at hok hz HR
     subst hok
     clear hq hq' hR hst hr
     go_wp2_with fail
     refine (HRB.out _).mono ?_
     rintro e w1 ⟨rfl, rfl⟩
     go_wp2
     go_step3
     refine ⟨rfl, ⟨k + m, ⟨rfl, by omega, by omega, HR.out⟩, ?_⟩, ?_⟩
     ·exact ⟨_, _, _, _, _, _, _, _, _, _, _, _, _, _, _, _, _, _, _, _, _, _, _, _, _, _, _, _, _, _, _, _, _, _, _, rfl⟩
     ·simp [intOf]
      omega
    | false =>
     have hst := scan_bad (s.data.toList.drop k) hq' (by rw [hr]; exact hok)
     rw [hr] at hst
     have HR := Lib.hid (show (k + r.2.1, false) = R by rw [← hR, hst])
     have hb : r.2.1 ≤ 4 := by rw [← hr]; exact rb_le _
     obtain ⟨b, m, t⟩ := r
     simp only at hok HR hb
     subst hok
     clear hq hq' hR hst hr
     go_wp2_with fail
     refine (HRB.out _).mono ?_
     rintro e w1 ⟨rfl, rfl⟩
     go_wp2
     simp only [Exit.jump]
     go_ret2
     exact ⟨ret_nb HR.out (by omega), rfl⟩
  ·have hke := Lib.hid (show k = s.size by omega)
   have hki : ¬ (k : Int) < s.size := by omega
   have HRB := Lib.hid (fun w => rest_any s k hs (0, 0, false) (by rw [drop_end s _ (by omega)]; rfl) w)
   have HR := Lib.hid (show (k, false) = R by rw [← hR, drop_end s _ (by omega), scan_bad [] (by simp) rfl]; rfl)
   clear hR
   go_wp2_with fail
   refine (HRB.out _).mono ?_
   rintro e w1 ⟨rfl, rfl⟩
   go_wp2
   simp only [Exit.jump]
   go_ret2
   exact ⟨ret_nb HR.out (by omega), rfl⟩
 ·intro F
  go_wp2
  go_step3
  rename_i hK
  apply hK
  exact F _ _ ⟨1, ⟨rfl, Nat.le_refl _, h0, hR.out⟩, _, _, _, _, _, _, _, _, _, _, _, _, _, _, _, _, _, _, _, _, _, _, _, _, _, _, _, _, _, _, _, _, _, _, _, rfl⟩

theorem end_none (s : ByteArray) (w : World) (h0 : 0 < s.size) (h34 : s[0] ≠ 34) : Calls Tryz.prog 89 #[.string s] w fun e w' => e = .returned (.tuple #[.int .i64 0, .bool false]) ∧ w = w' := by
 have hne := not_nil s h0
 have e0 := b_ne (n := 34) (by decide) h34
 clear h34
 go_enter Tryz.func89, Tryz.ntmps89
 go_wp2
 go_step3
 go_wp2
 rw [Exit.noGoto_ret]
 go_ret2
 exact ⟨rfl, rfl⟩

theorem end_empty (w : World) : Calls Tryz.prog 89 #[.string { data := #[] }] w fun e w' => e = .returned (.tuple #[.int .i64 0, .bool false]) ∧ w = w' := by
 go_enter Tryz.func89, Tryz.ntmps89
 go_wp2
 go_step3
 go_wp2
 rw [Exit.noGoto_ret]
 go_ret2
 exact ⟨rfl, rfl⟩

theorem read_some (s : ByteArray) (h0 : 0 < s.size) (h34 : s[0] = 34) : readOf s.data.toList = ((scan (s.data.toList.drop 1)).1, 1 + (scan (s.data.toList.drop 1)).2.1, (scan (s.data.toList.drop 1)).2.2) := by
 have e := head_drop s 0 h0
 rw [List.drop_zero, h34] at e
 rw [readOf, if_pos e, List.drop_one]

theorem read_none (s : ByteArray) (h0 : 0 < s.size) (h34 : s[0] ≠ 34) : readOf s.data.toList = ([], 0, false) := by
 have e := head_drop s 0 h0
 rw [List.drop_zero] at e
 rw [readOf, if_neg]
 rw [e]; simpa using h34

theorem end_any (s : ByteArray) (w : World) (hs : s.size ≤ 1000000) (R : List UInt8 × Nat × Bool) (hR : readOf s.data.toList = R) : Calls Tryz.prog 89 #[.string s] w fun e w' => e = .returned (.tuple #[.int .i64 (R.2.1 : Nat), .bool R.2.2]) ∧ w = w' := by
 subst hR
 by_cases h0 : 0 < s.size
 ·by_cases h34 : s[0] = 34
  ·have := end_some s w hs h0 h34 _ (Lib.hid rfl)
   rw [read_some s h0 h34]
   exact this
  ·rw [read_none s h0 h34]
   exact end_none s w h0 h34
 ·rw [empty_of s h0]
  exact end_empty w
end
end Go.Proofs.YtbknflaooemigaaGreat

namespace Go.Proofs.YtbknflaooemigaaGreat
section
open Go.RowKit
set_option linter.unusedVariables false

/-- What Unquote answers: the bytes, the fault. -/
def unqOf (l : List UInt8) : List UInt8 × Int := if (readOf l).2.2 = true ∧ (readOf l).2.1 = l.length then ((readOf l).1, 0) else ([], 2)

def szOf : Value → Nat | .string t => t.size | _ => 0

theorem unq_step (l : List UInt8) (h : (rb l).2.2 = true) : unq l = (rb l).1 :: unq (l.drop (rb l).2.1) := by rw [unq, dif_pos h]
theorem unq_stop (l : List UInt8) (h : (rb l).2.2 = false) : unq l = [] := by rw [unq, dif_neg (by simp [h])]

set_option maxHeartbeats 400000 in
theorem unquote_no (s : ByteArray) (w : World) (N : Nat) (HE : Hid (∀ w, Calls Tryz.prog 89 #[.string s] w fun e w' => e = .returned (.tuple #[.int .i64 (N : Nat), .bool false]) ∧ w = w')) :
  Calls Tryz.prog 90 #[.string s] w fun e w' => e = .returned (.tuple #[.string { data := #[] }, .int .i64 2]) ∧ w = w' := by
 go_enter Tryz.func90, Tryz.ntmps90
 go_wp2
 go_step3
 go_wp2_with fail
 refine (HE.out _).mono ?_
 rintro e w1 ⟨rfl, rfl⟩
 go_wp2
 rw [Exit.noGoto_ret]
 go_ret2
 exact ⟨rfl, rfl⟩

set_option maxHeartbeats 400000 in
theorem unquote_part (s : ByteArray) (w : World) (N : Nat) (hN : N < s.size) (HE : Hid (∀ w, Calls Tryz.prog 89 #[.string s] w fun e w' => e = .returned (.tuple #[.int .i64 (N : Nat), .bool true]) ∧ w = w')) :
  Calls Tryz.prog 90 #[.string s] w fun e w' => e = .returned (.tuple #[.string { data := #[] }, .int .i64 2]) ∧ w = w' := by
 go_enter Tryz.func90, Tryz.ntmps90
 go_wp2
 go_step3
 go_wp2_with fail
 refine (HE.out _).mono ?_
 rintro e w1 ⟨rfl, rfl⟩
 go_wp2
 rw [Exit.noGoto_ret]
 go_ret2
 exact ⟨rfl, rfl⟩

def JUnq (s : ByteArray) (N : Nat) (w : World) (X : List UInt8) (a' : Act) (w' : World) : Prop :=
 ∃ (t : ByteArray) (v : Value) (l : List UInt8), (l.length + t.size ≤ 1000000 ∧ l ++ unq t.data.toList = X ∧ Own w' w.heap.size v l ∧ Below w.heap.size w w') ∧ ∃ u5 u8 u9 u10 u11 u12 u13 u14 u15 u16 u17 u18 u19 u20 u21 u22 u23 u24 u25 u26 u27 u28 u29 u30 u31 u32 u33 u34 u35 u36 u37 u38 u39 u40 u41 u42 u43 u44 u45 : Value, a' = { tmps := #[.string s, undef, .string { data := #[] }, .int .i64 0, .int .i64 N, u5, .string t, v, u8, u9, u10, u11, u12, u13, u14, u15, u16, u17, u18, u19, u20, u21, u22, u23, u24, u25, u26, u27, u28, u29, u30, u31, u32, u33, u34, u35, u36, u37, u38, u39, u40, u41, u42, u43, u44, u45], defers := [] }

set_option maxHeartbeats 1000000 in
theorem unquote_yes (s : ByteArray) (w : World) (N : Nat) (hs : s.size ≤ 1000000) (hN : N = s.size) (hN2 : 2 ≤ N) (X : List UInt8) (hX : Hid (unq (s.extract 1 (N - 1)).data.toList = X))
  (HE : Hid (∀ w, Calls Tryz.prog 89 #[.string s] w fun e w' => e = .returned (.tuple #[.int .i64 (N : Nat), .bool true]) ∧ w = w')) :
  Calls Tryz.prog 90 #[.string s] w fun e w' => e = .returned (.tuple #[.string (bs X), .int .i64 0]) ∧ Below w.heap.size w w' := by
 obtain ⟨M, hM⟩ : ∃ M, N - 1 = M := ⟨_, rfl⟩
 rw [hM] at hX
 have hM' : (N : Int) - 1 = M := by omega
 have hM1 : 1 ≤ M := by omega
 have hM2 : M ≤ s.size := by omega
 have hlt : ¬ (N : Int) < s.size := by omega
 have hlt2 : ¬ N < s.size := by omega
 have hts : (s.extract 1 M).size ≤ 1000000 := by
  rw [← size_list, ext_list, List.length_take, List.length_drop, size_list]; omega
 have hM3 : M ≤ 1000000 := by omega
 have hNe := Lib.hid hN
 clear hM hN hs
 go_enter Tryz.func90, Tryz.ntmps90
 go_wp2
 refine wp_scope_goto 0 (JUnq s N w X) (fun a' _ => szOf (a'.tmps.getD 6 undef)) rfl ?_ ?_
 ·rintro a' w' ⟨t, v, l, ⟨hsz, hX, ho, hb⟩, u5, u8, u9, u10, u11, u12, u13, u14, u15, u16, u17, u18, u19, u20, u21, u22, u23, u24, u25, u26, u27, u28, u29, u30, u31, u32, u33, u34, u35, u36, u37, u38, u39, u40, u41, u42, u43, u44, u45, rfl⟩
  obtain ⟨r, hr⟩ : ∃ r, rb t.data.toList = r := ⟨_, rfl⟩
  have HRB := Lib.hid (fun w => readByte_any t w (by omega))
  rw [hr] at HRB
  have hbs := hb.size
  cases hok : r.2.2 with
  | true =>
   have hz := rb_size t.data.toList (by rw [hr]; exact hok)
   have hst := unq_step t.data.toList (by rw [hr]; exact hok)
   rw [hr] at hz hst
   rw [size_list] at hz
   rw [← ext_end] at hst
   obtain ⟨b, m, tt⟩ := r
   simp only at hok hz hst
   subst hok
   have HX := Lib.hid (show l ++ [b] ++ unq (t.extract m t.size).data.toList = X by rw [← hX, hst]; simp)
   have hm1 : m ≤ t.size := hz.2
   have hm2 : (m : Int) ≤ t.size := by omega
   have hez : (t.extract m t.size).size = t.size - m := by rw [← size_list, ext_end, List.length_drop, size_list]
   replace hez := Lib.hid hez
   replace ho := Lib.hid ho
   replace hb := Lib.hid hb
   clear hX hst hr
   go_wp2_with fail
   refine (HRB.out _).mono ?_
   rintro e w1 ⟨rfl, rfl⟩
   go_wp2_with (at_builtin; refine wpList_app rfl _ _ rfl w.heap.size v l [b] 1 rfl rfl rfl rfl ho.out hbs (by omega) ?_; intro v2 w2 ho2 hb2; replace ho2 := Lib.hid ho2; replace hb2 := Lib.hid hb2)
   go_step3
   refine ⟨rfl, ⟨t.extract m t.size, v2, l ++ [b], ⟨by rw [hez.out]; simp; omega, HX.out, ho2.out, hb.out.trans hb2.out⟩, ?_⟩, ?_⟩
   ·exact ⟨_, _, _, _, _, _, _, _, _, _, _, _, _, _, _, _, _, _, _, _, _, _, _, _, _, _, _, _, _, _, _, _, _, _, _, _, _, _, _, rfl⟩
   ·show szOf (.string (t.extract m t.size)) < szOf (.string t)
    simp only [szOf, hez.out]
    omega
  | false =>
   have hst := unq_stop t.data.toList (by rw [hr]; exact hok)
   have HX := Lib.hid (show l = X by rw [← hX, hst]; simp)
   obtain ⟨b, m, tt⟩ := r
   simp only at hok
   subst hok
   have hcv := own_text ho
   replace hb := Lib.hid hb
   clear hX hst hr ho
   go_wp2_with fail
   refine (HRB.out _).mono ?_
   rintro e w1 ⟨rfl, rfl⟩
   go_wp2
   simp only [Exit.jump]
   go_ret2
   rw [← HX.out]
   exact ⟨rfl, hb.out⟩
 ·intro F
  go_wp2_with fail
  refine (HE.out _).mono ?_
  rintro e w1 ⟨rfl, rfl⟩
  go_wp2_with (first
   | (at_make; refine wpList_make0 rfl _ _ rfl w.heap.size (M - 1) _ rfl rfl (by first | rfl | omega) (by omega) (Nat.le_refl _) ?_; intro v1 w1 ho1 hb1; replace ho1 := Lib.hid ho1; replace hb1 := Lib.hid hb1))
  go_step3
  rename_i hK
  apply hK
  exact F _ _ ⟨s.extract 1 M, v1, [], ⟨by simpa using hts, hX.out, ho1.out, hb1.out⟩, _, _, _, _, _, _, _, _, _, _, _, _, _, _, _, _, _, _, _, _, _, _, _, _, _, _, _, _, _, _, _, _, _, _, _, _, _, _, _, rfl⟩

theorem unquote_any (s : ByteArray) (w : World) (hs : s.size ≤ 1000000) : Calls Tryz.prog 90 #[.string s] w fun e w' => e = .returned (.tuple #[.string (bs (unqOf s.data.toList).1), .int .i64 (unqOf s.data.toList).2]) ∧ Below w.heap.size w w' := by
 have HE := Lib.hid (fun w => end_any s w hs _ rfl)
 unfold unqOf
 rw [size_list]
 cases hok : (readOf s.data.toList).2.2 with
 | false =>
  rw [hok] at HE
  rw [if_neg (by simp)]
  exact same_below (unquote_no s w _ HE)
 | true =>
  rw [hok] at HE
  obtain ⟨h1, h2, h3⟩ := unq_read s.data.toList hok
  rw [size_list] at h2
  by_cases hN : (readOf s.data.toList).2.1 = s.size
  ·rw [if_pos ⟨rfl, hN⟩]
   refine unquote_yes s w _ hs hN h1 _ (Lib.hid ?_) HE
   rw [ext_list]
   exact h3
  ·rw [if_neg (by simp [hN])]
   exact same_below (unquote_part s w _ (by omega) HE)
end
end Go.Proofs.YtbknflaooemigaaGreat
