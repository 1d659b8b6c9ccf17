/-
 A program's text as tokens, over lists of bytes: what a token is, what stands between tokens. No function of the program is spoken of. Conditions: as said.
-/
import Derived.Test.YtbknflaooemigaaGreatQuo
import Derived.Test.YtbknflaooemigaaGreatNm
namespace Go.Proofs.YtbknflaooemigaaGreat
set_option linter.unusedVariables false

def sml (c : UInt8) : Bool := (decide (97 ≤ c.toNat) && decide (c.toNat ≤ 122)) || decide (c = 95)
def grt (c : UInt8) : Bool := decide (65 ≤ c.toNat) && decide (c.toNat ≤ 90)
def dgt (c : UInt8) : Bool := decide (48 ≤ c.toNat) && decide (c.toNat ≤ 57)
def nam (c : UInt8) : Bool := sml c || grt c || dgt c
def nlf (c : UInt8) : Bool := decide (c ≠ 10)
def nou (c : UInt8) : Bool := decide (c = 48)
/-- How many bytes at the front belong. -/
def runL (p : UInt8 → Bool) : List UInt8 → Nat
 | [] => 0
 | c :: t => if p c = true then runL p t + 1 else 0

def words : List (List UInt8) := [[114, 101, 99], [102, 110], [118, 97, 114], [105, 102], [101, 108, 115, 101], [119, 104, 105, 108, 101], [114, 101, 116, 117, 114, 110], [112, 114, 105, 110, 116],
 [116, 114, 117, 101], [102, 97, 108, 115, 101], [110, 105, 108], [109, 97, 107, 101], [105, 110, 116], [98, 111, 111, 108], [115, 116, 114], [99, 111, 109, 112]]
def isWord (l : List UInt8) : Bool := decide (l ∈ words)
def twos : List (List UInt8) := [[38, 38], [124, 124], [61, 61], [33, 61], [60, 61], [62, 61]]
def ones : List UInt8 := [43, 45, 42, 47, 37, 60, 62, 33, 61, 40, 41, 123, 125, 91, 93, 44, 59, 58, 46]

/-- Digits without the noughts ahead of others. -/
def trim (l : List UInt8) : List UInt8 := l.drop (runL nou l.dropLast)

structure One where
 err : Int
 size : Nat
 kind : Nat
 num : Int
 text : List UInt8
def bad (e : Int) : One := ⟨e, 0, 0, 0, []⟩
def isC (l : List UInt8) : Bool := decide ((l.drop (runL dgt l)).head? = some 105)
def numK (l : List UInt8) : Nat := if isC l = true then runL dgt l + 1 else runL dgt l
def numD (l : List UInt8) : List UInt8 := trim (l.take (runL dgt l))
def numM (l : List UInt8) : Int := if isC l = true then 8388607 else 9223372036854775807
def numOne (l : List UInt8) : One :=
 if 0 < runL nam (l.drop (numK l)) then bad 4
 else if Nm.parseE (numD l) ≠ 0 ∨ numM l < Nm.parseN (numD l) then bad 14
 else ⟨0, numK l, if isC l = true then 4 else 3, Nm.parseN (numD l), []⟩
def sgn (l : List UInt8) : Nat := if l.take 2 ∈ twos then 2 else if l.headD 0 ∈ ones then 1 else 0
def namK (l : List UInt8) : Nat := if isWord (l.take (runL nam l)) = true then 6 else if grt (l.headD 0) = true then 2 else 1
def litOne (l : List UInt8) : One := if (readOf l).2.2 = true then ⟨0, (readOf l).2.1, 5, 0, (readOf l).1⟩ else bad 4
def sgnOne (l : List UInt8) : One := if sgn l = 0 then bad 4 else ⟨0, sgn l, 7, 0, l.take (sgn l)⟩
/-- The token that a text begins with. -/
def one (l : List UInt8) : One :=
 if (sml (l.headD 0) || grt (l.headD 0)) = true then ⟨0, runL nam l, namK l, 0, l.take (runL nam l)⟩
 else if dgt (l.headD 0) = true then numOne l
 else if l.headD 0 = 34 then litOne l
 else sgnOne l

theorem runL_le (p : UInt8 → Bool) (l : List UInt8) : runL p l ≤ l.length := by
 induction l with
 | nil => simp [runL]
 | cons c t ih => rw [runL]; split <;> simp <;> omega

theorem runL_pos {p : UInt8 → Bool} {l : List UInt8} (h : p (l.headD 0) = true) (hl : l ≠ []) : 1 ≤ runL p l := by
 cases l with
 | nil => exact absurd rfl hl
 | cons c t => rw [runL, if_pos (show p c = true from h)]; omega

theorem runL_all (p : UInt8 → Bool) (l : List UInt8) : ∀ c ∈ l.take (runL p l), p c = true := by
 induction l with
 | nil => simp
 | cons c t ih =>
  rw [runL]
  split
  ·intro d hd
   rw [List.take_succ_cons, List.mem_cons] at hd
   rcases hd with rfl | hd
   ·assumption
   ·exact ih d hd
  ·simp

theorem one_ok (l : List UInt8) (hl : l ≠ []) (h : (one l).err = 0) : 1 ≤ (one l).size ∧ (one l).size ≤ l.length := by
 unfold one at *
 split at h
 ·rename_i h1
  rw [if_pos h1]
  refine ⟨runL_pos ?_ hl, runL_le _ _⟩
  unfold nam; rw [h1]; rfl
 ·rename_i h1
  rw [if_neg h1]
  split at h
  ·rename_i h2
   rw [if_pos h2]
   unfold numOne at *
   split at h
   ·simp [bad] at h
   ·rename_i h3
    rw [if_neg h3]
    split at h
    ·simp [bad] at h
    ·rename_i h4
     rw [if_neg h4]
     have hp := runL_pos h2 hl
     have hle := runL_le dgt l
     show 1 ≤ numK l ∧ numK l ≤ l.length
     unfold numK
     split
     ·rename_i h5
      refine ⟨by omega, ?_⟩
      unfold isC at h5
      rw [decide_eq_true_eq] at h5
      cases hd : l.drop (runL dgt l) with
      | nil => rw [hd] at h5; simp at h5
      | cons a b =>
       have := congrArg List.length hd
       simp at this; omega
     ·exact ⟨hp, hle⟩
  ·rename_i h2
   rw [if_neg h2]
   split at h
   ·rename_i h3
    rw [if_pos h3]
    unfold litOne at *
    split at h
    ·rename_i h4
     rw [if_pos h4]
     obtain ⟨a, b, _⟩ := unq_read l h4
     exact ⟨by show 1 ≤ (readOf l).2.1; omega, b⟩
    ·simp [bad] at h
   ·rename_i h3
    rw [if_neg h3]
    unfold sgnOne at *
    split at h
    ·simp [bad] at h
    ·rename_i h4
     rw [if_neg h4]
     show 1 ≤ sgn l ∧ sgn l ≤ l.length
     refine ⟨by omega, ?_⟩
     unfold sgn
     split
     ·rename_i h5
      have h6 : ∀ x ∈ twos, x.length = 2 := by decide
      have := h6 _ h5
      rw [List.length_take] at this; omega
     ·split
      ·cases l with
       | nil => exact absurd rfl hl
       | cons => simp
      ·omega

structure Tok where
 kind : Nat
 line : Nat
 col : Nat
 num : Int
 text : List UInt8
abbrev Res := Except (Int × Nat × Nat) (List Tok)
/-- A text's tokens, its first byte at a place. -/
def toks (l : List UInt8) (line col : Nat) : Res :=
 if hl : l = [] then .ok [⟨8, line, col, 0, []⟩]
 else if l.headD 0 = 10 then toks l.tail (line + 1) 1
 else if l.headD 0 = 32 ∨ l.headD 0 = 9 ∨ l.headD 0 = 13 then toks l.tail line (col + 1)
 else if l.headD 0 = 35 then toks (l.tail.drop (runL nlf l.tail)) line (col + (runL nlf l.tail + 1))
 else if h : (one l).err = 0 then (toks (l.drop (one l).size) line (col + (one l).size)).map (⟨(one l).kind, line, col, (one l).num, (one l).text⟩ :: ·)
 else .error ((one l).err, line, col)
termination_by l.length
decreasing_by
 all_goals (have hp : 0 < l.length := List.length_pos_iff.2 hl)
 ·simp; omega
 ·simp; omega
 ·simp; omega
 ·have := one_ok l hl h; simp; omega

theorem toks_nil (line col : Nat) : toks [] line col = .ok [⟨8, line, col, 0, []⟩] := by rw [toks, dif_pos rfl]
theorem toks_lf (t : List UInt8) (line col : Nat) : toks (10 :: t) line col = toks t (line + 1) 1 := by
 rw [toks, dif_neg (by simp)]; exact if_pos rfl
theorem toks_blank (c : UInt8) (t : List UInt8) (line col : Nat) (h : c = 32 ∨ c = 9 ∨ c = 13) : toks (c :: t) line col = toks t line (col + 1) := by
 rw [toks, dif_neg (by simp)]
 exact (if_neg (show ¬ c = 10 by rcases h with rfl | rfl | rfl <;> decide)).trans (if_pos h)
theorem toks_note (t : List UInt8) (line col : Nat) : toks (35 :: t) line col = toks (t.drop (runL nlf t)) line (col + (runL nlf t + 1)) := by
 rw [toks, dif_neg (by simp)]
 exact (if_neg (show ¬ (35 : UInt8) = 10 by decide)).trans ((if_neg (show ¬ ((35 : UInt8) = 32 ∨ (35 : UInt8) = 9 ∨ (35 : UInt8) = 13) by decide)).trans (if_pos rfl))
/-- Bytes at which something else than a token stands. -/
def isGap (c : UInt8) : Prop := c = 10 ∨ c = 32 ∨ c = 9 ∨ c = 13 ∨ c = 35
theorem toks_tok (c : UInt8) (t : List UInt8) (line col : Nat) (hg : ¬ isGap c) (h : (one (c :: t)).err = 0) : toks (c :: t) line col =
  (toks ((c :: t).drop (one (c :: t)).size) line (col + (one (c :: t)).size)).map (⟨(one (c :: t)).kind, line, col, (one (c :: t)).num, (one (c :: t)).text⟩ :: ·) := by
 unfold isGap at hg
 rw [toks, dif_neg (by simp)]
 exact (if_neg (show ¬ c = 10 from fun e => hg (.inl e))).trans ((if_neg (show ¬ (c = 32 ∨ c = 9 ∨ c = 13) from fun e => hg (.inr (by rcases e with e | e | e <;> simp [e])))).trans ((if_neg (show ¬ c = 35 from fun e => hg (by simp [e]))).trans (dif_pos h)))
theorem toks_bad (c : UInt8) (t : List UInt8) (line col : Nat) (hg : ¬ isGap c) (h : ¬ (one (c :: t)).err = 0) : toks (c :: t) line col = .error ((one (c :: t)).err, line, col) := by
 unfold isGap at hg
 rw [toks, dif_neg (by simp)]
 exact (if_neg (show ¬ c = 10 from fun e => hg (.inl e))).trans ((if_neg (show ¬ (c = 32 ∨ c = 9 ∨ c = 13) from fun e => hg (.inr (by rcases e with e | e | e <;> simp [e])))).trans ((if_neg (show ¬ c = 35 from fun e => hg (by simp [e]))).trans (dif_neg h)))

end Go.Proofs.YtbknflaooemigaaGreat
