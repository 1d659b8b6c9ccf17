/-
  A program's text as tokens, over lists of bytes: names, literals, signs (numbers are left out: nobody here asks for them). No function of the program is spoken of. Conditions: as said.
-/
import Derived.Test.YtogpfbmkbnooeaaLit
namespace Go.Proofs.Ytogpfbmkbnooeaa
open Go.RowKit Go.Sort
set_option linter.unusedVariables false

def sml (c : UInt8) : Bool := (decide (97 ≤ c.toNat) && decide (c.toNat ≤ 122)) || decide (c = 95)
def grt (c : UInt8) : Bool := decide (65 ≤ c.toNat) && decide (c.toNat ≤ 90)
def dgt (c : UInt8) : Bool := decide (48 ≤ c.toNat) && decide (c.toNat ≤ 57)
def nam (c : UInt8) : Bool := sml c || grt c || dgt c
def nlf (c : UInt8) : Bool := decide (c ≠ 10)
/-- How many bytes at the front belong. -/
def runL (p : UInt8 → Bool) : List UInt8 → Nat
  | [] => 0
  | c :: t => if p c = true then runL p t + 1 else 0

def words : List (List UInt8) := [[114, 101, 99], [102, 110], [118, 97, 114], [105, 102], [101, 108, 115, 101], [119, 104, 105, 108, 101], [114, 101, 116, 117, 114, 110], [112, 114, 105, 110, 116],
  [116, 114, 117, 101], [102, 97, 108, 115, 101], [110, 105, 108], [109, 97, 107, 101], [105, 110, 116], [98, 111, 111, 108], [115, 116, 114], [99, 111, 109, 112]]
def isWord (l : List UInt8) : Bool := decide (l ∈ words)
def twos : List (List UInt8) := [[38, 38], [124, 124], [61, 61], [33, 61], [60, 61], [62, 61]]
def ones : List UInt8 := [43, 45, 42, 47, 37, 60, 62, 33, 61, 40, 41, 123, 125, 91, 93, 44, 59, 58, 46]

structure One where
  err : Int
  size : Nat
  kind : Nat
  num : Int
  text : List UInt8
def bad (e : Int) : One := ⟨e, 0, 0, 0, []⟩
/-- Numbers are left out. -/
def numOne (l : List UInt8) : One := bad 4
def sgn (l : List UInt8) : Nat := if l.take 2 ∈ twos then 2 else if l.headD 0 ∈ ones then 1 else 0
def namK (l : List UInt8) : Nat := if isWord (l.take (runL nam l)) = true then 6 else if grt (l.headD 0) = true then 2 else 1
def litOne (l : List UInt8) : One := if (readOf l).2.2 = true then ⟨0, (readOf l).2.1, 5, 0, (readOf l).1⟩ else bad 4
def sgnOne (l : List UInt8) : One := if sgn l = 0 then bad 4 else ⟨0, sgn l, 7, 0, l.take (sgn l)⟩
/-- The token that a text begins with. -/
def one (l : List UInt8) : One :=
  if (sml (l.headD 0) || grt (l.headD 0)) = true then ⟨0, runL nam l, namK l, 0, l.take (runL nam l)⟩
  else if dgt (l.headD 0) = true then numOne l
  else if l.headD 0 = 34 then litOne l
  else sgnOne l

theorem runL_le (p : UInt8 → Bool) (l : List UInt8) : runL p l ≤ l.length := by
  induction l with
  | nil => simp [runL]
  | cons c t ih => rw [runL]; split <;> simp <;> omega

theorem runL_pos {p : UInt8 → Bool} {l : List UInt8} (h : p (l.headD 0) = true) (hl : l ≠ []) : 1 ≤ runL p l := by
  cases l with
  | nil => exact absurd rfl hl
  | cons c t => rw [runL, if_pos (show p c = true from h)]; omega

theorem runL_all (p : UInt8 → Bool) (l : List UInt8) : ∀ c ∈ l.take (runL p l), p c = true := by
  induction l with
  | nil => simp
  | cons c t ih =>
    rw [runL]
    split
    · intro d hd
      rw [List.take_succ_cons, List.mem_cons] at hd
      rcases hd with rfl | hd
      · assumption
      · exact ih d hd
    · simp

theorem runL_stop (p : UInt8 → Bool) (l : List UInt8) : ∀ c, (l.drop (runL p l)).head? = some c → p c = false := by
  induction l with
  | nil => simp
  | cons c t ih =>
    rw [runL]
    split
    · exact ih
    · intro d hd
      simp at hd
      subst hd
      exact Bool.eq_false_iff.2 (by assumption)

theorem runL_app {p : UInt8 → Bool} {a m : List UInt8} (h : ∀ c ∈ a, p c = true) : runL p (a ++ m) = a.length + runL p m := by
  induction a with
  | nil => simp
  | cons c t ih =>
    rw [List.cons_append, runL, if_pos (h c (by simp)), ih (fun d hd => h d (by simp [hd]))]
    simp; omega

theorem runL_zero {p : UInt8 → Bool} {m : List UInt8} (h : ∀ c, m.head? = some c → p c = false) : runL p m = 0 := by
  cases m with
  | nil => rfl
  | cons c t => rw [runL, if_neg (by rw [h c rfl]; simp)]

theorem runL_eq {p : UInt8 → Bool} {l : List UInt8} {k : Nat} (hk : k ≤ l.length) (h : ∀ c ∈ l.take k, p c = true) (h2 : ∀ c, (l.drop k).head? = some c → p c = false) : runL p l = k := by
  rw [← List.take_append_drop k l, runL_app h, runL_zero h2, List.length_take]; omega

structure Tok where
  kind : Nat
  line : Nat
  col : Nat
  num : Int
  text : List UInt8
abbrev Res := Except (Int × Nat × Nat) (List Tok)
end Go.Proofs.Ytogpfbmkbnooeaa
