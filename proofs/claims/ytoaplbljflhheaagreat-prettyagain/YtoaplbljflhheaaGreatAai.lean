/-
 Contracts and plain facts on the way to PrettyAgain. Conditions: as each says.
-/
import Derived.Test.YtoaplbljflhheaaGreatAad
import Derived.Test.YtoaplbljflhheaaGreatAaa
import Derived.Test.YtoaplbljflhheaaGreatRows
set_option maxHeartbeats 40000000
set_option maxRecDepth 100000
set_option linter.unusedVariables false
set_option linter.unusedSimpArgs false
namespace Go.Proofs.YtoaplbljflhheaaGreat
open _root_.Go.Proofs.Tryz
section
def sml (c : UInt8) : Bool := (decide (97 ≤ c.toNat) && decide (c.toNat ≤ 122)) || decide (c = 95)
def grt (c : UInt8) : Bool := decide (65 ≤ c.toNat) && decide (c.toNat ≤ 90)
def dgt (c : UInt8) : Bool := decide (48 ≤ c.toNat) && decide (c.toNat ≤ 57)
def nam (c : UInt8) : Bool := sml c || grt c || dgt c
def nlf (c : UInt8) : Bool := decide (c ≠ 10)
def nou (c : UInt8) : Bool := decide (c = 48)
def C1 (p : UInt8 → Bool) : List UInt8 → Nat
 | [] => 0
 | c :: t => if p c = true then C1 p t + 1 else 0
def Vh : List (List UInt8) := [[114, 101, 99], [102, 110], [118, 97, 114], [105, 102], [101, 108, 115, 101], [119, 104, 105, 108, 101], [114, 101, 116, 117, 114, 110], [112, 114, 105, 110, 116],
 [116, 114, 117, 101], [102, 97, 108, 115, 101], [110, 105, 108], [109, 97, 107, 101], [105, 110, 116], [98, 111, 111, 108], [115, 116, 114], [99, 111, 109, 112]]
def I1 (l : List UInt8) : Bool := decide (l ∈ Vh)
def Tj : List (List UInt8) := [[38, 38], [124, 124], [61, 61], [33, 61], [60, 61], [62, 61]]
def b6d : List UInt8 := [43, 45, 42, 47, 37, 60, 62, 33, 61, 40, 41, 123, 125, 91, 93, 44, 59, 58, 46]
def b1e (l : List UInt8) : List UInt8 := l.drop (C1 nou l.dropLast)
structure One where
 err : Int
 size : Nat
 kind : Nat
 num : Int
 text : List UInt8
def bad (e : Int) : One := ⟨e, 0, 0, 0, []⟩
def isC (l : List UInt8) : Bool := decide ((l.drop (C1 dgt l)).head? = some 105)
def a1e (l : List UInt8) : Nat := if isC l = true then C1 dgt l + 1 else C1 dgt l
def Wk (l : List UInt8) : List UInt8 := b1e (l.take (C1 dgt l))
def a3v (l : List UInt8) : Int := if isC l = true then 8388607 else 9223372036854775807
def Nw (l : List UInt8) : One :=
 if 0 < C1 nam (l.drop (a1e l)) then bad 4
 else if Nm.parseE (Wk l) ≠ 0 ∨ a3v l < Nm.parseN (Wk l) then bad 14
 else ⟨0, a1e l, if isC l = true then 4 else 3, Nm.parseN (Wk l), []⟩
def sgn (l : List UInt8) : Nat := if l.take 2 ∈ Tj then 2 else if l.headD 0 ∈ b6d then 1 else 0
def Qk (l : List UInt8) : Nat := if I1 (l.take (C1 nam l)) = true then 6 else if grt (l.headD 0) = true then 2 else 1
def Pi (l : List UInt8) : One := if (Bb l).2.2 = true then ⟨0, (Bb l).2.1, 5, 0, (Bb l).1⟩ else bad 4
def O6 (l : List UInt8) : One := if sgn l = 0 then bad 4 else ⟨0, sgn l, 7, 0, l.take (sgn l)⟩
def one (l : List UInt8) : One :=
 if (sml (l.headD 0) || grt (l.headD 0)) = true then ⟨0, C1 nam l, Qk l, 0, l.take (C1 nam l)⟩
 else if dgt (l.headD 0) = true then Nw l
 else if l.headD 0 = 34 then Pi l
 else O6 l
theorem Ll (p : UInt8 → Bool) (l : List UInt8) : C1 p l ≤ l.length := by
 induction l with
 | nil => simp [C1]
 | cons c t ih => rw [C1]; split <;> simp <;> omega
theorem L5 {p : UInt8 → Bool} {l : List UInt8} (h : p (l.headD 0) = true) (hl : l ≠ []) : 1 ≤ C1 p l := by
 cases l with
 | nil => exact absurd rfl hl
 | cons c t => rw [C1, if_pos (show p c = true from h)]; omega
theorem Xu (p : UInt8 → Bool) (l : List UInt8) : ∀ c ∈ l.take (C1 p l), p c = true := by
 induction l with
 | nil => simp
 | cons c t ih =>
  rw [C1];split
  ·intro d hd;rw [List.take_succ_cons, List.mem_cons] at hd;rcases hd with rfl | hd
   ·assumption
   ·exact ih d hd
  ·simp
theorem R4 {p : UInt8 → Bool} {a m : List UInt8} (h : ∀ c ∈ a, p c = true) : C1 p (a ++ m) = a.length + C1 p m := by
 induction a with
 | nil => simp
 | cons c t ih =>
  rw [List.cons_append, C1, if_pos (h c (by simp)), ih (fun d hd => h d (by simp [hd]))];simp; omega
theorem Jy {p : UInt8 → Bool} {m : List UInt8} (h : ∀ c, m.head? = some c → p c = false) : C1 p m = 0 := by
 cases m with
 | nil => rfl
 | cons c t => rw [C1, if_neg (by rw [h c rfl]; simp)]
theorem Pe (l : List UInt8) (hl : l ≠ []) (h : (one l).err = 0) : 1 ≤ (one l).size ∧ (one l).size ≤ l.length := by
 unfold one at *;split at h
 ·rename_i h1;rw [if_pos h1];refine ⟨L5 ?_ hl, Ll _ _⟩;unfold nam; rw [h1]; rfl
 ·rename_i h1;rw [if_neg h1];split at h
  ·rename_i h2;rw [if_pos h2];unfold Nw at *;split at h
   ·simp [bad] at h
   ·rename_i h3;rw [if_neg h3];split at h
    ·simp [bad] at h
    ·rename_i h4;rw [if_neg h4];have hp := L5 h2 hl;have hle := Ll dgt l;show 1 ≤ a1e l ∧ a1e l ≤ l.length;unfold a1e;split
     ·rename_i h5;refine ⟨by omega, ?_⟩;unfold isC at h5;rw [decide_eq_true_eq] at h5
      cases hd : l.drop (C1 dgt l) with
      | nil => rw [hd] at h5; simp at h5
      | cons a b =>
       have := congrArg List.length hd;simp at this; omega
     ·exact ⟨hp, hle⟩
  ·rename_i h2;rw [if_neg h2];split at h
   ·rename_i h3;rw [if_pos h3];unfold Pi at *;split at h
    ·rename_i h4;rw [if_pos h4];obtain ⟨a, b, _⟩ := Rr l h4;exact ⟨by show 1 ≤ (Bb l).2.1; omega, b⟩
    ·simp [bad] at h
   ·rename_i h3;rw [if_neg h3];unfold O6 at *;split at h
    ·simp [bad] at h
    ·rename_i h4;rw [if_neg h4];show 1 ≤ sgn l ∧ sgn l ≤ l.length;refine ⟨by omega, ?_⟩;unfold sgn;split
     ·rename_i h5;have h6 : ∀ x ∈ Tj, x.length = 2 := by decide
      have := h6 _ h5;rw [List.length_take] at this; omega
     ·split
      ·cases l with
       | nil => exact absurd rfl hl
       | cons => simp
      ·omega
structure Tok where
 kind : Nat
 line : Nat
 col : Nat
 num : Int
 text : List UInt8
abbrev Res := Except (Int × Nat × Nat) (List Tok)
def Gw (l : List UInt8) (line col : Nat) : Res :=
 if hl : l = [] then .ok [⟨8, line, col, 0, []⟩]
 else if l.headD 0 = 10 then Gw l.tail (line + 1) 1
 else if l.headD 0 = 32 ∨ l.headD 0 = 9 ∨ l.headD 0 = 13 then Gw l.tail line (col + 1)
 else if l.headD 0 = 35 then Gw (l.tail.drop (C1 nlf l.tail)) line (col + (C1 nlf l.tail + 1))
 else if h : (one l).err = 0 then (Gw (l.drop (one l).size) line (col + (one l).size)).map (⟨(one l).kind, line, col, (one l).num, (one l).text⟩ :: ·)
 else .error ((one l).err, line, col)
termination_by l.length
decreasing_by
 all_goals (have hp : 0 < l.length := List.length_pos_iff.2 hl)
 ·simp; omega
 ·simp; omega
 ·simp; omega
 ·have := Pe l hl h; simp; omega
theorem L0 (line col : Nat) : Gw [] line col = .ok [⟨8, line, col, 0, []⟩] := by rw [Gw, dif_pos rfl]
theorem Rv (t : List UInt8) (line col : Nat) : Gw (10 :: t) line col = Gw t (line + 1) 1 := by
 rw [Gw, dif_neg (by simp)]; exact if_pos rfl
theorem Gv (c : UInt8) (t : List UInt8) (line col : Nat) (h : c = 32 ∨ c = 9 ∨ c = 13) : Gw (c :: t) line col = Gw t line (col + 1) := by
 rw [Gw, dif_neg (by simp)];exact (if_neg (show ¬ c = 10 by rcases h with rfl | rfl | rfl <;> decide)).trans (if_pos h)
theorem O2 (t : List UInt8) (line col : Nat) : Gw (35 :: t) line col = Gw (t.drop (C1 nlf t)) line (col + (C1 nlf t + 1)) := by
 rw [Gw, dif_neg (by simp)];exact (if_neg (show ¬ (35 : UInt8) = 10 by decide)).trans ((if_neg (show ¬ ((35 : UInt8) = 32 ∨ (35 : UInt8) = 9 ∨ (35 : UInt8) = 13) by decide)).trans (if_pos rfl))
def I2 (c : UInt8) : Prop := c = 10 ∨ c = 32 ∨ c = 9 ∨ c = 13 ∨ c = 35
theorem N9 (c : UInt8) (t : List UInt8) (line col : Nat) (hg : ¬ I2 c) (h : (one (c :: t)).err = 0) : Gw (c :: t) line col =
  (Gw ((c :: t).drop (one (c :: t)).size) line (col + (one (c :: t)).size)).map (⟨(one (c :: t)).kind, line, col, (one (c :: t)).num, (one (c :: t)).text⟩ :: ·) := by
 unfold I2 at hg;rw [Gw, dif_neg (by simp)];exact (if_neg (show ¬ c = 10 from fun e => hg (.inl e))).trans ((if_neg (show ¬ (c = 32 ∨ c = 9 ∨ c = 13) from fun e => hg (.inr (by rcases e with e | e | e <;> simp [e])))).trans ((if_neg (show ¬ c = 35 from fun e => hg (by simp [e]))).trans (dif_pos h)))
theorem Rw (c : UInt8) (t : List UInt8) (line col : Nat) (hg : ¬ I2 c) (h : ¬ (one (c :: t)).err = 0) : Gw (c :: t) line col = .error ((one (c :: t)).err, line, col) := by
 unfold I2 at hg;rw [Gw, dif_neg (by simp)];exact (if_neg (show ¬ c = 10 from fun e => hg (.inl e))).trans ((if_neg (show ¬ (c = 32 ∨ c = 9 ∨ c = 13) from fun e => hg (.inr (by rcases e with e | e | e <;> simp [e])))).trans ((if_neg (show ¬ c = 35 from fun e => hg (by simp [e]))).trans (dif_neg h)))
end
section
open Go.RowKit
def ltr (c : UInt8) : UInt8 × Bool := if c = 34 ∨ c = 92 then (c, true) else if c = 10 then (110, true) else if c = 9 then (116, true) else (0, false)
theorem Kq (c : UInt8) (w : World) : Calls prog 201 #[byt c] w fun e w' => e = .returned (.tuple #[byt (ltr c).1, .bool (ltr c).2]) ∧ w = w' := by
 by_cases h1 : c = 34
 ·subst h1;go_enter func201, ntmps201;go_wp2
  go_ret2
  exact ⟨rfl, rfl⟩
 by_cases h2 : c = 92
 ·subst h2;go_enter func201, ntmps201;go_wp2
  go_ret2
  exact ⟨rfl, rfl⟩
 by_cases h3 : c = 10
 ·subst h3;go_enter func201, ntmps201;go_wp2
  go_ret2
  exact ⟨rfl, rfl⟩
 by_cases h4 : c = 9
 ·subst h4;go_enter func201, ntmps201;go_wp2
  go_ret2
  exact ⟨rfl, rfl⟩
 have H := zz (show ltr c = (0, false) by simp [ltr, h1, h2, h3, h4]);have e1 := A0 (n := 34) (by decide) h1;have e2 := A0 (n := 92) (by decide) h2;have e3 := A0 (n := 10) (by decide) h3;have e4 := A0 (n := 9) (by decide) h4;clear h1 h2 h3 h4;go_enter func201, ntmps201;go_wp2
 go_ret2
 rw [H.out];exact ⟨rfl, rfl⟩
theorem b7c (c : UInt8) : (∃ l, ltr c = (l, true) ∧ esc c = [92, l]) ∨ (ltr c = (0, false) ∧ wth c = true ∧ esc c = [c]) ∨
  (ltr c = (0, false) ∧ wth c = false ∧ esc c = [92, 120, hx (c.toNat / 16), hx (c.toNat % 16)]) := by
 by_cases h1 : c = 34
 ·subst h1; exact .inl ⟨34, rfl, rfl⟩
 by_cases h2 : c = 92
 ·subst h2; exact .inl ⟨92, rfl, rfl⟩
 by_cases h3 : c = 10
 ·subst h3; exact .inl ⟨110, rfl, rfl⟩
 by_cases h4 : c = 9
 ·subst h4; exact .inl ⟨116, rfl, rfl⟩
 have hl : ltr c = (0, false) := by simp [ltr, h1, h2, h3, h4]
 by_cases h5 : c.toNat < 32 ∨ 126 < c.toNat
 ·exact .inr (.inr ⟨hl, by simp [wth]; omega, by simp [esc, h1, h2, h3, h4, h5]⟩)
 ·exact .inr (.inl ⟨hl, by simp [wth]; omega, by simp [esc, h1, h2, h3, h4]; omega⟩)
theorem V7 (c : UInt8) (w : World) : Calls prog 200 #[byt c] w fun e w' => e = .returned (.int .i64 ((esc c).length : Nat)) ∧ w = w' := by
 have HL := zz (fun w => Kq c w);have HW := zz (fun w => Ki c w);rcases b7c c with ⟨l, h1, h3⟩ | ⟨h1, h2, h3⟩ | ⟨h1, h2, h3⟩
 ·rw [h3];rw [h1] at HL;clear h1 h3;go_enter func200, ntmps200;go_wp2_with fail;refine (HL.out _).mono ?_;rintro e w' ⟨rfl, rfl⟩;go_wp2;go_ret;exact ⟨rfl, rfl⟩
 ·rw [h3];rw [h1] at HL;rw [h2] at HW;clear h1 h2 h3;go_enter func200, ntmps200;go_wp2_with fail;refine (HL.out _).mono ?_;rintro e w' ⟨rfl, rfl⟩;go_wp2_with fail;refine (HW.out _).mono ?_;rintro e w' ⟨rfl, rfl⟩;go_wp2;go_ret;exact ⟨rfl, rfl⟩
 ·rw [h3];rw [h1] at HL;rw [h2] at HW;clear h1 h2 h3;go_enter func200, ntmps200;go_wp2_with fail;refine (HL.out _).mono ?_;rintro e w' ⟨rfl, rfl⟩;go_wp2_with fail;refine (HW.out _).mono ?_;rintro e w' ⟨rfl, rfl⟩;go_wp2;go_ret;exact ⟨rfl, rfl⟩
end
end Go.Proofs.YtoaplbljflhheaaGreat
