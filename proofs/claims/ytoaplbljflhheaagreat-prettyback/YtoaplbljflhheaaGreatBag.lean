/-
 Contracts and plain facts on the way to PrettyBack. Conditions: as each says.
-/
import Derived.Test.YtoaplbljflhheaaGreatBad
import Derived.Test.YtoaplbljflhheaaGreatBaa
import Derived.Test.YtoaplbljflhheaaGreatBab
import Derived.Test.YtoaplbljflhheaaGreatRows
set_option maxHeartbeats 40000000
set_option maxRecDepth 100000
set_option linter.unusedVariables false
set_option linter.unusedSimpArgs false
namespace Go.Proofs.YtoaplbljflhheaaGreat
open _root_.Go.Proofs.Tryz
section
def sml (c : UInt8) : Bool := (decide (97 <= c.toNat) && decide (c.toNat <= 122)) || decide (c = 95)
def grt (c : UInt8) : Bool := decide (65 <= c.toNat) && decide (c.toNat <= 90)
def dgt (c : UInt8) : Bool := decide (48 <= c.toNat) && decide (c.toNat <= 57)
def nam (c : UInt8) : Bool := sml c || grt c || dgt c
def nlf (c : UInt8) : Bool := decide (c ≠ 10)
def nou (c : UInt8) : Bool := decide (c = 48)
def Bz (p : UInt8 -> Bool) : List UInt8 -> Nat
 | [] => 0
 | c :: t => if p c = true then Bz p t + 1 else 0
def Lb : List (List UInt8) := [[114, 101, 99], [102, 110], [118, 97, 114], [105, 102], [101, 108, 115, 101], [119, 104, 105, 108, 101], [114, 101, 116, 117, 114, 110], [112, 114, 105, 110, 116],
 [116, 114, 117, 101], [102, 97, 108, 115, 101], [110, 105, 108], [109, 97, 107, 101], [105, 110, 116], [98, 111, 111, 108], [115, 116, 114], [99, 111, 109, 112]]
def Dj (l : List UInt8) : Bool := decide (l ∈ Lb)
def J0 : List (List UInt8) := [[38, 38], [124, 124], [61, 61], [33, 61], [60, 61], [62, 61]]
def Qt : List UInt8 := [43, 45, 42, 47, 37, 60, 62, 33, 61, 40, 41, 123, 125, 91, 93, 44, 59, 58, 46]
def b1w (l : List UInt8) : List UInt8 := l.drop (Bz nou l.dropLast)
structure One where
 err : Int
 size : Nat
 kind : Nat
 num : Int
 text : List UInt8
def bad (e : Int) : One := ⟨e, 0, 0, 0, []⟩
def isC (l : List UInt8) : Bool := decide ((l.drop (Bz dgt l)).head? = some 105)
def Y2 (l : List UInt8) : Nat := if isC l = true then Bz dgt l + 1 else Bz dgt l
def W9 (l : List UInt8) : List UInt8 := b1w (l.take (Bz dgt l))
def a4a (l : List UInt8) : Int := if isC l = true then 8388607 else 9223372036854775807
def Mh (l : List UInt8) : One :=
 if 0 < Bz nam (l.drop (Y2 l)) then bad 4
 else if Nm.parseE (W9 l) ≠ 0 ∨ a4a l < Nm.parseN (W9 l) then bad 14
 else ⟨0, Y2 l, if isC l = true then 4 else 3, Nm.parseN (W9 l), []⟩
def sgn (l : List UInt8) : Nat := if l.take 2 ∈ J0 then 2 else if l.headD 0 ∈ Qt then 1 else 0
def Kf (l : List UInt8) : Nat := if Dj (l.take (Bz nam l)) = true then 6 else if grt (l.headD 0) = true then 2 else 1
def Ll (l : List UInt8) : One := if (A8 l).2.2 = true then ⟨0, (A8 l).2.1, 5, 0, (A8 l).1⟩ else bad 4
def Lh (l : List UInt8) : One := if sgn l = 0 then bad 4 else ⟨0, sgn l, 7, 0, l.take (sgn l)⟩
def one (l : List UInt8) : One :=
 if (sml (l.headD 0) || grt (l.headD 0)) = true then ⟨0, Bz nam l, Kf l, 0, l.take (Bz nam l)⟩
 else if dgt (l.headD 0) = true then Mh l
 else if l.headD 0 = 34 then Ll l
 else Lh l
theorem I3 (p : UInt8 -> Bool) (l : List UInt8) : Bz p l <= l.length := by
 induction l with
 | nil => simp [Bz]
 | cons c t ih => rw [Bz]; split <;> simp <;> omega
theorem Ks {p : UInt8 -> Bool} {l : List UInt8} (h : p (l.headD 0) = true) (hl : l ≠ []) : 1 <= Bz p l := by
 cases l with
 | nil => exact absurd rfl hl
 | cons c t => rw [Bz, if_pos (show p c = true from h)]; omega
theorem I4 (p : UInt8 -> Bool) (l : List UInt8) : ∀ c ∈ l.take (Bz p l), p c = true := by
 induction l with
 | nil => simp
 | cons c t ih =>
  rw [Bz];split
  ·intro d hd;rw [List.take_succ_cons, List.mem_cons] at hd;rcases hd with rfl | hd
   ·assumption
   ·exact ih d hd
  ·simp
theorem Oe {p : UInt8 -> Bool} {a m : List UInt8} (h : ∀ c ∈ a, p c = true) : Bz p (a ++ m) = a.length + Bz p m := by
 induction a with
 | nil => simp
 | cons c t ih =>
  rw [List.cons_append, Bz, if_pos (h c (by simp)), ih (fun d hd => h d (by simp [hd]))];simp; omega
theorem J7 {p : UInt8 -> Bool} {m : List UInt8} (h : ∀ c, m.head? = some c -> p c = false) : Bz p m = 0 := by
 cases m with
 | nil => rfl
 | cons c t => rw [Bz, if_neg (by rw [h c rfl]; simp)]
theorem Pk (l : List UInt8) (hl : l ≠ []) (h : (one l).err = 0) : 1 <= (one l).size ∧ (one l).size <= l.length := by
 unfold one at *;split at h
 ·rename_i h1;rw [if_pos h1];refine ⟨Ks ?_ hl, I3 _ _⟩;unfold nam; rw [h1]; rfl
 ·rename_i h1;rw [if_neg h1];split at h
  ·rename_i h2;rw [if_pos h2];unfold Mh at *;split at h
   ·simp [bad] at h
   ·rename_i h3;rw [if_neg h3];split at h
    ·simp [bad] at h
    ·rename_i h4;rw [if_neg h4];have hp := Ks h2 hl;have hle := I3 dgt l;show 1 <= Y2 l ∧ Y2 l <= l.length;unfold Y2;split
     ·rename_i h5;refine ⟨by omega, ?_⟩;unfold isC at h5;rw [decide_eq_true_eq] at h5
      cases hd : l.drop (Bz dgt l) with
      | nil => rw [hd] at h5; simp at h5
      | cons a b =>
       have := congrArg List.length hd;simp at this; omega
     ·exact ⟨hp, hle⟩
  ·rename_i h2;rw [if_neg h2];split at h
   ·rename_i h3;rw [if_pos h3];unfold Ll at *;split at h
    ·rename_i h4;rw [if_pos h4];obtain ⟨a, b, _⟩ := N9 l h4;exact ⟨by show 1 <= (A8 l).2.1; omega, b⟩
    ·simp [bad] at h
   ·rename_i h3;rw [if_neg h3];unfold Lh at *;split at h
    ·simp [bad] at h
    ·rename_i h4;rw [if_neg h4];show 1 <= sgn l ∧ sgn l <= l.length;refine ⟨by omega, ?_⟩;unfold sgn;split
     ·rename_i h5;have h6 : ∀ x ∈ J0, x.length = 2 := by decide
      have := h6 _ h5;rw [List.length_take] at this; omega
     ·split
      ·cases l with
       | nil => exact absurd rfl hl
       | cons => simp
      ·omega
structure Tok where
 kind : Nat
 line : Nat
 col : Nat
 num : Int
 text : List UInt8
abbrev Res := Except (Int × Nat × Nat) (List Tok)
def F8 (l : List UInt8) (line col : Nat) : Res :=
 if hl : l = [] then .ok [⟨8, line, col, 0, []⟩]
 else if l.headD 0 = 10 then F8 l.tail (line + 1) 1
 else if l.headD 0 = 32 ∨ l.headD 0 = 9 ∨ l.headD 0 = 13 then F8 l.tail line (col + 1)
 else if l.headD 0 = 35 then F8 (l.tail.drop (Bz nlf l.tail)) line (col + (Bz nlf l.tail + 1))
 else if h : (one l).err = 0 then (F8 (l.drop (one l).size) line (col + (one l).size)).map (⟨(one l).kind, line, col, (one l).num, (one l).text⟩ :: ·)
 else .error ((one l).err, line, col)
termination_by l.length
decreasing_by
 all_goals (have hp : 0 < l.length := List.length_pos_iff.2 hl)
 ·simp; omega
 ·simp; omega
 ·simp; omega
 ·have := Pk l hl h; simp; omega
theorem L6 (line col : Nat) : F8 [] line col = .ok [⟨8, line, col, 0, []⟩] := by rw [F8, dif_pos rfl]
theorem R3 (t : List UInt8) (line col : Nat) : F8 (10 :: t) line col = F8 t (line + 1) 1 := by
 rw [F8, dif_neg (by simp)]; exact if_pos rfl
theorem Eg (c : UInt8) (t : List UInt8) (line col : Nat) (h : c = 32 ∨ c = 9 ∨ c = 13) : F8 (c :: t) line col = F8 t line (col + 1) := by
 rw [F8, dif_neg (by simp)];exact (if_neg (show ¬ c = 10 by rcases h with rfl | rfl | rfl <;> decide)).trans (if_pos h)
theorem O2 (t : List UInt8) (line col : Nat) : F8 (35 :: t) line col = F8 (t.drop (Bz nlf t)) line (col + (Bz nlf t + 1)) := by
 rw [F8, dif_neg (by simp)];exact (if_neg (show ¬ (35 : UInt8) = 10 by decide)).trans ((if_neg (show ¬ ((35 : UInt8) = 32 ∨ (35 : UInt8) = 9 ∨ (35 : UInt8) = 13) by decide)).trans (if_pos rfl))
def Fy (c : UInt8) : Prop := c = 10 ∨ c = 32 ∨ c = 9 ∨ c = 13 ∨ c = 35
theorem Oa (c : UInt8) (t : List UInt8) (line col : Nat) (hg : ¬ Fy c) (h : (one (c :: t)).err = 0) : F8 (c :: t) line col =
  (F8 ((c :: t).drop (one (c :: t)).size) line (col + (one (c :: t)).size)).map (⟨(one (c :: t)).kind, line, col, (one (c :: t)).num, (one (c :: t)).text⟩ :: ·) := by
 unfold Fy at hg;rw [F8, dif_neg (by simp)];exact (if_neg (show ¬ c = 10 from fun e => hg (.inl e))).trans ((if_neg (show ¬ (c = 32 ∨ c = 9 ∨ c = 13) from fun e => hg (.inr (by rcases e with e | e | e <;> simp [e])))).trans ((if_neg (show ¬ c = 35 from fun e => hg (by simp [e]))).trans (dif_pos h)))
theorem R4 (c : UInt8) (t : List UInt8) (line col : Nat) (hg : ¬ Fy c) (h : ¬ (one (c :: t)).err = 0) : F8 (c :: t) line col = .error ((one (c :: t)).err, line, col) := by
 unfold Fy at hg;rw [F8, dif_neg (by simp)];exact (if_neg (show ¬ c = 10 from fun e => hg (.inl e))).trans ((if_neg (show ¬ (c = 32 ∨ c = 9 ∨ c = 13) from fun e => hg (.inr (by rcases e with e | e | e <;> simp [e])))).trans ((if_neg (show ¬ c = 35 from fun e => hg (by simp [e]))).trans (dif_neg h)))
end
section
def Cq (S : Nat -> Int) (stop k : Nat) : Option (List Nat) :=
 if h : k < stop then
  if S k < 0 ∨ (stop : Int) - 1 - k < S k then none else (Cq S stop (k + 1 + (S k).toNat)).map (k :: ·)
 else some []
termination_by stop - k
decreasing_by omega
theorem Bj {S : Nat -> Int} {stop k : Nat} (h : ¬ k < stop) : Cq S stop k = some [] := by rw [Cq, dif_neg h]
theorem Cp {S : Nat -> Int} {stop k : Nat} (h : k < stop) (hb : S k < 0 ∨ (stop : Int) - 1 - k < S k) : Cq S stop k = none := by rw [Cq, dif_pos h, if_pos hb]
theorem Bh {S : Nat -> Int} {stop k : Nat} (h : k < stop) (hb : ¬ (S k < 0 ∨ (stop : Int) - 1 - k < S k)) : Cq S stop k = (Cq S stop (k + 1 + (S k).toNat)).map (k :: ·) := by rw [Cq, dif_pos h, if_neg hb]
structure Ok (S : Nat -> Int) (n j : Nat) : Prop where
 low : 0 <= S j
 high : j + S j <= (n : Int) - 1
 kids : (Cq S (j + 1 + (S j).toNat) (j + 1)).isSome = true
def A7 (S : Nat -> Int) (j : Nat) : List Nat := (Cq S (j + 1 + (S j).toNat) (j + 1)).getD []
structure Right (S : Nat -> Int) (n : Nat) : Prop where
 pos : 0 < n
 all : S 0 = (n : Int) - 1
 ok : ∀ j, j < n -> Ok S n j
theorem F7 {S : Nat -> Int} {stop : Nat} : ∀ {d k : Nat}, stop - k <= d -> ∀ {l : List Nat}, Cq S stop k = some l -> ∀ x, x ∈ l -> k <= x ∧ x < stop ∧ 0 <= S x ∧ x + S x <= (stop : Int) - 1 := by
 intro d
 induction d with
 | zero =>
  intro k hd l h x hx;rw [Bj (by omega)] at h
  cases h; cases hx
 | succ d ih =>
  intro k hd l h x hx;by_cases hk : k < stop
  ·by_cases hb : S k < 0 ∨ (stop : Int) - 1 - k < S k
   ·rw [Cp hk hb] at h; cases h
   ·rw [Bh hk hb] at h;obtain ⟨m, hm, rfl⟩ := Option.map_eq_some_iff.1 h;rcases List.mem_cons.1 hx with rfl | hx
    ·omega
    ·have := ih (by omega) hm x hx;omega
  ·rw [Bj hk] at h;cases h; cases hx
theorem Hi {S : Nat -> Int} {stop : Nat} : ∀ {d k : Nat}, stop - k <= d -> ∀ {l : List Nat}, Cq S stop k = some l -> ∀ y, k <= y -> y < stop -> ∃ x, x ∈ l ∧ x <= y ∧ (y : Int) <= x + S x := by
 intro d
 induction d with
 | zero => intro k hd l h y h1 h2; omega
 | succ d ih =>
  intro k hd l h y h1 h2;have hk : k < stop := by omega
  by_cases hb : S k < 0 ∨ (stop : Int) - 1 - k < S k
  ·rw [Cp hk hb] at h; cases h
  ·rw [Bh hk hb] at h;obtain ⟨m, hm, rfl⟩ := Option.map_eq_some_iff.1 h;by_cases hy : y < k + 1 + (S k).toNat
   ·exact ⟨k, by simp, h1, by omega⟩
   ·obtain ⟨x, hx, hx1, hx2⟩ := ih (by omega) hm y (by omega) h2;exact ⟨x, by simp [hx], hx1, hx2⟩
theorem X5 {S : Nat -> Int} {stop : Nat} : ∀ {d k : Nat}, stop - k <= d -> ∀ {l : List Nat}, Cq S stop k = some l -> ∀ x y, x ∈ l -> y ∈ l -> x < y -> x + S x < (y : Int) := by
 intro d
 induction d with
 | zero =>
  intro k hd l h x y hx;rw [Bj (by omega)] at h
  cases h; cases hx
 | succ d ih =>
  intro k hd l h x y hx hy hxy;by_cases hk : k < stop
  ·by_cases hb : S k < 0 ∨ (stop : Int) - 1 - k < S k
   ·rw [Cp hk hb] at h; cases h
   ·rw [Bh hk hb] at h;obtain ⟨m, hm, rfl⟩ := Option.map_eq_some_iff.1 h;rcases List.mem_cons.1 hx with rfl | hx
    ·rcases List.mem_cons.1 hy with rfl | hy
     ·omega
     ·have := F7 (Nat.le_refl _) hm y hy;omega
    ·rcases List.mem_cons.1 hy with rfl | hy
     ·have := F7 (Nat.le_refl _) hm x (by assumption);omega
     ·exact ih (by omega) hm x y hx hy hxy
  ·rw [Bj hk] at h;cases h; cases hx
theorem Db {S : Nat -> Int} {n j : Nat} (h : Ok S n j) : Cq S (j + 1 + (S j).toNat) (j + 1) = some (A7 S j) := by
 have := h.kids;unfold A7
 cases hc : Cq S (j + 1 + (S j).toNat) (j + 1) with
 | none => rw [hc] at this; cases this
 | some l => rfl
def a1t (S : Nat -> Int) (y : Nat) : Nat -> Int
 | 0 => -1
 | j + 1 => if (y : Int) - j <= S j then j else a1t S y j
def c1b (S : Nat -> Int) (y : Nat) : Int := a1t S y y
theorem Tq {S : Nat -> Int} {y : Nat} : ∀ {m : Nat} {i : Nat}, a1t S y m = i -> i < m ∧ (y : Int) - i <= S i ∧ ∀ k, i < k -> k < m -> ¬ (y : Int) - k <= S k := by
 intro m
 induction m with
 | zero => intro i h; simp [a1t] at h
 | succ m ih =>
  intro i h;rw [a1t] at h;split at h
  ·rename_i hc;have : m = i := by omega
   subst this;exact ⟨by omega, hc, fun k h1 h2 => by omega⟩
  ·rename_i hc;obtain ⟨a, b, c⟩ := ih h;refine ⟨by omega, b, fun k h1 h2 => ?_⟩;by_cases e : k = m
   ·subst e; exact hc
   ·exact c k h1 (by omega)
theorem b2w {S : Nat -> Int} {y : Nat} : ∀ {m i : Nat}, i < m -> (y : Int) - i <= S i -> (∀ k, i < k -> k < m -> ¬ (y : Int) - k <= S k) -> a1t S y m = i := by
 intro m
 induction m with
 | zero => intro i h; omega
 | succ m ih =>
  intro i h h1 h2;rw [a1t];by_cases e : i = m
  ·subst e; rw [if_pos h1]
  ·rw [if_neg (h2 m (by omega) (by omega))];exact ih (by omega) h1 fun k a b => h2 k a (by omega)
theorem Zz (S : Nat -> Int) (y m : Nat) : a1t S y m = -1 ∨ ∃ i : Nat, a1t S y m = i := by
 induction m with
 | zero => exact .inl rfl
 | succ m ih =>
  rw [a1t];split
  ·exact .inr ⟨m, rfl⟩
  ·exact ih
theorem a17 {S : Nat -> Int} {y : Nat} : ∀ {m : Nat}, a1t S y m = -1 -> ∀ k, k < m -> ¬ (y : Int) - k <= S k := by
 intro m
 induction m with
 | zero => intro _ k hk; omega
 | succ m ih =>
  intro h k hk;rw [a1t] at h;split at h
  ·omega
  ·rename_i hc;by_cases e : k = m
   ·subst e; exact hc
   ·exact ih h k (by omega)
theorem c1t {S : Nat -> Int} {n y : Nat} (hall : S 0 = (n : Int) - 1) (hy0 : 0 < y) (hy : y < n) (hok : ∀ j, j < y -> Ok S n j) : ∃ j : Nat, c1b S y = j ∧ j < y ∧ y ∈ A7 S j ∧ 0 <= S y ∧ y + S y <= j + S j := by
 have hex : ∃ j : Nat, c1b S y = j := by
  rcases Zz S y y with h | h
  ·have := a17 h 0 hy0;omega
  ·exact h
 obtain ⟨j, hj⟩ := hex;obtain ⟨a, b, c⟩ := Tq hj;have ok := hok j a;have hk := Db ok;have hl := ok.low;obtain ⟨x, hx, hx1, hx2⟩ := Hi (Nat.le_refl _) hk y (by omega) (by omega);have hm := F7 (Nat.le_refl _) hk x hx;by_cases e : x = y
 ·subst e;exact ⟨j, hj, a, hx, hm.2.2.1, by omega⟩
 ·exact absurd (by omega) (c x (by omega) (by omega))
theorem a2g {S : Nat -> Int} {n y : Nat} (hall : S 0 = (n : Int) - 1) (hy : y < n) (hok : ∀ j, j < y -> Ok S n j) : 0 <= S y ∧ y + S y <= (n : Int) - 1 := by
 by_cases h0 : 0 < y
 ·obtain ⟨j, _, h1, _, h2, h3⟩ := c1t hall h0 hy hok;have := (hok j h1).high;exact ⟨h2, by omega⟩
 ·obtain rfl : y = 0 := by omega
  omega
theorem Right.kid_iff {S : Nat -> Int} {n : Nat} (h : Right S n) {i y : Nat} (hi : i < n) (hy : y < n) : y ∈ A7 S i ↔ c1b S y = i := by
 constructor
 ·intro hm;have hk := Db (h.ok i hi);have hl := (h.ok i hi).low;have hr := F7 (Nat.le_refl _) hk y hm;refine b2w (by omega) (by omega) fun k h1 h2 h3 => ?_
  obtain ⟨x, hx, hx1, hx2⟩ := Hi (Nat.le_refl _) hk k (by omega) (by omega);have hne : x < y := by omega
  have := X5 (Nat.le_refl _) hk x y hx hm hne;have ok := h.ok k (by omega)
  have key : ∀ d x, k - x <= d -> x <= k -> x < n -> (k : Int) <= x + S x -> k + S k <= x + S x := by
   intro d
   induction d with
   | zero => intro x h4 h5 h6 h7; have : x = k := by omega
             subst this; exact Int.le_refl _
   | succ d ih =>
    intro x h4 h5 h6 h7;by_cases e : x = k
    ·subst e; exact Int.le_refl _
    ·have okx := h.ok x h6;have lx := okx.low;have hkx := Db okx;obtain ⟨z, hz, hz1, hz2⟩ := Hi (Nat.le_refl _) hkx k (by omega) (by omega);have hzm := F7 (Nat.le_refl _) hkx z hz;have := ih z (by omega) hz1 (by omega) hz2;omega
  have := key _ x (Nat.le_refl _) hx1 (by omega) hx2;omega
 ·intro hu;obtain ⟨a, b, c⟩ := Tq hu;obtain ⟨j, hj, _, hm, _⟩ := c1t h.all (by omega) hy fun j hj => h.ok j (by omega)
  have : j = i := by omega
  subst this; exact hm
theorem Right.up_some {S : Nat -> Int} {n : Nat} (h : Right S n) {y : Nat} (h0 : 0 < y) (hy : y < n) : ∃ j : Nat, c1b S y = j ∧ j < y := by
 obtain ⟨j, hj, h1, _⟩ := c1t h.all h0 hy fun j hj => h.ok j (by omega)
 exact ⟨j, hj, h1⟩
theorem Right.kid_lt {S : Nat -> Int} {n : Nat} (h : Right S n) {i y : Nat} (hi : i < n) (hm : y ∈ A7 S i) : i < y ∧ y < n := by
 have hk := Db (h.ok i hi);have hr := F7 (Nat.le_refl _) hk y hm;have := (h.ok i hi).high;have := (h.ok i hi).low;omega
def Hm (S : Nat -> Int) (n k : Nat) : Prop := 0 <= S k ∧ k + S k <= (n : Int) - 1 ∧ ∀ j : Nat, k <= j -> (j : Int) <= k + S k -> Ok S n j
theorem Oz {S : Nat -> Int} {n : Nat} : Right S n ↔ 0 < n ∧ Hm S n 0 ∧ 1 + S 0 = n := by
 constructor
 ·intro h;have := h.all;have := h.pos;exact ⟨h.pos, ⟨by omega, by omega, fun j _ hj => h.ok j (by omega)⟩, by omega⟩
 ·rintro ⟨h1, ⟨h2, h3, h4⟩, h5⟩;exact ⟨h1, by omega, fun j hj => h4 j (by omega) (by omega)⟩
theorem Hm.kid {S : Nat -> Int} {n k x : Nat} (h : Hm S n k) (hx : x ∈ A7 S k) : Hm S n x := by
 obtain ⟨h1, h2, h3⟩ := h;have hk := Db (h3 k (Nat.le_refl _) (by omega));have hm := F7 (Nat.le_refl _) hk x hx;exact ⟨hm.2.2.1, by omega, fun j a b => h3 j (by omega) (by omega)⟩
theorem a7f {S : Nat -> Int} {n k : Nat} (h1 : 0 <= S k) (h2 : k + S k <= (n : Int) - 1) {l : List Nat} (hk : Cq S (k + 1 + (S k).toNat) (k + 1) = some l) (hw : ∀ x, x ∈ l -> Hm S n x) : Hm S n k := by
 refine ⟨h1, h2, fun j a b => ?_⟩;by_cases e : j = k
 ·subst e; exact ⟨h1, h2, by rw [hk]; rfl⟩
 ·obtain ⟨x, hx, hx1, hx2⟩ := Hi (Nat.le_refl _) hk j (by omega) (by omega);exact (hw x hx).2.2 j hx1 hx2
def a63 (S : Nat -> Int) (n at_ k : Nat) : Prop := ∃ l : List Nat, (∀ x, x ∈ l -> Hm S n x) ∧ at_ + 1 <= k ∧ Cq S (at_ + 1 + (S at_).toNat) (at_ + 1) = (Cq S (at_ + 1 + (S at_).toNat) k).map (l ++ ·)
theorem a63.start (S : Nat -> Int) (n at_ : Nat) : a63 S n at_ (at_ + 1) := ⟨[], by simp, Nat.le_refl _, by simp⟩
theorem a63.step {S : Nat -> Int} {n at_ k : Nat} (h : a63 S n at_ k) (h1 : k < at_ + 1 + (S at_).toNat) (hw : Hm S n k) (hb : ¬ (((at_ + 1 + (S at_).toNat : Nat) : Int) - 1 - k < S k)) : a63 S n at_ (k + 1 + (S k).toNat) := by
 obtain ⟨l, h2, h3, h4⟩ := h;refine ⟨l ++ [k], ?_, by omega, ?_⟩
 ·intro x hx;rcases List.mem_append.1 hx with hx | hx
  ·exact h2 x hx
  ·obtain rfl : x = k := by simpa using hx
   exact hw
 ·rw [h4, Bh h1 (by have := hw.1; omega)];cases Cq S (at_ + 1 + (S at_).toNat) (k + 1 + (S k).toNat) <;> simp
theorem a63.done {S : Nat -> Int} {n at_ k : Nat} (h : a63 S n at_ k) (h1 : 0 <= S at_) (h2 : at_ + S at_ <= (n : Int) - 1) (hk : k = at_ + 1 + (S at_).toNat) : Hm S n at_ := by
 obtain ⟨l, h3, h4, h5⟩ := h;rw [Bj (k := k) (by omega)] at h5;exact a7f h1 h2 (l := l) (by simpa using h5) h3
theorem a63.kid {S : Nat -> Int} {n at_ k : Nat} (h : a63 S n at_ k) (hw : Hm S n at_) (h1 : k < at_ + 1 + (S at_).toNat) : Hm S n k ∧ ¬ (((at_ + 1 + (S at_).toNat : Nat) : Int) - 1 - k < S k) := by
 obtain ⟨l, h3, h4, h5⟩ := h;have ok := hw.2.2 at_ (Nat.le_refl _) (by have := hw.1; omega);have hk := Db ok;rw [h5] at hk;by_cases hb : S k < 0 ∨ ((at_ + 1 + (S at_).toNat : Nat) : Int) - 1 - k < S k
 ·rw [Cp h1 hb] at hk; cases hk
 ·refine ⟨?_, by omega⟩;rw [Bh h1 hb] at hk;refine hw.kid (x := k) ?_
  cases hc : Cq S (at_ + 1 + (S at_).toNat) (k + 1 + (S k).toNat) with
  | none => rw [hc] at hk; cases hk
  | some m => rw [hc] at hk; simp at hk; rw [<- hk]; simp
end
section
open Go.RowKit
def ltr (c : UInt8) : UInt8 × Bool := if c = 34 ∨ c = 92 then (c, true) else if c = 10 then (110, true) else if c = 9 then (116, true) else (0, false)
theorem Ky (c : UInt8) (w : World) : Calls prog 201 #[byt c] w fun e w' => e = .returned (.tuple #[byt (ltr c).1, .bool (ltr c).2]) ∧ w = w' := by
 by_cases h1 : c = 34
 ·subst h1;go_enter func201, ntmps201;go_wp2
  go_ret2
  exact ⟨rfl, rfl⟩
 by_cases h2 : c = 92
 ·subst h2;go_enter func201, ntmps201;go_wp2
  go_ret2
  exact ⟨rfl, rfl⟩
 by_cases h3 : c = 10
 ·subst h3;go_enter func201, ntmps201;go_wp2
  go_ret2
  exact ⟨rfl, rfl⟩
 by_cases h4 : c = 9
 ·subst h4;go_enter func201, ntmps201;go_wp2
  go_ret2
  exact ⟨rfl, rfl⟩
 have H := zz (show ltr c = (0, false) by simp [ltr, h1, h2, h3, h4]);have e1 := Av (n := 34) (by decide) h1;have e2 := Av (n := 92) (by decide) h2;have e3 := Av (n := 10) (by decide) h3;have e4 := Av (n := 9) (by decide) h4;clear h1 h2 h3 h4;go_enter func201, ntmps201;go_wp2
 go_ret2
 rw [H.out];exact ⟨rfl, rfl⟩
theorem b79 (c : UInt8) : (∃ l, ltr c = (l, true) ∧ esc c = [92, l]) ∨ (ltr c = (0, false) ∧ wth c = true ∧ esc c = [c]) ∨
  (ltr c = (0, false) ∧ wth c = false ∧ esc c = [92, 120, hx (c.toNat / 16), hx (c.toNat % 16)]) := by
 by_cases h1 : c = 34
 ·subst h1; exact .inl ⟨34, rfl, rfl⟩
 by_cases h2 : c = 92
 ·subst h2; exact .inl ⟨92, rfl, rfl⟩
 by_cases h3 : c = 10
 ·subst h3; exact .inl ⟨110, rfl, rfl⟩
 by_cases h4 : c = 9
 ·subst h4; exact .inl ⟨116, rfl, rfl⟩
 have hl : ltr c = (0, false) := by simp [ltr, h1, h2, h3, h4]
 by_cases h5 : c.toNat < 32 ∨ 126 < c.toNat
 ·exact .inr (.inr ⟨hl, by simp [wth]; omega, by simp [esc, h1, h2, h3, h4, h5]⟩)
 ·exact .inr (.inl ⟨hl, by simp [wth]; omega, by simp [esc, h1, h2, h3, h4]; omega⟩)
theorem Wv (c : UInt8) (w : World) : Calls prog 200 #[byt c] w fun e w' => e = .returned (.int .i64 ((esc c).length : Nat)) ∧ w = w' := by
 have HL := zz (fun w => Ky c w);have HW := zz (fun w => Kp c w);rcases b79 c with ⟨l, h1, h3⟩ | ⟨h1, h2, h3⟩ | ⟨h1, h2, h3⟩
 ·rw [h3];rw [h1] at HL;clear h1 h3;go_enter func200, ntmps200;go_wp2_with fail;refine (HL.out _).mono ?_;rintro e w' ⟨rfl, rfl⟩;go_wp2;go_ret;exact ⟨rfl, rfl⟩
 ·rw [h3];rw [h1] at HL;rw [h2] at HW;clear h1 h2 h3;go_enter func200, ntmps200;go_wp2_with fail;refine (HL.out _).mono ?_;rintro e w' ⟨rfl, rfl⟩;go_wp2_with fail;refine (HW.out _).mono ?_;rintro e w' ⟨rfl, rfl⟩;go_wp2;go_ret;exact ⟨rfl, rfl⟩
 ·rw [h3];rw [h1] at HL;rw [h2] at HW;clear h1 h2 h3;go_enter func200, ntmps200;go_wp2_with fail;refine (HL.out _).mono ?_;rintro e w' ⟨rfl, rfl⟩;go_wp2_with fail;refine (HW.out _).mono ?_;rintro e w' ⟨rfl, rfl⟩;go_wp2;go_ret;exact ⟨rfl, rfl⟩
end
section
open Go.RowKit
def M1 (w : World) (a : Option Addr) (ks : List Nat) : Prop := ∀ i, i < ks.length -> ∃ g o, a = some ⟨g, o, none⟩ ∧ w.cell? ⟨g, o + i, none⟩ = some (.int .u8 (ks.getD i 0 : Nat)) ∧ ks.getD i 0 < 256
theorem M1.carry {w w' : World} {a : Option Addr} {ks : List Nat} (h : M1 w a ks) (hb : Below w.heap.size w w') : M1 w' a ks := fun i hi => by
 obtain ⟨g, o, h1, h2, h3⟩ := h i hi;exact ⟨g, o, h1, Ac hb h2, h3⟩
def KT (w : World) (v : Value) (p : Nat -> Bool) : Prop := ∃ f caps, v = .func (.func f) #[] caps ∧ (∀ args w, (callFunc f args).run prog w = .ok (.enter f args) w) ∧
 ∀ w', Below w.heap.size w w' -> ∀ c : Nat, c < 256 -> ∀ q, p c = q -> Calls prog f (#[.int .u8 (c : Nat)] ++ caps) w' fun e w'' => e = .returned (.bool q) ∧ w' = w''
theorem KT.carry {w w' : World} {v : Value} {p : Nat -> Bool} (h : KT w v p) (hb : Below w.heap.size w w') : KT w' v p := by
 obtain ⟨f, caps, h1, h2, h3⟩ := h;exact ⟨f, caps, h1, h2, fun w2 h => h3 w2 (Ab hb h)⟩
def RT (w : World) (v : Value) (p : List Nat -> Bool) : Prop := ∃ f caps, v = .func (.func f) #[] caps ∧ (∀ args w, (callFunc f args).run prog w = .ok (.enter f args) w) ∧
 ∀ w', Below w.heap.size w w' -> ∀ (g o n cap : Nat) (ks : List Nat), ks.length = n -> n <= cap -> cap <= 1000000 -> M1 w' (some ⟨g, o, none⟩) ks -> ∀ q, p ks = q -> Calls prog f (#[.slice (some ⟨g, o, none⟩) n cap] ++ caps) w' fun e w'' => e = .returned (.bool q) ∧ Below w'.heap.size w' w''
theorem RT.carry {w w' : World} {v : Value} {p : List Nat -> Bool} (h : RT w v p) (hb : Below w.heap.size w w') : RT w' v p := by
 obtain ⟨f, caps, h1, h2, h3⟩ := h;exact ⟨f, caps, h1, h2, fun w2 h => h3 w2 (Ab hb h)⟩
def Dt (k : Nat) : Bool := decide (7 <= k ∧ k <= 13)
def Ck (k : Nat) : Bool := decide (15 <= k ∧ k <= 20)
def Fi (k : Nat) : Bool := decide (14 <= k ∧ k <= 20)
def Am (k : Nat) : Bool := decide (21 <= k ∧ k <= 32)
theorem Px (c : Nat) (hc : c < 256) (w : World) (q : Bool) (hq : Dt c = q) : Calls prog 78 #[.int .u8 (c : Nat)] w fun e w' => e = .returned (.bool q) ∧ w = w' := by
 subst hq;by_cases a1 : 7 <= c
 ·by_cases a2 : c <= 13
  ·rw [show Dt c = true by simp [Dt, a1, a2]];have b1 : (7 : Int) <= c := by omega
   have b2 : (c : Int) <= 13 := by omega
   go_enter func78, ntmps78;go_wp2;go_ret;exact ⟨rfl, rfl⟩
  ·rw [show Dt c = false by simp [Dt, a2]];have b1 : (7 : Int) <= c := by omega
   have b2 : decide ((c : Int) <= 13) = false := by simp; omega
   go_enter func78, ntmps78;go_wp2;go_ret;exact ⟨rfl, rfl⟩
 ·rw [show Dt c = false by simp [Dt, a1]];have b1 : ¬ (7 : Int) <= c := by omega
  go_enter func78, ntmps78;go_wp2;go_ret;exact ⟨rfl, rfl⟩
theorem N4 (c : Nat) (hc : c < 256) (w : World) (q : Bool) (hq : Am c = q) : Calls prog 79 #[.int .u8 (c : Nat)] w fun e w' => e = .returned (.bool q) ∧ w = w' := by
 subst hq;by_cases a1 : 21 <= c
 ·by_cases a2 : c <= 32
  ·rw [show Am c = true by simp [Am, a1, a2]];have b1 : (21 : Int) <= c := by omega
   have b2 : (c : Int) <= 32 := by omega
   go_enter func79, ntmps79;go_wp2;go_ret;exact ⟨rfl, rfl⟩
  ·rw [show Am c = false by simp [Am, a2]];have b1 : (21 : Int) <= c := by omega
   have b2 : decide ((c : Int) <= 32) = false := by simp; omega
   go_enter func79, ntmps79;go_wp2;go_ret;exact ⟨rfl, rfl⟩
 ·rw [show Am c = false by simp [Am, a1]];have b1 : ¬ (21 : Int) <= c := by omega
  go_enter func79, ntmps79;go_wp2;go_ret;exact ⟨rfl, rfl⟩
theorem Rw (c : Nat) (hc : c < 256) (w : World) (q : Bool) (hq : Ck c = q) : Calls prog 75 #[.int .u8 (c : Nat)] w fun e w' => e = .returned (.bool q) ∧ w = w' := by
 subst hq;by_cases a1 : 15 <= c
 ·by_cases a2 : c <= 20
  ·rw [show Ck c = true by simp [Ck, a1, a2]];have b1 : (14 : Int) < c := by omega
   have b2 : (c : Int) <= 20 := by omega
   go_enter func75, ntmps75;go_wp2;go_ret;exact ⟨rfl, rfl⟩
  ·rw [show Ck c = false by simp [Ck, a2]];have b1 : (14 : Int) < c := by omega
   have b2 : decide ((c : Int) <= 20) = false := by simp; omega
   go_enter func75, ntmps75;go_wp2;go_ret;exact ⟨rfl, rfl⟩
 ·rw [show Ck c = false by simp [Ck, a1]];have b1 : ¬ (14 : Int) < c := by omega
  go_enter func75, ntmps75;go_wp2;go_ret;exact ⟨rfl, rfl⟩
theorem Vg (c : Nat) (hc : c < 256) (w : World) (q : Bool) (hq : Fi c = q) : Calls prog 77 #[.int .u8 (c : Nat)] w fun e w' => e = .returned (.bool q) ∧ w = w' := by
 subst hq;have HT := zz (Rw c hc w);by_cases a1 : c = 14
 ·rw [show Fi c = true by simp [Fi, a1]];have b1 : ((c : Int) == 14) = true := by rw [a1]; rfl
  clear a1;go_enter func77, ntmps77;go_wp2_with fail;go_ret;exact ⟨rfl, rfl⟩
 ·have e : Ck c = Fi c := by unfold Ck Fi; rw [decide_eq_decide]; omega
  have b1 : ((c : Int) == 14) = false := by rw [beq_eq_false_iff_ne]; omega
  clear a1;replace e := zz e;generalize Fi c = q at e;go_enter func77, ntmps77;go_wp2_with (go_at_call 75; refine (HT.out q e.out).mono ?_; rintro e w' ⟨rfl, rfl⟩);go_ret;exact ⟨rfl, rfl⟩
theorem Og {f : FuncId} {p : Nat -> Bool} (eg : ∀ args w, (callFunc f args).run prog w = .ok (.enter f args) w) (h : ∀ c : Nat, c < 256 -> ∀ w q, p c = q -> Calls prog f #[.int .u8 (c : Nat)] w fun e w' => e = .returned (.bool q) ∧ w = w') (w : World) : KT w (.func (.func f) #[] #[]) p :=
 ⟨f, #[], rfl, eg, fun w' _ c hc q hq => h c hc w' q hq⟩
theorem b3m (w : World) : KT w (.func (.func 78) #[] #[]) Dt := Og (by intro args w; simp [go_sem]) Px w
theorem Kk (w : World) : KT w (.func (.func 79) #[] #[]) Am := Og (by intro args w; simp [go_sem]) N4 w
theorem b1v (w : World) : KT w (.func (.func 75) #[] #[]) Ck := Og (by intro args w; simp [go_sem]) Rw w
theorem b8h (w : World) : KT w (.func (.func 77) #[] #[]) Fi := Og (by intro args w; simp [go_sem]) Vg w
theorem a43 (a : Option Addr) (n cap : Nat) (ks : List Nat) (c : Nat) (w : World) (hn : Hid (ks.length = n)) (hl : n <= 1000000) (hr : Hid (M1 w a ks)) (q : Bool) (hq : Hid (ks.contains c = q)) :
  Calls prog 150 #[.slice a n cap, .int .u8 (c : Nat)] w fun e w' => (∃ z : Int, e = .returned (.int .i64 z) ∧ decide (0 <= z) = q) ∧ w = w' := by
 go_enter func150, ntmps150;go_wp2_with fail
 go_loop [8] (fun j => ∃ k : Nat, k <= n ∧ j = .int .i64 k ∧ ∀ k', k' < k -> ks.getD k' 0 ≠ c) (fun j => n - (intOf j).toNat)
 case atStart => exact ⟨0, Nat.zero_le _, rfl, fun k' h => absurd h (by omega)⟩
 case round =>
  obtain ⟨k, hk, rfl, hne⟩ := hrel;replace hne := zz hne;by_cases hlt : k < n
  ·obtain ⟨g, o, rfl, hc, hk2⟩ := hr.out k (by rw [hn.out]; exact hlt);obtain ⟨d, hd⟩ : ∃ d, ks.getD k 0 = d := ⟨_, rfl⟩;rw [hd] at hc hk2;by_cases hcd : c = d
   ·have hq' : q = true := by
     rw [<- hq.out, List.contains_iff_mem, hcd, <- hd];have hkl : k < ks.length := by rw [hn.out]; exact hlt
     simp [List.getD, hkl]
    subst hq';have e1 : ((c : Int) == (d : Int)) = true := by rw [hcd]; simp
    clear hcd hd;go_wp2_with fail;go_ret;exact ⟨⟨_, rfl, by simp⟩, rfl⟩
   ·have e1 : ((c : Int) == (d : Int)) = false := by rw [beq_eq_false_iff_ne]; omega
    have HN := zz (show ∀ k', k' < k + 1 -> ks.getD k' 0 ≠ c from fun k' h => by
     by_cases e : k' = k
     ·subst e; rw [hd]; exact fun e => hcd e.symm
     ·exact hne.out k' (by omega))
    clear hcd hd;go_wp2_with fail
    go_round
    case rel => exact ⟨k + 1, hlt, by go_num, HN.out⟩
    case measure => simp [intOf]; omega
  ·have hq' : q = false := by
    rw [<- hq.out, Bool.eq_false_iff];intro h;rw [List.contains_iff_mem] at h;obtain ⟨i, hi, he⟩ := List.getElem_of_mem h;exact hne.out i (by rw [hn.out] at hi; omega) (by simp [List.getD, hi, he])
   subst hq';go_wp2_with fail;go_ret;exact ⟨⟨_, rfl, by decide⟩, rfl⟩
theorem Vs (a : Option Addr) (n cap : Nat) (ks : List Nat) (c : Nat) (w : World) (hn : ks.length = n) (hl : n <= 1000000) (hr : M1 w a ks) (q : Bool) (hq : ks.contains c = q) :
  Calls prog 109 #[.slice a n cap, .int .u8 (c : Nat)] w fun e w' => e = .returned (.bool q) ∧ w = w' := by
 have H := zz (a43 a n cap ks c w (zz hn) hl (zz hr) q (zz hq));clear hn hr hq;go_enter func109, ntmps109;go_wp2_with fail;refine H.out.mono ?_;rintro e w' ⟨⟨z, rfl, hz⟩, rfl⟩;go_wp2_with fail;go_ret;exact ⟨rfl, rfl⟩
theorem b4z (b : Nat) (a : Option Addr) (n cap : Nat) (ks : List Nat) (c : Nat) (w : World) (hn : ks.length = n) (hl : n <= 1000000) (hr : M1 w a ks) (hb : w.cell? ⟨b, 0, none⟩ = some (.slice a n cap)) (q : Bool) (hq : ks.contains c = q) :
  Calls prog 108 #[.int .u8 (c : Nat), .pointer (some ⟨b, 0, none⟩)] w fun e w' => e = .returned (.bool q) ∧ w = w' := by
 have H := zz (Vs a n cap ks c w hn hl hr q hq);clear hn hr hq;go_enter func108, ntmps108;go_wp2_with (go_at_call 109; refine H.out.mono ?_; rintro e w' ⟨rfl, rfl⟩);go_ret;exact ⟨rfl, rfl⟩
theorem Mo (a : Option Addr) (n cap : Nat) (ks : List Nat) (w : World) (hn : ks.length = n) (hl : n <= 1000000) (hr : M1 w a ks) :
  Calls prog 72 #[.slice a n cap] w fun e w' => ∃ v, e = .returned v ∧ KT w' v ks.contains ∧ Below w.heap.size w w' := by
 have HK : Hid (KT (w.alloc (.cells #[.slice a n cap] 58)) (.func (.func 108) #[] #[.pointer (some ⟨w.heap.size, 0, none⟩)]) ks.contains) := zz
  ⟨108, _, rfl, by intro args w; simp [go_sem], fun w' hb c _ q hq => b4z w.heap.size a n cap ks c w' hn hl ((hr.carry (Aa _ _)).carry hb) (Ac hb (by simp [go_sem])) q hq⟩
 clear hn hr;go_enter func72, ntmps72;go_wp2_with fail;go_ret;exact ⟨_, rfl, HK.out, Aa _ _⟩
theorem a5u (b : Nat) (v : Value) (p : Nat -> Bool) (w : World) (hk : Hid (KT w v p)) (hb : w.cell? ⟨b, 0, none⟩ = some v) (a : Option Addr) (n cap : Nat) (ks : List Nat) (hn : Hid (ks.length = n)) (hl : n <= 1000000) (hr : Hid (M1 w a ks)) (q : Bool) (hq : Hid (ks.all p = q)) :
  Calls prog 110 #[.slice a n cap, .pointer (some ⟨b, 0, none⟩)] w fun e w' => e = .returned (.bool q) ∧ w = w' := by
 obtain ⟨f, caps, rfl, eg, hc⟩ := hk.out;clear hk;replace hc := zz hc;go_enter func110, ntmps110;go_wp2_with fail
 go_loop [8] (fun j => ∃ k : Nat, k <= n ∧ j = .int .i64 k ∧ ∀ k', k' < k -> p (ks.getD k' 0) = true) (fun j => n - (intOf j).toNat)
 case atStart => exact ⟨0, Nat.zero_le _, rfl, fun k' h => absurd h (by omega)⟩
 case round =>
  obtain ⟨k, hk, rfl, hall⟩ := hrel;replace hall := zz hall;by_cases hlt : k < n
  ·obtain ⟨g, o, rfl, hcell, hk2⟩ := hr.out k (by rw [hn.out]; exact hlt);have hkl : k < ks.length := by rw [hn.out]; exact hlt
   obtain ⟨d, hd⟩ : ∃ d, ks.getD k 0 = d := ⟨_, rfl⟩;rw [hd] at hcell hk2;have HC := zz (hc.out w (Below.refl _ _) d hk2)
   cases hp : p d with
   | true =>
    have HN := zz (show ∀ k', k' < k + 1 -> p (ks.getD k' 0) = true from fun k' h => by
     by_cases e : k' = k
     ·subst e; rw [hd]; exact hp
     ·exact hall.out k' (by omega))
    replace hp := zz hp;clear hd;go_wp2_with fail;refine (HC.out true hp.out).mono ?_;rintro e w' ⟨rfl, rfl⟩;go_wp2_with fail
    go_round
    case rel => exact ⟨k + 1, hlt, by go_num, HN.out⟩
    case measure => simp [intOf]; omega
   | false =>
    have hq' : q = false := by
     rw [<- hq.out, List.all_eq_false];exact ⟨d, by rw [<- hd]; simp [List.getD, hkl], by simp [hp]⟩
    subst hq';replace hp := zz hp;clear hd;go_wp2_with fail;refine (HC.out false hp.out).mono ?_;rintro e w' ⟨rfl, rfl⟩;go_wp2_with fail;go_ret;exact ⟨rfl, rfl⟩
  ·have hq' : q = true := by
    rw [<- hq.out, List.all_eq_true];intro c hc;obtain ⟨i, hi, rfl⟩ := List.getElem_of_mem hc;have := hall.out i (by rw [hn.out] at hi; omega);simpa [List.getD, hi] using this
   subst hq';go_wp2_with fail;go_ret;exact ⟨rfl, rfl⟩
theorem Jh (v : Value) (p : Nat -> Bool) (w : World) (hk : KT w v p) :
  Calls prog 73 #[v] w fun e w' => ∃ v', e = .returned v' ∧ RT w' v' (fun ks => ks.all p) ∧ Below w.heap.size w w' := by
 have HK : Hid (RT (w.alloc (.cells #[v] 96)) (.func (.func 110) #[] #[.pointer (some ⟨w.heap.size, 0, none⟩)]) (fun ks => ks.all p)) := zz
  ⟨110, _, rfl, by intro args w; simp [go_sem], fun w' hb g o n cap ks h1 h2 h3 h4 q hq => Eh (a5u w.heap.size v p w' (zz ((hk.carry (Aa _ _)).carry hb)) (Ac hb (by simp [go_sem])) _ n cap ks (zz h1) (by omega) (zz h4) q (zz hq))⟩
 obtain ⟨f, caps, rfl, _⟩ := hk;go_enter func73, ntmps73;go_wp2_with fail;go_ret;exact ⟨_, rfl, HK.out, Aa _ _⟩
end
section
open Go.RowKit
def Dq (l : List Nd) : Nat -> Nat
 | 0 => 0
 | k + 1 => Dq l k + (1 + min (nd l k).text.size 5000)
theorem a4l (l : List Nd) (k : Nat) : k <= Dq l k := by
 induction k with
 | zero => exact Nat.zero_le _
 | succ k ih => rw [Dq]; omega
theorem Ps (l : List Nd) {i k : Nat} (h : i <= k) : Dq l i <= Dq l k := by
 induction k with
 | zero => obtain rfl : i = 0 := by omega
           exact Nat.le_refl _
 | succ k ih =>
  by_cases e : i = k + 1
  ·subst e; exact Nat.le_refl _
  ·have := ih (by omega);rw [Dq]; omega
theorem Rr {l : List Nd} (h : ¬ ∃ k, k <= l.length ∧ 4000 < Dq l k) : l.length <= 4000 ∧ ∀ i, i < l.length -> (nd l i).text.size <= 4000 := by
 have hall : Dq l l.length <= 4000 := Nat.le_of_not_lt fun hh => h ⟨_, Nat.le_refl _, hh⟩
 refine ⟨Nat.le_trans (a4l l _) hall, fun i hi => ?_⟩;have := Ps l (i := i + 1) (k := l.length) hi;rw [Dq] at this;omega
theorem Y8 (a : Option Addr) (n cap : Nat) (l : List Nd) (w : World) (hn : Hid (l.length = n)) (hl : n <= 9223372036854775807) (hr : Hid (Row w a l)) (p : Bool) (hp : Hid ((∃ k, k <= n ∧ 4000 < Dq l k) ↔ p = true)) :
  Calls prog 8 #[.slice a n cap] w fun e w' => e = .returned (.bool p) ∧ w = w' := by
 go_enter func8, ntmps8;go_wp2_with fail
 go_loop [3, 7] (fun s j => ∃ k : Nat, k <= n ∧ j = .int .i64 k ∧ s = .int .i64 (Dq l k : Nat) ∧ Dq l k <= 4000) (fun _ j => n - (intOf j).toNat)
 case atStart => exact ⟨0, Nat.zero_le _, rfl, rfl, Nat.zero_le _⟩
 case round =>
  obtain ⟨k, hk, rfl, rfl, hm⟩ := hrel;by_cases hlt : k < n
  ·obtain ⟨b, o, rfl, hat, hwf⟩ := hr.out k (by rw [hn.out]; exact hlt);have c5 := hat.c5;have hst : Dq l (k + 1) = Dq l k + (1 + min (nd l k).text.size 5000) := rfl;have htl := hwf.text;unfold maxLen at htl;obtain ⟨tx, htx⟩ : ∃ tx, (nd l k).text = tx := ⟨_, rfl⟩;rw [htx] at c5 hst htl;obtain ⟨M, hM⟩ : ∃ M, Dq l k = M := ⟨_, rfl⟩;obtain ⟨M', hM'⟩ : ∃ M', Dq l (k + 1) = M' := ⟨_, rfl⟩;rw [hM] at hm hst ⊢;rw [hM'] at hst;by_cases ht : tx.size <= 5000
   ·have ht' : (tx.size : Int) <= 5000 := by omega
    by_cases hg : 4000 < M'
    ·have hp' : p = true := hp.out.1 ⟨k + 1, hlt, by rw [hM']; exact hg⟩;subst hp';have g1 : (4000 : Int) < (M : Int) + (1 + (tx.size : Int)) := by omega
     clear hM hM' hst hg;go_wp2_with fail;go_ret;exact ⟨rfl, rfl⟩
    ·have g1 : ¬ (4000 : Int) < (M : Int) + (1 + (tx.size : Int)) := by omega
     have HM := zz hM';have hst2 : (M : Int) + (1 + (tx.size : Int)) = (M' : Nat) := by omega
     replace hst2 := zz hst2;clear hM hM' hst;go_wp2_with fail
     go_round
     case rel => exact ⟨k + 1, hlt, by go_num, by rw [HM.out, <- hst2.out]; try rfl, by rw [HM.out]; omega⟩
     case measure => simp [intOf]; omega
   ·have ht' : ¬ (tx.size : Int) <= 5000 := by omega
    have hg : 4000 < M' := by omega
    have hp' : p = true := hp.out.1 ⟨k + 1, hlt, by rw [hM']; exact hg⟩;subst hp';have g1 : decide ((4000 : Int) < (M : Int) + 5001) = true := by simp; omega
    have g2 : (4000 : Int) < (M : Int) + 5001 := by omega
    clear hM hM' hst hg ht;go_wp2_with fail;go_ret;exact ⟨rfl, rfl⟩
  ·have hp' : p = false := by
    cases p with
    | false => rfl
    | true =>
     obtain ⟨j, hj, hj2⟩ := hp.out.2 rfl;have := Ps l (i := j) (k := k) (by omega);omega
   subst hp';clear hm;go_wp2_with fail;go_ret;exact ⟨rfl, rfl⟩
end
end Go.Proofs.YtoaplbljflhheaaGreat
