/-
 Contracts and plain facts on the way to PrettyWrites. Conditions: as each says.
-/
import Derived.Test.YtoaplbljflhheaaGreatWaj
set_option maxHeartbeats 40000000
set_option maxRecDepth 100000
set_option linter.unusedVariables false
set_option linter.unusedSimpArgs false
namespace Go.Proofs.YtoaplbljflhheaaGreat
def opS (op : Int) : List UInt8 × Nat :=
 if op = 15 then ([124, 124], 1) else if op = 14 then ([38, 38], 2) else if op = 6 then ([61, 61], 3) else if op = 7 then ([33, 61], 3)
 else if op = 8 then ([60], 4) else if op = 9 then ([60, 61], 4) else if op = 10 then ([62], 4) else if op = 11 then ([62, 61], 4)
 else if op = 1 then ([43], 5) else if op = 2 then ([45], 5) else if op = 3 then ([42], 6) else if op = 4 then ([47], 6) else if op = 5 then ([37], 6)
 else if op = 12 then ([45], 7) else if op = 13 then ([33], 7) else ([], 0)
def lvl (i : Inf) : Nat := if i.kind = 30 ∨ i.kind = 31 then (opS i.num).2 else 8
abbrev Tx := Inf × List UInt8
def b47 : Inf := ⟨0, 0, 0, 0, []⟩
def kth (ks : List Tx) (j : Nat) : Tx := ks.getD j (b47, [])
def brk (m : Nat) (x : Tx) : List UInt8 := if lvl x.1 < m then 40 :: (x.2 ++ [41]) else x.2
def Fx (n : Nat) : Nat := if n = 3 ∨ n = 4 then n + 1 else n
def Ba : List Tx → List UInt8
 | [] => []
 | x :: l => x.2 ++ l.flatMap fun y => [44, 32] ++ y.2
def nl (n : Nat) : List UInt8 := 10 :: List.replicate n 9
def lines (n : Nat) (ks : List Tx) : List UInt8 := [123] ++ (ks.flatMap fun x => nl (n + 1) ++ x.2) ++ nl n ++ [125]
def Hx (i : Inf) : List UInt8 :=
 if i.kind = 21 then Nm.dec i.num.toNat else if i.kind = 22 then Nm.dec i.num.toNat ++ [105] else if i.kind = 23 then lit i.text
 else if i.kind = 24 then (if i.num = 0 then [102, 97, 108, 115, 101] else [116, 114, 117, 101]) else if i.kind = 25 then [110, 105, 108] else i.text
def Qm (i : Inf) (ks : List Tx) : List UInt8 :=
 if i.kind = 15 then [105, 110, 116] else if i.kind = 16 then [98, 111, 111, 108] else if i.kind = 17 then [115, 116, 114] else if i.kind = 18 then [99, 111, 109, 112]
 else if i.kind = 19 then i.text else [91] ++ (kth ks 0).2 ++ [93]
def Fe (n : Nat) (i : Inf) (ks : List Tx) : List UInt8 := match i.kind with
 | 1 => ks.flatMap fun x => x.2 ++ [10]
 | 2 => [114, 101, 99, 32] ++ i.text ++ [32] ++ lines n ks
 | 3 => i.text ++ [58, 32] ++ (kth ks 0).2 ++ [59]
 | 4 => [102, 110, 32] ++ i.text ++ [40] ++ Ba (ks.take i.num.toNat) ++ [41] ++ (if (kth ks i.num.toNat).1.kind = 14 then [] else [58, 32] ++ (kth ks i.num.toNat).2) ++ [32] ++ (kth ks (i.num.toNat + 1)).2
 | 5 => i.text ++ [58, 32] ++ (kth ks 0).2
 | 6 => lines n ks
 | 7 => [118, 97, 114, 32] ++ i.text ++ [58, 32] ++ (kth ks 0).2 ++ [32, 61, 32] ++ (kth ks 1).2 ++ [59]
 | 8 => (kth ks 0).2 ++ [32, 61, 32] ++ (kth ks 1).2 ++ [59]
 | 9 => [105, 102, 32] ++ (kth ks 0).2 ++ [32] ++ (kth ks 1).2 ++ (if ks.length = 3 then [32, 101, 108, 115, 101, 32] ++ (kth ks 2).2 else [])
 | 10 => [119, 104, 105, 108, 101, 32] ++ (kth ks 0).2 ++ [32] ++ (kth ks 1).2
 | 11 => [114, 101, 116, 117, 114, 110] ++ (if ks.length = 1 then [32] ++ (kth ks 0).2 else []) ++ [59]
 | 12 => [112, 114, 105, 110, 116, 32] ++ (kth ks 0).2 ++ [59]
 | 13 => (kth ks 0).2 ++ [59]
 | 14 => []
 | 15 | 16 | 17 | 18 | 19 | 20 => Qm i ks
 | 21 | 22 | 23 | 24 | 25 | 26 => Hx i
 | 27 => i.text ++ [40] ++ Ba ks ++ [41]
 | 28 => brk 8 (kth ks 0) ++ [91] ++ (kth ks 1).2 ++ [93]
 | 29 => brk 8 (kth ks 0) ++ [46] ++ i.text
 | 30 => (opS i.num).1 ++ brk 7 (kth ks 0)
 | 31 => brk (Fx (opS i.num).2) (kth ks 0) ++ [32] ++ (opS i.num).1 ++ [32] ++ brk ((opS i.num).2 + 1) (kth ks 1)
 | 32 => [109, 97, 107, 101, 32] ++ (kth ks 0).2 ++ [40] ++ Ba ks.tail ++ [41]
 | _ => []
def Do (n : Nat) (i : Inf) : Nat := if i.kind = 2 ∨ i.kind = 6 then n + 1 else n
def Hk (n : Nat) : Fo → List Tx
 | .nil => []
 | .cons i k r => (i, Fe n i (Hk (Do n i) k)) :: Hk n r
def Cs : Fo → Nat → List Nat
 | .nil, _ => []
 | .cons _ k r, p => p :: Cs r (p + 1 + k.cnt)
def Fl : Fo → List (Inf × Fo)
 | .nil => []
 | .cons i k r => (i, k) :: (Fl k ++ Fl r)
theorem Bs (F : Fo) : (Fl F).length = F.cnt := by
 induction F with
 | nil => rfl
 | cons i k r ihk ihr => simp [Fl, Fo.cnt, ihk, ihr]; omega
theorem M2 (F : Fo) : F.pre = (Fl F).map fun x => x.1.nd x.2.cnt := by
 induction F with
 | nil => rfl
 | cons i k r ihk ihr => simp [Fl, Fo.pre, ihk, ihr]
def Ao (F : Fo) (p : Nat) : Inf × Fo := (Fl F).getD p (b47, .nil)
def txt (F : Fo) (p n : Nat) : Tx := ((Ao F p).1, Fe n (Ao F p).1 (Hk (Do n (Ao F p).1) (Ao F p).2))
def Seg (F : Fo) (p : Nat) (G : Fo) : Prop := ∀ j, j < G.cnt → (Fl F)[p + j]? = (Fl G)[j]?
theorem a1q (F : Fo) : Seg F 0 F := fun j _ => by rw [Nat.zero_add]
theorem Jt {F : Fo} {p : Nat} {i : Inf} {k r : Fo} (h : Seg F p (.cons i k r)) : (Fl F)[p]? = some (i, k) ∧ Seg F (p + 1) k ∧ Seg F (p + 1 + k.cnt) r := by
 refine ⟨by have := h 0 (by simp [Fo.cnt]; omega); simpa [Fl] using this, fun j hj => ?_, fun j hj => ?_⟩
 ·have := h (j + 1) (by simp [Fo.cnt]; omega)
  rw [show p + (j + 1) = p + 1 + j by omega] at this
  rw [this, Fl, List.getElem?_cons_succ, List.getElem?_append_left (by rw [Bs]; exact hj)]
 ·have := h (k.cnt + j + 1) (by simp [Fo.cnt]; omega)
  rw [show p + (k.cnt + j + 1) = p + 1 + k.cnt + j by omega] at this
  rw [this, Fl, List.getElem?_cons_succ, List.getElem?_append_right (by rw [Bs]; omega), Bs, Nat.add_sub_cancel_left]
theorem b0s {F G : Fo} : ∀ {p q : Nat}, Seg F p G → q < G.cnt → Seg F (p + q + 1) (Ao G q).2 ∧ (Fl F)[p + q]? = some (Ao G q) := by
 induction G with
 | nil => intro p q _ h; simp [Fo.cnt] at h
 | cons i k r ihk ihr =>
  intro p q hs hq
  obtain ⟨h1, h2, h3⟩ := Jt hs
  simp only [Fo.cnt] at hq
  by_cases h0 : q = 0
  ·subst h0
   exact ⟨by simpa [Ao, Fl] using h2, by simpa [Ao, Fl] using h1⟩
  ·by_cases hk : q - 1 < k.cnt
   ·have := ihk h2 hk
    have e : Ao (.cons i k r) q = Ao k (q - 1) := by
     unfold Ao
     obtain ⟨q', rfl⟩ : ∃ q', q = q' + 1 := ⟨q - 1, by omega⟩
     simp only [Fl, List.getD_cons_succ, Nat.add_sub_cancel]
     rw [List.getD_eq_getElem?_getD, List.getElem?_append_left (by rw [Bs]; omega), ← List.getD_eq_getElem?_getD]
    rw [e, show p + q = p + 1 + (q - 1) by omega]
    exact this
   ·have := ihr h3 (show q - 1 - k.cnt < r.cnt by omega)
    have e : Ao (.cons i k r) q = Ao r (q - 1 - k.cnt) := by
     unfold Ao
     obtain ⟨q', rfl⟩ : ∃ q', q = q' + 1 := ⟨q - 1, by omega⟩
     simp only [Fl, List.getD_cons_succ, Nat.add_sub_cancel]
     rw [List.getD_eq_getElem?_getD, List.getElem?_append_right (by rw [Bs]; omega), Bs, ← List.getD_eq_getElem?_getD]
    rw [e, show p + q = p + 1 + k.cnt + (q - 1 - k.cnt) by omega]
    exact this
theorem Gm {F : Fo} {p : Nat} (h : p < F.cnt) : Seg F (p + 1) (Ao F p).2 := by simpa using (b0s (a1q F) h).1
theorem Xo {F G : Fo} (n : Nat) : ∀ {p : Nat}, Seg F p G → Hk n G = (Cs G p).map fun q => txt F q n := by
 induction G with
 | nil => intro p _; rfl
 | cons i k r _ ihr =>
  intro p h
  obtain ⟨h1, h2, h3⟩ := Jt h
  simp only [Hk, Cs, List.map_cons, ← ihr h3]
  congr 1
  simp [txt, Ao, List.getD_eq_getElem?_getD, h1]
theorem I5 {F : Fo} {p : Nat} (h : p < F.cnt) (n : Nat) : Hk n (Ao F p).2 = (Cs (Ao F p).2 (p + 1)).map fun q => txt F q n := Xo n (Gm h)
theorem a15 {G : Fo} : ∀ {p q : Nat}, q ∈ Cs G p → p ≤ q ∧ q < p + G.cnt := by
 induction G with
 | nil => intro p q h; cases h
 | cons i k r _ ihr =>
  intro p q h
  simp only [Cs, List.mem_cons] at h
  simp only [Fo.cnt]
  rcases h with rfl | h
  ·omega
  ·have := ihr h; omega
theorem Gp {F : Fo} {p : Nat} (h : p < F.cnt) : p + 1 + (Ao F p).2.cnt ≤ F.cnt := by
 by_cases h0 : (Ao F p).2.cnt = 0
 ·omega
 ·have := Gm h ((Ao F p).2.cnt - 1) (by omega)
  have h1 : (Fl (Ao F p).2)[(Ao F p).2.cnt - 1]? ≠ none := by
   rw [ne_eq, List.getElem?_eq_none_iff, Bs]; omega
  rw [← this, ne_eq, List.getElem?_eq_none_iff, Bs] at h1
  omega
theorem kid_lt {F : Fo} {p q : Nat} (h : p < F.cnt) (hq : q ∈ Cs (Ao F p).2 (p + 1)) : p < q ∧ q < F.cnt := by
 have := a15 hq
 have := Gp h
 omega
end Go.Proofs.YtoaplbljflhheaaGreat
namespace Go.Proofs.YtoaplbljflhheaaGreat
open Go.RowKit Go.Sort
theorem b5i (n : Nat) (w : World) (k1 : (48 : Int) ≤ n) (k2 : (n : Int) ≤ 57) : Calls Tryz.prog 187 #[.int .u8 n] w fun e w' => e = .returned (.int .i64 ((n : Int) - 48)) ∧ w = w' := by
 go_enter Tryz.func187, Tryz.ntmps187
 go_wp2
 go_ret
 exact ⟨By (by omega), rfl⟩
theorem b5h (n : Nat) (w : World) (k1 : (97 : Int) ≤ n) (k2 : (n : Int) ≤ 102) : Calls Tryz.prog 187 #[.int .u8 n] w fun e w' => e = .returned (.int .i64 ((n : Int) - 87)) ∧ w = w' := by
 go_enter Tryz.func187, Tryz.ntmps187
 go_wp2
 go_ret
 exact ⟨By (by omega), rfl⟩
theorem b5g (n : Nat) (w : World) (k1 : (65 : Int) ≤ n) (k2 : (n : Int) ≤ 70) : Calls Tryz.prog 187 #[.int .u8 n] w fun e w' => e = .returned (.int .i64 ((n : Int) - 55)) ∧ w = w' := by
 go_enter Tryz.func187, Tryz.ntmps187
 go_wp2
 go_ret
 exact ⟨By (by omega), rfl⟩
theorem b5f (n : Nat) (w : World) (hn : (n : Int) < 256) (h1 : ¬ (48 ≤ n ∧ n ≤ 57)) (h2 : ¬ (97 ≤ n ∧ n ≤ 102)) (h3 : ¬ (65 ≤ n ∧ n ≤ 70)) :
  Calls Tryz.prog 187 #[.int .u8 n] w fun e w' => e = .returned (.int .i64 (-1)) ∧ w = w' := by
 rcases (show (n : Int) < 48 ∨ ((57 : Int) < n ∧ (n : Int) < 65) ∨ ((70 : Int) < n ∧ (n : Int) < 97) ∨ (102 : Int) < n by omega) with h | ⟨h, h'⟩ | ⟨h, h'⟩ | h <;> clear h1 h2 h3 hn <;>
 ·go_enter Tryz.func187, Tryz.ntmps187
  go_wp2
  go_ret
  exact ⟨rfl, rfl⟩
theorem N5 (c : UInt8) (w : World) : Calls Tryz.prog 187 #[byt c] w fun e w' => e = .returned (.int .i64 (vlo c)) ∧ w = w' := by
 have hc : (c.toNat : Int) < 256 := by have := c.toNat_lt; omega
 rcases Tc c with ⟨h1, h2, h⟩ | ⟨h1, h2, h⟩ | ⟨h1, h2, h⟩ | ⟨h1, h2, h3, h⟩
 ·refine (b5i _ w (by omega) (by omega)).mono fun e w' he => ⟨he.1.trans (By ?_), he.2⟩
  rw [vlo, h]; simp only; omega
 ·refine (b5h _ w (by omega) (by omega)).mono fun e w' he => ⟨he.1.trans (By ?_), he.2⟩
  rw [vlo, h]; simp only; omega
 ·refine (b5g _ w (by omega) (by omega)).mono fun e w' he => ⟨he.1.trans (By ?_), he.2⟩
  rw [vlo, h]; simp only; omega
 ·exact (b5f _ w hc h1 h2 h3).mono fun e w' he => ⟨he.1.trans (By (by rw [vlo, h])), he.2⟩
theorem Ov (c : UInt8) (w : World) : Calls Tryz.prog 163 #[byt c] w fun e w' => e = .returned (.int .i64 (kdN c : Nat)) ∧ w = w' := by
 by_cases h95 : c = 95
 ·subst h95
  go_enter Tryz.func163, Tryz.ntmps163
  go_wp2
  go_ret
  exact ⟨rfl, rfl⟩
 have e95 : ((c.toNat : Int) == 95) = false := Ac (n := 95) (by decide) h95
 have hn : (c.toNat : Int) ≤ 255 := by have := c.toNat_lt; omega
 rcases (show (122 : Int) < c.toNat ∨ ((97 : Int) ≤ c.toNat ∧ (c.toNat : Int) ≤ 122) ∨ ((90 : Int) < c.toNat ∧ (c.toNat : Int) < 97) ∨ ((65 : Int) ≤ c.toNat ∧ (c.toNat : Int) ≤ 90) ∨
   ((57 : Int) < c.toNat ∧ (c.toNat : Int) < 65) ∨ ((48 : Int) ≤ c.toNat ∧ (c.toNat : Int) ≤ 57) ∨ (c.toNat : Int) < 48 by omega) with h | ⟨h, h'⟩ | ⟨h, h'⟩ | ⟨h, h'⟩ | ⟨h, h'⟩ | ⟨h, h'⟩ | h
 ·have H := zz (show kdN c = 0 by
   have a : sml c = false := by simp [sml, h95]; omega
   have b : grt c = false := by simp [grt]; omega
   have d : dgt c = false := by simp [dgt]; omega
   rw [kdN, a, b, d]; rfl)
  clear h95 hn
  go_enter Tryz.func163, Tryz.ntmps163
  go_wp2
  go_ret
  exact ⟨Kl H.out rfl, rfl⟩
 ·have H := zz (show kdN c = 1 by
   have a : sml c = true := by simp [sml, h95]; omega
   have b : grt c = false := by simp [grt]; omega
   have d : dgt c = false := by simp [dgt]; omega
   rw [kdN, a]; rfl)
  clear h95 hn
  go_enter Tryz.func163, Tryz.ntmps163
  go_wp2
  go_ret
  exact ⟨Kl H.out rfl, rfl⟩
 ·have H := zz (show kdN c = 0 by
   have a : sml c = false := by simp [sml, h95]; omega
   have b : grt c = false := by simp [grt]; omega
   have d : dgt c = false := by simp [dgt]; omega
   rw [kdN, a, b, d]; rfl)
  clear h95 hn
  go_enter Tryz.func163, Tryz.ntmps163
  go_wp2
  go_ret
  exact ⟨Kl H.out rfl, rfl⟩
 ·have H := zz (show kdN c = 2 by
   have a : sml c = false := by simp [sml, h95]; omega
   have b : grt c = true := by simp [grt]; omega
   have d : dgt c = false := by simp [dgt]; omega
   rw [kdN, a, b]; rfl)
  clear h95 hn
  go_enter Tryz.func163, Tryz.ntmps163
  go_wp2
  go_ret
  exact ⟨Kl H.out rfl, rfl⟩
 ·have H := zz (show kdN c = 0 by
   have a : sml c = false := by simp [sml, h95]; omega
   have b : grt c = false := by simp [grt]; omega
   have d : dgt c = false := by simp [dgt]; omega
   rw [kdN, a, b, d]; rfl)
  clear h95 hn
  go_enter Tryz.func163, Tryz.ntmps163
  go_wp2
  go_ret
  exact ⟨Kl H.out rfl, rfl⟩
 ·have H := zz (show kdN c = 3 by
   have a : sml c = false := by simp [sml, h95]; omega
   have b : grt c = false := by simp [grt]; omega
   have d : dgt c = true := by simp [dgt]; omega
   rw [kdN, a, b, d]; rfl)
  clear h95 hn
  go_enter Tryz.func163, Tryz.ntmps163
  go_wp2
  go_ret
  exact ⟨Kl H.out rfl, rfl⟩
 ·have H := zz (show kdN c = 0 by
   have a : sml c = false := by simp [sml, h95]; omega
   have b : grt c = false := by simp [grt]; omega
   have d : dgt c = false := by simp [dgt]; omega
   rw [kdN, a, b, d]; rfl)
  clear h95 hn
  go_enter Tryz.func163, Tryz.ntmps163
  go_wp2
  go_ret
  exact ⟨Kl H.out rfl, rfl⟩
theorem Zh (s : ByteArray) (i : Nat) (hi : i ≤ s.size) (hs : s.size ≤ 1000000) (R : Nat) (hR : Hid (i + Bz nam (s.data.toList.drop i) = R)) (w : World) :
  Calls Tryz.prog 164 #[.string s, .int .i64 i] w fun e w' => e = .returned (.int .i64 (R : Nat)) ∧ w = w' := by
 go_enter Tryz.func164, Tryz.ntmps164
 go_wp2
 go_loop [1] (fun i => ∃ k : Nat, k ≤ s.size ∧ i = .int .i64 k ∧ k + Bz nam (s.data.toList.drop k) = R) (fun i => s.size - (intOf i).toNat)
 case atStart => exact ⟨i, hi, rfl, hR.out⟩
 case round =>
  clear hR
  obtain ⟨k, hk, rfl, hk2⟩ := hrel
  by_cases hlt : k < s.size
  ·rw [Ar s k hlt] at hk2
   have HP := zz (fun w => Ov s[k] w)
   obtain ⟨n, hn⟩ : ∃ n, kdN s[k] = n := ⟨_, rfl⟩
   rw [hn] at HP
   have hpos := b2a s[k]
   rw [hn] at hpos
   cases hp : nam s[k] with
   | true =>
    have h0 : 0 < n := hpos.2 hp
    have h0' : (0 : Int) < n := by omega
    rw [D9 hp] at hk2
    replace hk2 := zz hk2
    clear hp hpos hn
    go_wp2_with fail
    refine (HP.out _).mono ?_
    rintro e w' ⟨rfl, rfl⟩
    go_wp2
    go_round
    case rel => exact ⟨k + 1, hlt, by go_num, by have := hk2.out; omega⟩
    case measure => simp [intOf]; omega
   | false =>
    obtain rfl : n = 0 := by
     have : ¬ 0 < n := fun h => by have := hpos.1 h; rw [hp] at this; cases this
     omega
    rw [Fc hp] at hk2
    replace hk2 := zz hk2
    clear hp hpos hn
    go_wp2_with fail
    refine (HP.out _).mono ?_
    rintro e w' ⟨rfl, rfl⟩
    go_wp2
    go_ret
    exact ⟨By (by have := hk2.out; omega), rfl⟩
  ·rw [Bu s k (by omega)] at hk2
   have hlt2 : ¬ (k : Int) < s.size := by omega
   replace hk2 := zz (show k = R from hk2)
   go_wp2
   go_ret
   exact ⟨By (by have := hk2.out; omega), rfl⟩
theorem Uk (s : ByteArray) (w : World) (b : Bool) (hb : Hid (C0 s.data.toList = b)) : Calls Tryz.prog 165 #[.string s] w fun e w' => e = .returned (.bool b) ∧ Below w.heap.size w w' := by
 have hb0 := zz (Aa w (Obj.cells #[Value.string { data := #[114, 101, 99] }, Value.string { data := #[102, 110] }, Value.string { data := #[118, 97, 114] }, Value.string { data := #[105, 102] }, Value.string { data := #[101, 108, 115, 101] }, Value.string { data := #[119, 104, 105, 108, 101] }, Value.string { data := #[114, 101, 116, 117, 114, 110] }, Value.string { data := #[112, 114, 105, 110, 116] }, Value.string { data := #[116, 114, 117, 101] }, Value.string { data := #[102, 97, 108, 115, 101] }, Value.string { data := #[110, 105, 108] }, Value.string { data := #[109, 97, 107, 101] }, Value.string { data := #[105, 110, 116] }, Value.string { data := #[98, 111, 111, 108] }, Value.string { data := #[115, 116, 114] }, Value.string { data := #[99, 111, 109, 112] }] 9))
 have hc0 := zz (a9r w)
 go_enter Tryz.func165, Tryz.ntmps165
 go_wp2
 obtain ⟨W, hW⟩ : ∃ W, W = w.alloc (Obj.cells #[Value.string { data := #[114, 101, 99] }, Value.string { data := #[102, 110] }, Value.string { data := #[118, 97, 114] }, Value.string { data := #[105, 102] }, Value.string { data := #[101, 108, 115, 101] }, Value.string { data := #[119, 104, 105, 108, 101] }, Value.string { data := #[114, 101, 116, 117, 114, 110] }, Value.string { data := #[112, 114, 105, 110, 116] }, Value.string { data := #[116, 114, 117, 101] }, Value.string { data := #[102, 97, 108, 115, 101] }, Value.string { data := #[110, 105, 108] }, Value.string { data := #[109, 97, 107, 101] }, Value.string { data := #[105, 110, 116] }, Value.string { data := #[98, 111, 111, 108] }, Value.string { data := #[115, 116, 114] }, Value.string { data := #[99, 111, 109, 112] }] 9) := ⟨_, rfl⟩
 rw [← hW]
 rw [← hW] at hb0 hc0
 clear hW
 go_loop [8] (fun i => ∃ k : Nat, k ≤ 16 ∧ i = .int .i64 k ∧ ∀ j, j < k → Kb[j]? ≠ some s.data.toList) (fun i => 16 - (intOf i).toNat)
 case atStart => exact ⟨0, Nat.zero_le _, rfl, by simp⟩
 case round =>
  obtain ⟨k, hk, rfl, hno⟩ := hrel
  by_cases hlt : k < 16
  ·have hcell := hc0.out k hlt
   by_cases heq : s.data.toList = Kb[k]'hlt
   ·have hb2 : b = true := by
     rw [← hb.out, C0, decide_eq_true_eq, heq]; exact List.getElem_mem _
    subst hb2
    have e1 : ((bs (Kb[k]'hlt)).toList == s.toList) = true := by rw [ByteArray.toList_eq, ByteArray.toList_eq, Bk, heq]; simp
    generalize bs (Kb[k]'hlt) = x at hcell e1
    clear hno heq
    go_wp2
    go_ret
    exact ⟨rfl, hb0.out⟩
   ·have e1 : ((bs (Kb[k]'hlt)).toList == s.toList) = false := by rw [ByteArray.toList_eq, ByteArray.toList_eq, Bk]; simpa using fun e => heq e.symm
    have hno2 := zz (show ∀ j, j < k + 1 → Kb[j]? ≠ some s.data.toList from fun j hj => by
     by_cases hjk : j = k
     ·subst hjk; rw [List.getElem?_eq_getElem hlt]; simpa using fun e => heq e.symm
     ·exact hno j (by omega))
    generalize bs (Kb[k]'hlt) = x at hcell e1
    clear hno heq
    go_wp2
    go_round
    case rel => exact ⟨k + 1, hlt, by go_num, hno2.out⟩
    case measure => simp [intOf]; omega
  ·have hk16 : k = 16 := by omega
   have hb2 : b = false := by
    rw [← hb.out, C0, decide_eq_false_iff_not]
    intro hm
    obtain ⟨j, hj, he⟩ := List.getElem_of_mem hm
    have hj16 : j < 16 := hj
    exact hno j (by omega) (by rw [List.getElem?_eq_getElem hj, he])
   subst hb2
   clear hno
   go_wp2
   go_ret
   exact ⟨rfl, hb0.out⟩
theorem Sg (s : ByteArray) (b : Bool) (h : C0 s.data.toList = b) (w : World) : Calls Tryz.prog 165 #[.string s] w fun e w' => e = .returned (.bool b) ∧ Below w.heap.size w w' := Uk s w b (zz h)
end Go.Proofs.YtoaplbljflhheaaGreat
