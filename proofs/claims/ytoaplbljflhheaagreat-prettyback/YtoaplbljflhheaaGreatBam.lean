/-
 Contracts and plain facts on the way to PrettyBack. Conditions: as each says.
-/
import Derived.Test.YtoaplbljflhheaaGreatBaj
set_option maxHeartbeats 40000000
set_option maxRecDepth 100000
set_option linter.unusedVariables false
set_option linter.unusedSimpArgs false
namespace Go.Proofs.YtoaplbljflhheaaGreat
open _root_.Go.Proofs.Tryz
section
def opS (op : Int) : List UInt8 × Nat :=
 if op = 15 then ([124, 124], 1) else if op = 14 then ([38, 38], 2) else if op = 6 then ([61, 61], 3) else if op = 7 then ([33, 61], 3)
 else if op = 8 then ([60], 4) else if op = 9 then ([60, 61], 4) else if op = 10 then ([62], 4) else if op = 11 then ([62, 61], 4)
 else if op = 1 then ([43], 5) else if op = 2 then ([45], 5) else if op = 3 then ([42], 6) else if op = 4 then ([47], 6) else if op = 5 then ([37], 6)
 else if op = 12 then ([45], 7) else if op = 13 then ([33], 7) else ([], 0)
def lvl (i : Inf) : Nat := if i.kind = 30 ∨ i.kind = 31 then (opS i.num).2 else 8
abbrev Tx := Inf × List UInt8
def c1f : Inf := ⟨0, 0, 0, 0, []⟩
def kth (ks : List Tx) (j : Nat) : Tx := ks.getD j (c1f, [])
def brk (m : Nat) (x : Tx) : List UInt8 := if lvl x.1 < m then 40 :: (x.2 ++ [41]) else x.2
def Fh (n : Nat) : Nat := if n = 3 ∨ n = 4 then n + 1 else n
def Fz : List Tx -> List UInt8
 | [] => []
 | x :: l => x.2 ++ l.flatMap fun y => [44, 32] ++ y.2
def nl (n : Nat) : List UInt8 := 10 :: List.replicate n 9
def lines (n : Nat) (ks : List Tx) : List UInt8 := [123] ++ (ks.flatMap fun x => nl (n + 1) ++ x.2) ++ nl n ++ [125]
def L3 (i : Inf) : List UInt8 :=
 if i.kind = 21 then Nm.dec i.num.toNat else if i.kind = 22 then Nm.dec i.num.toNat ++ [105] else if i.kind = 23 then lit i.text
 else if i.kind = 24 then (if i.num = 0 then [102, 97, 108, 115, 101] else [116, 114, 117, 101]) else if i.kind = 25 then [110, 105, 108] else i.text
def b24 (i : Inf) (ks : List Tx) : List UInt8 :=
 if i.kind = 15 then [105, 110, 116] else if i.kind = 16 then [98, 111, 111, 108] else if i.kind = 17 then [115, 116, 114] else if i.kind = 18 then [99, 111, 109, 112]
 else if i.kind = 19 then i.text else [91] ++ (kth ks 0).2 ++ [93]
def Jw (n : Nat) (i : Inf) (ks : List Tx) : List UInt8 := match i.kind with
 | 1 => ks.flatMap fun x => x.2 ++ [10]
 | 2 => [114, 101, 99, 32] ++ i.text ++ [32] ++ lines n ks
 | 3 => i.text ++ [58, 32] ++ (kth ks 0).2 ++ [59]
 | 4 => [102, 110, 32] ++ i.text ++ [40] ++ Fz (ks.take i.num.toNat) ++ [41] ++ (if (kth ks i.num.toNat).1.kind = 14 then [] else [58, 32] ++ (kth ks i.num.toNat).2) ++ [32] ++ (kth ks (i.num.toNat + 1)).2
 | 5 => i.text ++ [58, 32] ++ (kth ks 0).2
 | 6 => lines n ks
 | 7 => [118, 97, 114, 32] ++ i.text ++ [58, 32] ++ (kth ks 0).2 ++ [32, 61, 32] ++ (kth ks 1).2 ++ [59]
 | 8 => (kth ks 0).2 ++ [32, 61, 32] ++ (kth ks 1).2 ++ [59]
 | 9 => [105, 102, 32] ++ (kth ks 0).2 ++ [32] ++ (kth ks 1).2 ++ (if ks.length = 3 then [32, 101, 108, 115, 101, 32] ++ (kth ks 2).2 else [])
 | 10 => [119, 104, 105, 108, 101, 32] ++ (kth ks 0).2 ++ [32] ++ (kth ks 1).2
 | 11 => [114, 101, 116, 117, 114, 110] ++ (if ks.length = 1 then [32] ++ (kth ks 0).2 else []) ++ [59]
 | 12 => [112, 114, 105, 110, 116, 32] ++ (kth ks 0).2 ++ [59]
 | 13 => (kth ks 0).2 ++ [59]
 | 14 => []
 | 15 | 16 | 17 | 18 | 19 | 20 => b24 i ks
 | 21 | 22 | 23 | 24 | 25 | 26 => L3 i
 | 27 => i.text ++ [40] ++ Fz ks ++ [41]
 | 28 => brk 8 (kth ks 0) ++ [91] ++ (kth ks 1).2 ++ [93]
 | 29 => brk 8 (kth ks 0) ++ [46] ++ i.text
 | 30 => (opS i.num).1 ++ brk 7 (kth ks 0)
 | 31 => brk (Fh (opS i.num).2) (kth ks 0) ++ [32] ++ (opS i.num).1 ++ [32] ++ brk ((opS i.num).2 + 1) (kth ks 1)
 | 32 => [109, 97, 107, 101, 32] ++ (kth ks 0).2 ++ [40] ++ Fz ks.tail ++ [41]
 | _ => []
def E9 (n : Nat) (i : Inf) : Nat := if i.kind = 2 ∨ i.kind = 6 then n + 1 else n
def F9 (n : Nat) : Fo -> List Tx
 | .nil => []
 | .cons i k r => (i, Jw n i (F9 (E9 n i) k)) :: F9 n r
def D4 : Fo -> Nat -> List Nat
 | .nil, _ => []
 | .cons _ k r, p => p :: D4 r (p + 1 + k.cnt)
def Dh : Fo -> List (Inf × Fo)
 | .nil => []
 | .cons i k r => (i, k) :: (Dh k ++ Dh r)
theorem Bd (F : Fo) : (Dh F).length = F.cnt := by
 induction F with
 | nil => rfl
 | cons i k r ihk ihr => simp [Dh, Fo.cnt, ihk, ihr]; omega
theorem Me (F : Fo) : F.pre = (Dh F).map fun x => x.1.nd x.2.cnt := by
 induction F with
 | nil => rfl
 | cons i k r ihk ihr => simp [Dh, Fo.pre, ihk, ihr]
def Ag (F : Fo) (p : Nat) : Inf × Fo := (Dh F).getD p (c1f, .nil)
def txt (F : Fo) (p n : Nat) : Tx := ((Ag F p).1, Jw n (Ag F p).1 (F9 (E9 n (Ag F p).1) (Ag F p).2))
def Seg (F : Fo) (p : Nat) (G : Fo) : Prop := ∀ j, j < G.cnt -> (Dh F)[p + j]? = (Dh G)[j]?
theorem a79 (F : Fo) : Seg F 0 F := fun j _ => by rw [Nat.zero_add]
theorem Od {F : Fo} {p : Nat} {i : Inf} {k r : Fo} (h : Seg F p (.cons i k r)) : (Dh F)[p]? = some (i, k) ∧ Seg F (p + 1) k ∧ Seg F (p + 1 + k.cnt) r := by
 refine ⟨by have := h 0 (by simp [Fo.cnt]; omega); simpa [Dh] using this, fun j hj => ?_, fun j hj => ?_⟩
 ·have := h (j + 1) (by simp [Fo.cnt]; omega);rw [show p + (j + 1) = p + 1 + j by omega] at this;rw [this, Dh, List.getElem?_cons_succ, List.getElem?_append_left (by rw [Bd]; exact hj)]
 ·have := h (k.cnt + j + 1) (by simp [Fo.cnt]; omega);rw [show p + (k.cnt + j + 1) = p + 1 + k.cnt + j by omega] at this;rw [this, Dh, List.getElem?_cons_succ, List.getElem?_append_right (by rw [Bd]; omega), Bd, Nat.add_sub_cancel_left]
theorem b8d {F G : Fo} : ∀ {p q : Nat}, Seg F p G -> q < G.cnt -> Seg F (p + q + 1) (Ag G q).2 ∧ (Dh F)[p + q]? = some (Ag G q) := by
 induction G with
 | nil => intro p q _ h; simp [Fo.cnt] at h
 | cons i k r ihk ihr =>
  intro p q hs hq;obtain ⟨h1, h2, h3⟩ := Od hs;simp only [Fo.cnt] at hq;by_cases h0 : q = 0
  ·subst h0;exact ⟨by simpa [Ag, Dh] using h2, by simpa [Ag, Dh] using h1⟩
  ·by_cases hk : q - 1 < k.cnt
   ·have := ihk h2 hk
    have e : Ag (.cons i k r) q = Ag k (q - 1) := by
     unfold Ag;obtain ⟨q', rfl⟩ : ∃ q', q = q' + 1 := ⟨q - 1, by omega⟩;simp only [Dh, List.getD_cons_succ, Nat.add_sub_cancel];rw [List.getD_eq_getElem?_getD, List.getElem?_append_left (by rw [Bd]; omega), <- List.getD_eq_getElem?_getD]
    rw [e, show p + q = p + 1 + (q - 1) by omega];exact this
   ·have := ihr h3 (show q - 1 - k.cnt < r.cnt by omega)
    have e : Ag (.cons i k r) q = Ag r (q - 1 - k.cnt) := by
     unfold Ag;obtain ⟨q', rfl⟩ : ∃ q', q = q' + 1 := ⟨q - 1, by omega⟩;simp only [Dh, List.getD_cons_succ, Nat.add_sub_cancel];rw [List.getD_eq_getElem?_getD, List.getElem?_append_right (by rw [Bd]; omega), Bd, <- List.getD_eq_getElem?_getD]
    rw [e, show p + q = p + 1 + k.cnt + (q - 1 - k.cnt) by omega];exact this
theorem I1 {F : Fo} {p : Nat} (h : p < F.cnt) : Seg F (p + 1) (Ag F p).2 := by simpa using (b8d (a79 F) h).1
theorem a2t {F G : Fo} (n : Nat) : ∀ {p : Nat}, Seg F p G -> F9 n G = (D4 G p).map fun q => txt F q n := by
 induction G with
 | nil => intro p _; rfl
 | cons i k r _ ihr =>
  intro p h;obtain ⟨h1, h2, h3⟩ := Od h;simp only [F9, D4, List.map_cons, <- ihr h3];congr 1;simp [txt, Ag, List.getD_eq_getElem?_getD, h1]
theorem M9 {F : Fo} {p : Nat} (h : p < F.cnt) (n : Nat) : F9 n (Ag F p).2 = (D4 (Ag F p).2 (p + 1)).map fun q => txt F q n := a2t n (I1 h)
theorem a8s {G : Fo} : ∀ {p q : Nat}, q ∈ D4 G p -> p <= q ∧ q < p + G.cnt := by
 induction G with
 | nil => intro p q h; cases h
 | cons i k r _ ihr =>
  intro p q h;simp only [D4, List.mem_cons] at h;simp only [Fo.cnt];rcases h with rfl | h
  ·omega
  ·have := ihr h; omega
theorem J6 {F : Fo} {p : Nat} (h : p < F.cnt) : p + 1 + (Ag F p).2.cnt <= F.cnt := by
 by_cases h0 : (Ag F p).2.cnt = 0
 ·omega
 ·have := I1 h ((Ag F p).2.cnt - 1) (by omega)
  have h1 : (Dh (Ag F p).2)[(Ag F p).2.cnt - 1]? ≠ none := by
   rw [ne_eq, List.getElem?_eq_none_iff, Bd]; omega
  rw [<- this, ne_eq, List.getElem?_eq_none_iff, Bd] at h1;omega
theorem kid_lt {F : Fo} {p q : Nat} (h : p < F.cnt) (hq : q ∈ D4 (Ag F p).2 (p + 1)) : p < q ∧ q < F.cnt := by
 have := a8s hq;have := J6 h;omega
end
section
open Go.RowKit Go.Sort
theorem c3p (n : Nat) (w : World) (k1 : (48 : Int) <= n) (k2 : (n : Int) <= 57) : Calls prog 187 #[.int .u8 n] w fun e w' => e = .returned (.int .i64 ((n : Int) - 48)) ∧ w = w' := by
 go_enter func187, ntmps187;go_wp2;go_ret;exact ⟨Cs (by omega), rfl⟩
theorem c3o (n : Nat) (w : World) (k1 : (97 : Int) <= n) (k2 : (n : Int) <= 102) : Calls prog 187 #[.int .u8 n] w fun e w' => e = .returned (.int .i64 ((n : Int) - 87)) ∧ w = w' := by
 go_enter func187, ntmps187;go_wp2;go_ret;exact ⟨Cs (by omega), rfl⟩
theorem c3n (n : Nat) (w : World) (k1 : (65 : Int) <= n) (k2 : (n : Int) <= 70) : Calls prog 187 #[.int .u8 n] w fun e w' => e = .returned (.int .i64 ((n : Int) - 55)) ∧ w = w' := by
 go_enter func187, ntmps187;go_wp2;go_ret;exact ⟨Cs (by omega), rfl⟩
theorem c3m (n : Nat) (w : World) (hn : (n : Int) < 256) (h1 : ¬ (48 <= n ∧ n <= 57)) (h2 : ¬ (97 <= n ∧ n <= 102)) (h3 : ¬ (65 <= n ∧ n <= 70)) :
  Calls prog 187 #[.int .u8 n] w fun e w' => e = .returned (.int .i64 (-1)) ∧ w = w' := by
 rcases (show (n : Int) < 48 ∨ ((57 : Int) < n ∧ (n : Int) < 65) ∨ ((70 : Int) < n ∧ (n : Int) < 97) ∨ (102 : Int) < n by omega) with h | ⟨h, h'⟩ | ⟨h, h'⟩ | h <;> clear h1 h2 h3 hn <;>
 ·go_enter func187, ntmps187;go_wp2;go_ret;exact ⟨rfl, rfl⟩
theorem To (c : UInt8) (w : World) : Calls prog 187 #[byt c] w fun e w' => e = .returned (.int .i64 (vlo c)) ∧ w = w' := by
 have hc : (c.toNat : Int) < 256 := by have := c.toNat_lt; omega
 rcases Zl c with ⟨h1, h2, h⟩ | ⟨h1, h2, h⟩ | ⟨h1, h2, h⟩ | ⟨h1, h2, h3, h⟩
 ·refine (c3p _ w (by omega) (by omega)).mono fun e w' he => ⟨he.1.trans (Cs ?_), he.2⟩
  rw [vlo, h]; simp only; omega
 ·refine (c3o _ w (by omega) (by omega)).mono fun e w' he => ⟨he.1.trans (Cs ?_), he.2⟩
  rw [vlo, h]; simp only; omega
 ·refine (c3n _ w (by omega) (by omega)).mono fun e w' he => ⟨he.1.trans (Cs ?_), he.2⟩
  rw [vlo, h]; simp only; omega
 ·exact (c3m _ w hc h1 h2 h3).mono fun e w' he => ⟨he.1.trans (Cs (by rw [vlo, h])), he.2⟩
theorem Uf (c : UInt8) (w : World) : Calls prog 163 #[byt c] w fun e w' => e = .returned (.int .i64 (kdN c : Nat)) ∧ w = w' := by
 by_cases h95 : c = 95
 ·subst h95;go_enter func163, ntmps163;go_wp2;go_ret;exact ⟨rfl, rfl⟩
 have e95 : ((c.toNat : Int) == 95) = false := Av (n := 95) (by decide) h95;have hn : (c.toNat : Int) <= 255 := by have := c.toNat_lt; omega
 rcases (show (122 : Int) < c.toNat ∨ ((97 : Int) <= c.toNat ∧ (c.toNat : Int) <= 122) ∨ ((90 : Int) < c.toNat ∧ (c.toNat : Int) < 97) ∨ ((65 : Int) <= c.toNat ∧ (c.toNat : Int) <= 90) ∨
   ((57 : Int) < c.toNat ∧ (c.toNat : Int) < 65) ∨ ((48 : Int) <= c.toNat ∧ (c.toNat : Int) <= 57) ∨ (c.toNat : Int) < 48 by omega) with h | ⟨h, h'⟩ | ⟨h, h'⟩ | ⟨h, h'⟩ | ⟨h, h'⟩ | ⟨h, h'⟩ | h
 ·have H := zz (show kdN c = 0 by
   have a : sml c = false := by simp [sml, h95]; omega
   have b : grt c = false := by simp [grt]; omega
   have d : dgt c = false := by simp [dgt]; omega
   rw [kdN, a, b, d]; rfl)
  clear h95 hn;go_enter func163, ntmps163;go_wp2;go_ret;exact ⟨Pe H.out rfl, rfl⟩
 ·have H := zz (show kdN c = 1 by
   have a : sml c = true := by simp [sml, h95]; omega
   have b : grt c = false := by simp [grt]; omega
   have d : dgt c = false := by simp [dgt]; omega
   rw [kdN, a]; rfl)
  clear h95 hn;go_enter func163, ntmps163;go_wp2;go_ret;exact ⟨Pe H.out rfl, rfl⟩
 ·have H := zz (show kdN c = 0 by
   have a : sml c = false := by simp [sml, h95]; omega
   have b : grt c = false := by simp [grt]; omega
   have d : dgt c = false := by simp [dgt]; omega
   rw [kdN, a, b, d]; rfl)
  clear h95 hn;go_enter func163, ntmps163;go_wp2;go_ret;exact ⟨Pe H.out rfl, rfl⟩
 ·have H := zz (show kdN c = 2 by
   have a : sml c = false := by simp [sml, h95]; omega
   have b : grt c = true := by simp [grt]; omega
   have d : dgt c = false := by simp [dgt]; omega
   rw [kdN, a, b]; rfl)
  clear h95 hn;go_enter func163, ntmps163;go_wp2;go_ret;exact ⟨Pe H.out rfl, rfl⟩
 ·have H := zz (show kdN c = 0 by
   have a : sml c = false := by simp [sml, h95]; omega
   have b : grt c = false := by simp [grt]; omega
   have d : dgt c = false := by simp [dgt]; omega
   rw [kdN, a, b, d]; rfl)
  clear h95 hn;go_enter func163, ntmps163;go_wp2;go_ret;exact ⟨Pe H.out rfl, rfl⟩
 ·have H := zz (show kdN c = 3 by
   have a : sml c = false := by simp [sml, h95]; omega
   have b : grt c = false := by simp [grt]; omega
   have d : dgt c = true := by simp [dgt]; omega
   rw [kdN, a, b, d]; rfl)
  clear h95 hn;go_enter func163, ntmps163;go_wp2;go_ret;exact ⟨Pe H.out rfl, rfl⟩
 ·have H := zz (show kdN c = 0 by
   have a : sml c = false := by simp [sml, h95]; omega
   have b : grt c = false := by simp [grt]; omega
   have d : dgt c = false := by simp [dgt]; omega
   rw [kdN, a, b, d]; rfl)
  clear h95 hn;go_enter func163, ntmps163;go_wp2;go_ret;exact ⟨Pe H.out rfl, rfl⟩
theorem a42 (s : ByteArray) (i : Nat) (hi : i <= s.size) (hs : s.size <= 1000000) (R : Nat) (hR : Hid (i + Bz nam (s.data.toList.drop i) = R)) (w : World) :
  Calls prog 164 #[.string s, .int .i64 i] w fun e w' => e = .returned (.int .i64 (R : Nat)) ∧ w = w' := by
 go_enter func164, ntmps164;go_wp2
 go_loop [1] (fun i => ∃ k : Nat, k <= s.size ∧ i = .int .i64 k ∧ k + Bz nam (s.data.toList.drop k) = R) (fun i => s.size - (intOf i).toNat)
 case atStart => exact ⟨i, hi, rfl, hR.out⟩
 case round =>
  clear hR;obtain ⟨k, hk, rfl, hk2⟩ := hrel;by_cases hlt : k < s.size
  ·rw [Au s k hlt] at hk2;have HP := zz (fun w => Uf s[k] w);obtain ⟨n, hn⟩ : ∃ n, kdN s[k] = n := ⟨_, rfl⟩;rw [hn] at HP;have hpos := b9x s[k];rw [hn] at hpos
   cases hp : nam s[k] with
   | true =>
    have h0 : 0 < n := hpos.2 hp;have h0' : (0 : Int) < n := by omega
    rw [G9 hp] at hk2;replace hk2 := zz hk2;clear hp hpos hn;go_wp2_with fail;refine (HP.out _).mono ?_;rintro e w' ⟨rfl, rfl⟩;go_wp2
    go_round
    case rel => exact ⟨k + 1, hlt, by go_num, by have := hk2.out; omega⟩
    case measure => simp [intOf]; omega
   | false =>
    obtain rfl : n = 0 := by
     have : ¬ 0 < n := fun h => by have := hpos.1 h; rw [hp] at this; cases this
     omega
    rw [Il hp] at hk2;replace hk2 := zz hk2;clear hp hpos hn;go_wp2_with fail;refine (HP.out _).mono ?_;rintro e w' ⟨rfl, rfl⟩;go_wp2;go_ret;exact ⟨Cs (by have := hk2.out; omega), rfl⟩
  ·rw [Co s k (by omega)] at hk2;have hlt2 : ¬ (k : Int) < s.size := by omega
   replace hk2 := zz (show k = R from hk2);go_wp2;go_ret;exact ⟨Cs (by have := hk2.out; omega), rfl⟩
theorem a0j (s : ByteArray) (w : World) (b : Bool) (hb : Hid (Dj s.data.toList = b)) : Calls prog 165 #[.string s] w fun e w' => e = .returned (.bool b) ∧ Below w.heap.size w w' := by
 have hb0 := zz (Aa w (Obj.cells #[Value.string { data := #[114, 101, 99] }, Value.string { data := #[102, 110] }, Value.string { data := #[118, 97, 114] }, Value.string { data := #[105, 102] }, Value.string { data := #[101, 108, 115, 101] }, Value.string { data := #[119, 104, 105, 108, 101] }, Value.string { data := #[114, 101, 116, 117, 114, 110] }, Value.string { data := #[112, 114, 105, 110, 116] }, Value.string { data := #[116, 114, 117, 101] }, Value.string { data := #[102, 97, 108, 115, 101] }, Value.string { data := #[110, 105, 108] }, Value.string { data := #[109, 97, 107, 101] }, Value.string { data := #[105, 110, 116] }, Value.string { data := #[98, 111, 111, 108] }, Value.string { data := #[115, 116, 114] }, Value.string { data := #[99, 111, 109, 112] }] 9));have hc0 := zz (b68 w);go_enter func165, ntmps165;go_wp2;obtain ⟨W, hW⟩ : ∃ W, W = w.alloc (Obj.cells #[Value.string { data := #[114, 101, 99] }, Value.string { data := #[102, 110] }, Value.string { data := #[118, 97, 114] }, Value.string { data := #[105, 102] }, Value.string { data := #[101, 108, 115, 101] }, Value.string { data := #[119, 104, 105, 108, 101] }, Value.string { data := #[114, 101, 116, 117, 114, 110] }, Value.string { data := #[112, 114, 105, 110, 116] }, Value.string { data := #[116, 114, 117, 101] }, Value.string { data := #[102, 97, 108, 115, 101] }, Value.string { data := #[110, 105, 108] }, Value.string { data := #[109, 97, 107, 101] }, Value.string { data := #[105, 110, 116] }, Value.string { data := #[98, 111, 111, 108] }, Value.string { data := #[115, 116, 114] }, Value.string { data := #[99, 111, 109, 112] }] 9) := ⟨_, rfl⟩;rw [<- hW];rw [<- hW] at hb0 hc0;clear hW
 go_loop [8] (fun i => ∃ k : Nat, k <= 16 ∧ i = .int .i64 k ∧ ∀ j, j < k -> Lb[j]? ≠ some s.data.toList) (fun i => 16 - (intOf i).toNat)
 case atStart => exact ⟨0, Nat.zero_le _, rfl, by simp⟩
 case round =>
  obtain ⟨k, hk, rfl, hno⟩ := hrel;by_cases hlt : k < 16
  ·have hcell := hc0.out k hlt;by_cases heq : s.data.toList = Lb[k]'hlt
   ·have hb2 : b = true := by
     rw [<- hb.out, Dj, decide_eq_true_eq, heq]; exact List.getElem_mem _
    subst hb2;have e1 : ((bs (Lb[k]'hlt)).toList == s.toList) = true := by rw [ByteArray.toList_eq, ByteArray.toList_eq, B9, heq]; simp
    generalize bs (Lb[k]'hlt) = x at hcell e1;clear hno heq;go_wp2;go_ret;exact ⟨rfl, hb0.out⟩
   ·have e1 : ((bs (Lb[k]'hlt)).toList == s.toList) = false := by rw [ByteArray.toList_eq, ByteArray.toList_eq, B9]; simpa using fun e => heq e.symm
    have hno2 := zz (show ∀ j, j < k + 1 -> Lb[j]? ≠ some s.data.toList from fun j hj => by
     by_cases hjk : j = k
     ·subst hjk; rw [List.getElem?_eq_getElem hlt]; simpa using fun e => heq e.symm
     ·exact hno j (by omega))
    generalize bs (Lb[k]'hlt) = x at hcell e1;clear hno heq;go_wp2
    go_round
    case rel => exact ⟨k + 1, hlt, by go_num, hno2.out⟩
    case measure => simp [intOf]; omega
  ·have hk16 : k = 16 := by omega
   have hb2 : b = false := by
    rw [<- hb.out, Dj, decide_eq_false_iff_not];intro hm;obtain ⟨j, hj, he⟩ := List.getElem_of_mem hm;have hj16 : j < 16 := hj;exact hno j (by omega) (by rw [List.getElem?_eq_getElem hj, he])
   subst hb2;clear hno;go_wp2;go_ret;exact ⟨rfl, hb0.out⟩
theorem Yn (s : ByteArray) (b : Bool) (h : Dj s.data.toList = b) (w : World) : Calls prog 165 #[.string s] w fun e w' => e = .returned (.bool b) ∧ Below w.heap.size w w' := a0j s w b (zz h)
end
section
def F56 (o : Out) : Prop := ∀ c l k, o = .bad c l k -> c = 5 ∨ c = 6
def Fp (p : Pt) : Prop := ∀ d ts, F56 (p d ts)
theorem F56.bind {o : Out} {f : Fo -> List Tok -> Out} (h : F56 o) (k : ∀ F r, F56 (f F r)) : F56 (o.bind f) := by
 cases o with
 | ok F r => exact k F r
 | bad c l m => exact h
section
variable {E : Pt} (hE : Fp E)
include hE
end
end
end Go.Proofs.YtoaplbljflhheaaGreat
