/-
 Contracts and plain facts on the way to PrettyAgain. Conditions: as each says.
-/
import Derived.Test.YtoaplbljflhheaaGreatAal
set_option maxHeartbeats 40000000
set_option maxRecDepth 100000
set_option linter.unusedVariables false
set_option linter.unusedSimpArgs false
namespace Go.Proofs.YtoaplbljflhheaaGreat
open _root_.Go.Proofs.Tryz
section
def opS (op : Int) : List UInt8 × Nat :=
 if op = 15 then ([124, 124], 1) else if op = 14 then ([38, 38], 2) else if op = 6 then ([61, 61], 3) else if op = 7 then ([33, 61], 3)
 else if op = 8 then ([60], 4) else if op = 9 then ([60, 61], 4) else if op = 10 then ([62], 4) else if op = 11 then ([62, 61], 4)
 else if op = 1 then ([43], 5) else if op = 2 then ([45], 5) else if op = 3 then ([42], 6) else if op = 4 then ([47], 6) else if op = 5 then ([37], 6)
 else if op = 12 then ([45], 7) else if op = 13 then ([33], 7) else ([], 0)
def lvl (i : Inf) : Nat := if i.kind = 30 ∨ i.kind = 31 then (opS i.num).2 else 8
abbrev Tx := Inf × List UInt8
def c0n : Inf := ⟨0, 0, 0, 0, []⟩
def kth (ks : List Tx) (j : Nat) : Tx := ks.getD j (c0n, [])
def brk (m : Nat) (x : Tx) : List UInt8 := if lvl x.1 < m then 40 :: (x.2 ++ [41]) else x.2
def D2 (n : Nat) : Nat := if n = 3 ∨ n = 4 then n + 1 else n
def Dr : List Tx → List UInt8
 | [] => []
 | x :: l => x.2 ++ l.flatMap fun y => [44, 32] ++ y.2
def nl (n : Nat) : List UInt8 := 10 :: List.replicate n 9
def lines (n : Nat) (ks : List Tx) : List UInt8 := [123] ++ (ks.flatMap fun x => nl (n + 1) ++ x.2) ++ nl n ++ [125]
def Kf (i : Inf) : List UInt8 :=
 if i.kind = 21 then Nm.dec i.num.toNat else if i.kind = 22 then Nm.dec i.num.toNat ++ [105] else if i.kind = 23 then lit i.text
 else if i.kind = 24 then (if i.num = 0 then [102, 97, 108, 115, 101] else [116, 114, 117, 101]) else if i.kind = 25 then [110, 105, 108] else i.text
def Zr (i : Inf) (ks : List Tx) : List UInt8 :=
 if i.kind = 15 then [105, 110, 116] else if i.kind = 16 then [98, 111, 111, 108] else if i.kind = 17 then [115, 116, 114] else if i.kind = 18 then [99, 111, 109, 112]
 else if i.kind = 19 then i.text else [91] ++ (kth ks 0).2 ++ [93]
def Hs (n : Nat) (i : Inf) (ks : List Tx) : List UInt8 := match i.kind with
 | 1 => ks.flatMap fun x => x.2 ++ [10]
 | 2 => [114, 101, 99, 32] ++ i.text ++ [32] ++ lines n ks
 | 3 => i.text ++ [58, 32] ++ (kth ks 0).2 ++ [59]
 | 4 => [102, 110, 32] ++ i.text ++ [40] ++ Dr (ks.take i.num.toNat) ++ [41] ++ (if (kth ks i.num.toNat).1.kind = 14 then [] else [58, 32] ++ (kth ks i.num.toNat).2) ++ [32] ++ (kth ks (i.num.toNat + 1)).2
 | 5 => i.text ++ [58, 32] ++ (kth ks 0).2
 | 6 => lines n ks
 | 7 => [118, 97, 114, 32] ++ i.text ++ [58, 32] ++ (kth ks 0).2 ++ [32, 61, 32] ++ (kth ks 1).2 ++ [59]
 | 8 => (kth ks 0).2 ++ [32, 61, 32] ++ (kth ks 1).2 ++ [59]
 | 9 => [105, 102, 32] ++ (kth ks 0).2 ++ [32] ++ (kth ks 1).2 ++ (if ks.length = 3 then [32, 101, 108, 115, 101, 32] ++ (kth ks 2).2 else [])
 | 10 => [119, 104, 105, 108, 101, 32] ++ (kth ks 0).2 ++ [32] ++ (kth ks 1).2
 | 11 => [114, 101, 116, 117, 114, 110] ++ (if ks.length = 1 then [32] ++ (kth ks 0).2 else []) ++ [59]
 | 12 => [112, 114, 105, 110, 116, 32] ++ (kth ks 0).2 ++ [59]
 | 13 => (kth ks 0).2 ++ [59]
 | 14 => []
 | 15 | 16 | 17 | 18 | 19 | 20 => Zr i ks
 | 21 | 22 | 23 | 24 | 25 | 26 => Kf i
 | 27 => i.text ++ [40] ++ Dr ks ++ [41]
 | 28 => brk 8 (kth ks 0) ++ [91] ++ (kth ks 1).2 ++ [93]
 | 29 => brk 8 (kth ks 0) ++ [46] ++ i.text
 | 30 => (opS i.num).1 ++ brk 7 (kth ks 0)
 | 31 => brk (D2 (opS i.num).2) (kth ks 0) ++ [32] ++ (opS i.num).1 ++ [32] ++ brk ((opS i.num).2 + 1) (kth ks 1)
 | 32 => [109, 97, 107, 101, 32] ++ (kth ks 0).2 ++ [40] ++ Dr ks.tail ++ [41]
 | _ => []
def Ej (n : Nat) (i : Inf) : Nat := if i.kind = 2 ∨ i.kind = 6 then n + 1 else n
def D8 (n : Nat) : Fo → List Tx
 | .nil => []
 | .cons i k r => (i, Hs n i (D8 (Ej n i) k)) :: D8 n r
def D0 : Fo → Nat → List Nat
 | .nil, _ => []
 | .cons _ k r, p => p :: D0 r (p + 1 + k.cnt)
def D6 : Fo → List (Inf × Fo)
 | .nil => []
 | .cons i k r => (i, k) :: (D6 k ++ D6 r)
theorem Bu (F : Fo) : (D6 F).length = F.cnt := by
 induction F with
 | nil => rfl
 | cons i k r ihk ihr => simp [D6, Fo.cnt, ihk, ihr]; omega
theorem L8 (F : Fo) : F.pre = (D6 F).map fun x => x.1.nd x.2.cnt := by
 induction F with
 | nil => rfl
 | cons i k r ihk ihr => simp [D6, Fo.pre, ihk, ihr]
def Ai (F : Fo) (p : Nat) : Inf × Fo := (D6 F).getD p (c0n, .nil)
def txt (F : Fo) (p n : Nat) : Tx := ((Ai F p).1, Hs n (Ai F p).1 (D8 (Ej n (Ai F p).1) (Ai F p).2))
def Seg (F : Fo) (p : Nat) (G : Fo) : Prop := ∀ j, j < G.cnt → (D6 F)[p + j]? = (D6 G)[j]?
theorem a7r (F : Fo) : Seg F 0 F := fun j _ => by rw [Nat.zero_add]
theorem Oc {F : Fo} {p : Nat} {i : Inf} {k r : Fo} (h : Seg F p (.cons i k r)) : (D6 F)[p]? = some (i, k) ∧ Seg F (p + 1) k ∧ Seg F (p + 1 + k.cnt) r := by
 refine ⟨by have := h 0 (by simp [Fo.cnt]; omega); simpa [D6] using this, fun j hj => ?_, fun j hj => ?_⟩
 ·have := h (j + 1) (by simp [Fo.cnt]; omega);rw [show p + (j + 1) = p + 1 + j by omega] at this;rw [this, D6, List.getElem?_cons_succ, List.getElem?_append_left (by rw [Bu]; exact hj)]
 ·have := h (k.cnt + j + 1) (by simp [Fo.cnt]; omega);rw [show p + (k.cnt + j + 1) = p + 1 + k.cnt + j by omega] at this;rw [this, D6, List.getElem?_cons_succ, List.getElem?_append_right (by rw [Bu]; omega), Bu, Nat.add_sub_cancel_left]
theorem b7h {F G : Fo} : ∀ {p q : Nat}, Seg F p G → q < G.cnt → Seg F (p + q + 1) (Ai G q).2 ∧ (D6 F)[p + q]? = some (Ai G q) := by
 induction G with
 | nil => intro p q _ h; simp [Fo.cnt] at h
 | cons i k r ihk ihr =>
  intro p q hs hq;obtain ⟨h1, h2, h3⟩ := Oc hs;simp only [Fo.cnt] at hq;by_cases h0 : q = 0
  ·subst h0;exact ⟨by simpa [Ai, D6] using h2, by simpa [Ai, D6] using h1⟩
  ·by_cases hk : q - 1 < k.cnt
   ·have := ihk h2 hk
    have e : Ai (.cons i k r) q = Ai k (q - 1) := by
     unfold Ai;obtain ⟨q', rfl⟩ : ∃ q', q = q' + 1 := ⟨q - 1, by omega⟩;simp only [D6, List.getD_cons_succ, Nat.add_sub_cancel];rw [List.getD_eq_getElem?_getD, List.getElem?_append_left (by rw [Bu]; omega), ← List.getD_eq_getElem?_getD]
    rw [e, show p + q = p + 1 + (q - 1) by omega];exact this
   ·have := ihr h3 (show q - 1 - k.cnt < r.cnt by omega)
    have e : Ai (.cons i k r) q = Ai r (q - 1 - k.cnt) := by
     unfold Ai;obtain ⟨q', rfl⟩ : ∃ q', q = q' + 1 := ⟨q - 1, by omega⟩;simp only [D6, List.getD_cons_succ, Nat.add_sub_cancel];rw [List.getD_eq_getElem?_getD, List.getElem?_append_right (by rw [Bu]; omega), Bu, ← List.getD_eq_getElem?_getD]
    rw [e, show p + q = p + 1 + k.cnt + (q - 1 - k.cnt) by omega];exact this
theorem M0 {F : Fo} {p : Nat} (h : p < F.cnt) : Seg F (p + 1) (Ai F p).2 := by simpa using (b7h (a7r F) h).1
theorem a2d {F G : Fo} (n : Nat) : ∀ {p : Nat}, Seg F p G → D8 n G = (D0 G p).map fun q => txt F q n := by
 induction G with
 | nil => intro p _; rfl
 | cons i k r _ ihr =>
  intro p h;obtain ⟨h1, h2, h3⟩ := Oc h;simp only [D8, D0, List.map_cons, ← ihr h3];congr 1;simp [txt, Ai, List.getD_eq_getElem?_getD, h1]
theorem a0p {F : Fo} {p : Nat} (h : p < F.cnt) (n : Nat) : D8 n (Ai F p).2 = (D0 (Ai F p).2 (p + 1)).map fun q => txt F q n := a2d n (M0 h)
theorem a78 {G : Fo} : ∀ {p q : Nat}, q ∈ D0 G p → p ≤ q ∧ q < p + G.cnt := by
 induction G with
 | nil => intro p q h; cases h
 | cons i k r _ ihr =>
  intro p q h;simp only [D0, List.mem_cons] at h;simp only [Fo.cnt];rcases h with rfl | h
  ·omega
  ·have := ihr h; omega
theorem M2 {F : Fo} {p : Nat} (h : p < F.cnt) : p + 1 + (Ai F p).2.cnt ≤ F.cnt := by
 by_cases h0 : (Ai F p).2.cnt = 0
 ·omega
 ·have := M0 h ((Ai F p).2.cnt - 1) (by omega)
  have h1 : (D6 (Ai F p).2)[(Ai F p).2.cnt - 1]? ≠ none := by
   rw [ne_eq, List.getElem?_eq_none_iff, Bu]; omega
  rw [← this, ne_eq, List.getElem?_eq_none_iff, Bu] at h1;omega
theorem kid_lt {F : Fo} {p q : Nat} (h : p < F.cnt) (hq : q ∈ D0 (Ai F p).2 (p + 1)) : p < q ∧ q < F.cnt := by
 have := a78 hq;have := M2 h;omega
end
section
open Go.RowKit Go.Sort
end
section
def F56 (o : Out) : Prop := ∀ c l k, o = .bad c l k → c = 5 ∨ c = 6
def Fp (p : Pt) : Prop := ∀ d ts, F56 (p d ts)
theorem P3 {F : Fo} {r : List Tok} : F56 (.ok F r) := fun c l k e => by cases e
theorem f_5 {ts : List Tok} : F56 (Mr 5 ts) := fun c l k e => by cases e; exact .inl rfl
theorem f_6 {ts : List Tok} : F56 (Mr 6 ts) := fun c l k e => by cases e; exact .inr rfl
theorem F56.bind {o : Out} {f : Fo → List Tok → Out} (h : F56 o) (k : ∀ F r, F56 (f F r)) : F56 (o.bind f) := by
 cases o with
 | ok F r => exact k F r
 | bad c l m => exact h
theorem Ht {p : Prop} [Decidable p] {a b : Out} (ha : F56 a) (hb : F56 b) : F56 (if p then a else b) := by split <;> assumption
theorem I4 : Fp A3 := fun _ _ => P3
theorem Gr : Fp It := fun _ _ c l k e => by cases e; exact .inl rfl
theorem Fe (q : List Tok → Bool) : Fp (Hr q) := fun _ _ => Ht P3 f_5
theorem Lf {a b : Pt} (ha : Fp a) (hb : Fp b) : Fp (Di a b) := fun d ts => (ha d ts).bind fun F r => (hb d r).bind fun _ _ => P3
theorem Kw {p : Pt} (hp : Fp p) : Fp (Cf p) := fun d ts => hp d _
theorem Lg (x : List UInt8) {a b : Pt} (ha : Fp a) (hb : Fp b) : Fp (Fq x a b) := fun d ts => Ht (ha d ts) (hb d ts)
theorem P1 {p : Pt} (hp : Fp p) : Fp (Cm p) := fun d ts => Ht f_6 (hp _ _)
theorem Ex (o c : List UInt8) {p : Pt} (hp : Fp p) : Fp (Aq o c p) := fun d ts => Ht (Lf (P1 hp) (Fe _) d ts) f_5
theorem Ih (mk : List Tok → Inf) {p : Pt} (hp : Fp p) : Fp (Bx mk p) := fun d ts => (hp d ts).bind fun _ _ => P3
theorem Yq {p : Pt} (hp : Fp p) : ∀ n, Fp (Gl p n)
 | 0 => Gr
 | n + 1 => fun d ts => (hp d ts).bind fun F r => Ht ((Yq hp n d _).bind fun _ _ => P3) P3
theorem Uw {p : Pt} (hp : Fp p) (n : Nat) : Fp (C2 p n) := Lg _ I4 (Yq hp n)
theorem Yu {p : Pt} (hp : Fp p) (F : Fo) (d : Nat) (ts : List Tok) : F56 (C9 p F d ts) := (hp d _).bind fun _ _ => P3
theorem a5d {p : Pt} (hp : Fp p) (S : List (List UInt8)) : ∀ n F d ts, F56 (Cp p S n F d ts)
 | 0, _, d, ts => Gr d ts
 | n + 1, F, d, ts => Ht ((Yu hp F d ts).bind fun G r => a5d hp S n G d r) P3
theorem On {p : Pt} (hp : Fp p) (S : List (List UInt8)) (n : Nat) : Fp (C4 p S n) := fun d ts => (hp d ts).bind fun F r => a5d hp S n F d r
theorem a44 {p : Pt} (hp : Fp p) (S : List (List UInt8)) : Fp (Js p S) := fun d ts => (hp d ts).bind fun F r => Ht (Yu hp F d r) P3
theorem Yp : Fp Au := fun d ts => by
 unfold Au;split
 ·exact P3
 ·exact f_5
theorem a9u : Fp Fc := fun d ts => by
 unfold Fc;split
 ·exact P3
 ·exact f_5
theorem P0 {p : Pt} (hp : Fp p) : Fp (A7 p) := Ih _ (Ex _ _ hp)
theorem Pz : ∀ n, Fp (Cz n)
 | 0 => Gr
 | n + 1 => Lg _ (P0 (Pz n)) Yp
section
variable {E : Pt} (hE : Fp E)
include hE
theorem b4o (n : Nat) : Fp (Gk E n) := fun d ts => Ht (Ih _ (Kw (Ex _ _ (Uw hE n))) d ts) P3
theorem b4p (n : Nat) : Fp (J9 E n) := Ih _ (Kw fun d ts => Ht (Lf Yp (Ex _ _ I4) d ts) (Lf (P0 (Pz n)) (Ex _ _ hE) d ts))
theorem b4r (n : Nat) : Fp (Eo E n) := fun d ts => Ht (Ex _ _ hE d ts) (Ht (b4p hE n d ts) (Ht (b4o hE n d ts) (a9u d ts)))
theorem a5c : ∀ n F d ts, F56 (C8 E n F d ts)
 | 0, _, d, ts => Gr d ts
 | n + 1, F, d, ts => Ht ((Ex _ _ hE d ts).bind fun G r => a5c n _ d r) (Ht ((Fe _ d _).bind fun _ r => a5c n _ d r) P3)
theorem b4n (n : Nat) : Fp (H9 E n) := fun d ts => (b4r hE n d ts).bind fun F r => a5c hE n F d r
end
theorem a9t {U p : Pt} (hU : Fp U) (hp : Fp p) : Fp (Cy U p) := fun d ts => Ht (Ih _ (P1 hU) d ts) (Ht (Ih _ (P1 hU) d ts) (hp d ts))
theorem c1g {u : Pt} (h : Fp u) (n : Nat) : Fp (orP u n) := On (On (a44 (a44 (On (On h _ n) _ n) _) _) _ n) _ n
theorem b9h : ∀ n, Fp (Bc n) ∧ Fp (unP n)
 | 0 => ⟨Gr, Gr⟩
 | n + 1 => by
  obtain ⟨h1, h2⟩ := b9h n;have h := a9t h2 (b4n h1 (n + 1));exact ⟨c1g h (n + 1), h⟩
theorem b4y {p : Pt} (hp : Fp p) (ts : List Tok) : F56 (Ha p ts) := (hp 0 ts).bind fun _ _ => Ht P3 f_5
end
end Go.Proofs.YtoaplbljflhheaaGreat
