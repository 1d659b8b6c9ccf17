/-
 Contracts and plain facts on the way to PrettyTerms. Conditions: as each says.
-/
import Derived.Test.YtoaplbljflhheaaGreatTal
import Derived.Test.YtoaplbljflhheaaGreatTam
set_option maxHeartbeats 40000000
set_option maxRecDepth 100000
set_option linter.unusedVariables false
set_option linter.unusedSimpArgs false
namespace Go.Proofs.YtoaplbljflhheaaGreat
def opS (op : Int) : List UInt8 × Nat :=
 if op = 15 then ([124, 124], 1) else if op = 14 then ([38, 38], 2) else if op = 6 then ([61, 61], 3) else if op = 7 then ([33, 61], 3)
 else if op = 8 then ([60], 4) else if op = 9 then ([60, 61], 4) else if op = 10 then ([62], 4) else if op = 11 then ([62, 61], 4)
 else if op = 1 then ([43], 5) else if op = 2 then ([45], 5) else if op = 3 then ([42], 6) else if op = 4 then ([47], 6) else if op = 5 then ([37], 6)
 else if op = 12 then ([45], 7) else if op = 13 then ([33], 7) else ([], 0)
def lvl (i : Inf) : Nat := if i.kind = 30 ∨ i.kind = 31 then (opS i.num).2 else 8
abbrev Tx := Inf × List UInt8
def b4q : Inf := ⟨0, 0, 0, 0, []⟩
def kth (ks : List Tx) (j : Nat) : Tx := ks.getD j (b4q, [])
def brk (m : Nat) (x : Tx) : List UInt8 := if lvl x.1 < m then 40 :: (x.2 ++ [41]) else x.2
def C6 (n : Nat) : Nat := if n = 3 ∨ n = 4 then n + 1 else n
def Cm : List Tx → List UInt8
 | [] => []
 | x :: l => x.2 ++ l.flatMap fun y => [44, 32] ++ y.2
def nl (n : Nat) : List UInt8 := 10 :: List.replicate n 9
def lines (n : Nat) (ks : List Tx) : List UInt8 := [123] ++ (ks.flatMap fun x => nl (n + 1) ++ x.2) ++ nl n ++ [125]
def D5 (i : Inf) : List UInt8 :=
 if i.kind = 21 then Nm.dec i.num.toNat else if i.kind = 22 then Nm.dec i.num.toNat ++ [105] else if i.kind = 23 then lit i.text
 else if i.kind = 24 then (if i.num = 0 then [102, 97, 108, 115, 101] else [116, 114, 117, 101]) else if i.kind = 25 then [110, 105, 108] else i.text
def Kk (i : Inf) (ks : List Tx) : List UInt8 :=
 if i.kind = 15 then [105, 110, 116] else if i.kind = 16 then [98, 111, 111, 108] else if i.kind = 17 then [115, 116, 114] else if i.kind = 18 then [99, 111, 109, 112]
 else if i.kind = 19 then i.text else [91] ++ (kth ks 0).2 ++ [93]
def Ee (n : Nat) (i : Inf) (ks : List Tx) : List UInt8 := match i.kind with
 | 1 => ks.flatMap fun x => x.2 ++ [10]
 | 2 => [114, 101, 99, 32] ++ i.text ++ [32] ++ lines n ks
 | 3 => i.text ++ [58, 32] ++ (kth ks 0).2 ++ [59]
 | 4 => [102, 110, 32] ++ i.text ++ [40] ++ Cm (ks.take i.num.toNat) ++ [41] ++ (if (kth ks i.num.toNat).1.kind = 14 then [] else [58, 32] ++ (kth ks i.num.toNat).2) ++ [32] ++ (kth ks (i.num.toNat + 1)).2
 | 5 => i.text ++ [58, 32] ++ (kth ks 0).2
 | 6 => lines n ks
 | 7 => [118, 97, 114, 32] ++ i.text ++ [58, 32] ++ (kth ks 0).2 ++ [32, 61, 32] ++ (kth ks 1).2 ++ [59]
 | 8 => (kth ks 0).2 ++ [32, 61, 32] ++ (kth ks 1).2 ++ [59]
 | 9 => [105, 102, 32] ++ (kth ks 0).2 ++ [32] ++ (kth ks 1).2 ++ (if ks.length = 3 then [32, 101, 108, 115, 101, 32] ++ (kth ks 2).2 else [])
 | 10 => [119, 104, 105, 108, 101, 32] ++ (kth ks 0).2 ++ [32] ++ (kth ks 1).2
 | 11 => [114, 101, 116, 117, 114, 110] ++ (if ks.length = 1 then [32] ++ (kth ks 0).2 else []) ++ [59]
 | 12 => [112, 114, 105, 110, 116, 32] ++ (kth ks 0).2 ++ [59]
 | 13 => (kth ks 0).2 ++ [59]
 | 14 => []
 | 15 | 16 | 17 | 18 | 19 | 20 => Kk i ks
 | 21 | 22 | 23 | 24 | 25 | 26 => D5 i
 | 27 => i.text ++ [40] ++ Cm ks ++ [41]
 | 28 => brk 8 (kth ks 0) ++ [91] ++ (kth ks 1).2 ++ [93]
 | 29 => brk 8 (kth ks 0) ++ [46] ++ i.text
 | 30 => (opS i.num).1 ++ brk 7 (kth ks 0)
 | 31 => brk (C6 (opS i.num).2) (kth ks 0) ++ [32] ++ (opS i.num).1 ++ [32] ++ brk ((opS i.num).2 + 1) (kth ks 1)
 | 32 => [109, 97, 107, 101, 32] ++ (kth ks 0).2 ++ [40] ++ Cm ks.tail ++ [41]
 | _ => []
def Cv (n : Nat) (i : Inf) : Nat := if i.kind = 2 ∨ i.kind = 6 then n + 1 else n
def Ci (n : Nat) : Fo → List Tx
 | .nil => []
 | .cons i k r => (i, Ee n i (Ci (Cv n i) k)) :: Ci n r
def C5 : Fo → Nat → List Nat
 | .nil, _ => []
 | .cons _ k r, p => p :: C5 r (p + 1 + k.cnt)
def Cx : Fo → List (Inf × Fo)
 | .nil => []
 | .cons i k r => (i, k) :: (Cx k ++ Cx r)
theorem Ba (F : Fo) : (Cx F).length = F.cnt := by
 induction F with
 | nil => rfl
 | cons i k r ihk ihr => simp [Cx, Fo.cnt, ihk, ihr]; omega
theorem I5 (F : Fo) : F.pre = (Cx F).map fun x => x.1.nd x.2.cnt := by
 induction F with
 | nil => rfl
 | cons i k r ihk ihr => simp [Cx, Fo.pre, ihk, ihr]
def Ag (F : Fo) (p : Nat) : Inf × Fo := (Cx F).getD p (b4q, .nil)
def txt (F : Fo) (p n : Nat) : Tx := ((Ag F p).1, Ee n (Ag F p).1 (Ci (Cv n (Ag F p).1) (Ag F p).2))
def Seg (F : Fo) (p : Nat) (G : Fo) : Prop := ∀ j, j < G.cnt → (Cx F)[p + j]? = (Cx G)[j]?
theorem a2n (F : Fo) : Seg F 0 F := fun j _ => by rw [Nat.zero_add]
theorem Ku {F : Fo} {p : Nat} {i : Inf} {k r : Fo} (h : Seg F p (.cons i k r)) : (Cx F)[p]? = some (i, k) ∧ Seg F (p + 1) k ∧ Seg F (p + 1 + k.cnt) r := by
 refine ⟨by have := h 0 (by simp [Fo.cnt]; omega); simpa [Cx] using this, fun j hj => ?_, fun j hj => ?_⟩
 ·have := h (j + 1) (by simp [Fo.cnt]; omega)
  rw [show p + (j + 1) = p + 1 + j by omega] at this
  rw [this, Cx, List.getElem?_cons_succ, List.getElem?_append_left (by rw [Ba]; exact hj)]
 ·have := h (k.cnt + j + 1) (by simp [Fo.cnt]; omega)
  rw [show p + (k.cnt + j + 1) = p + 1 + k.cnt + j by omega] at this
  rw [this, Cx, List.getElem?_cons_succ, List.getElem?_append_right (by rw [Ba]; omega), Ba, Nat.add_sub_cancel_left]
theorem b1z {F G : Fo} : ∀ {p q : Nat}, Seg F p G → q < G.cnt → Seg F (p + q + 1) (Ag G q).2 ∧ (Cx F)[p + q]? = some (Ag G q) := by
 induction G with
 | nil => intro p q _ h; simp [Fo.cnt] at h
 | cons i k r ihk ihr =>
  intro p q hs hq
  obtain ⟨h1, h2, h3⟩ := Ku hs
  simp only [Fo.cnt] at hq
  by_cases h0 : q = 0
  ·subst h0
   exact ⟨by simpa [Ag, Cx] using h2, by simpa [Ag, Cx] using h1⟩
  ·by_cases hk : q - 1 < k.cnt
   ·have := ihk h2 hk
    have e : Ag (.cons i k r) q = Ag k (q - 1) := by
     unfold Ag
     obtain ⟨q', rfl⟩ : ∃ q', q = q' + 1 := ⟨q - 1, by omega⟩
     simp only [Cx, List.getD_cons_succ, Nat.add_sub_cancel]
     rw [List.getD_eq_getElem?_getD, List.getElem?_append_left (by rw [Ba]; omega), ← List.getD_eq_getElem?_getD]
    rw [e, show p + q = p + 1 + (q - 1) by omega]
    exact this
   ·have := ihr h3 (show q - 1 - k.cnt < r.cnt by omega)
    have e : Ag (.cons i k r) q = Ag r (q - 1 - k.cnt) := by
     unfold Ag
     obtain ⟨q', rfl⟩ : ∃ q', q = q' + 1 := ⟨q - 1, by omega⟩
     simp only [Cx, List.getD_cons_succ, Nat.add_sub_cancel]
     rw [List.getD_eq_getElem?_getD, List.getElem?_append_right (by rw [Ba]; omega), Ba, ← List.getD_eq_getElem?_getD]
    rw [e, show p + q = p + 1 + k.cnt + (q - 1 - k.cnt) by omega]
    exact this
theorem Js {F : Fo} {p : Nat} (h : p < F.cnt) : Seg F (p + 1) (Ag F p).2 := by simpa using (b1z (a2n F) h).1
theorem Xz {F G : Fo} (n : Nat) : ∀ {p : Nat}, Seg F p G → Ci n G = (C5 G p).map fun q => txt F q n := by
 induction G with
 | nil => intro p _; rfl
 | cons i k r _ ihr =>
  intro p h
  obtain ⟨h1, h2, h3⟩ := Ku h
  simp only [Ci, C5, List.map_cons, ← ihr h3]
  congr 1
  simp [txt, Ag, List.getD_eq_getElem?_getD, h1]
theorem Vw {F : Fo} {p : Nat} (h : p < F.cnt) (n : Nat) : Ci n (Ag F p).2 = (C5 (Ag F p).2 (p + 1)).map fun q => txt F q n := Xz n (Js h)
theorem a23 {G : Fo} : ∀ {p q : Nat}, q ∈ C5 G p → p ≤ q ∧ q < p + G.cnt := by
 induction G with
 | nil => intro p q h; cases h
 | cons i k r _ ihr =>
  intro p q h
  simp only [C5, List.mem_cons] at h
  simp only [Fo.cnt]
  rcases h with rfl | h
  ·omega
  ·have := ihr h; omega
theorem Ju {F : Fo} {p : Nat} (h : p < F.cnt) : p + 1 + (Ag F p).2.cnt ≤ F.cnt := by
 by_cases h0 : (Ag F p).2.cnt = 0
 ·omega
 ·have := Js h ((Ag F p).2.cnt - 1) (by omega)
  have h1 : (Cx (Ag F p).2)[(Ag F p).2.cnt - 1]? ≠ none := by
   rw [ne_eq, List.getElem?_eq_none_iff, Ba]; omega
  rw [← this, ne_eq, List.getElem?_eq_none_iff, Ba] at h1
  omega
theorem kid_lt {F : Fo} {p q : Nat} (h : p < F.cnt) (hq : q ∈ C5 (Ag F p).2 (p + 1)) : p < q ∧ q < F.cnt := by
 have := a23 hq
 have := Ju h
 omega
end Go.Proofs.YtoaplbljflhheaaGreat
namespace Go.Proofs.YtoaplbljflhheaaGreat
open Go.RowKit Go.Sort
end Go.Proofs.YtoaplbljflhheaaGreat
namespace Go.Proofs.YtoaplbljflhheaaGreat
def F56 (o : Out) : Prop := ∀ c l k, o = .bad c l k → c = 5 ∨ c = 6
def Fp (p : Pt) : Prop := ∀ d ts, F56 (p d ts)
theorem To {F : Fo} {r : List Tok} : F56 (.ok F r) := fun c l k e => by cases e
theorem f_5 {ts : List Tok} : F56 (Kq 5 ts) := fun c l k e => by cases e; exact .inl rfl
theorem f_6 {ts : List Tok} : F56 (Kq 6 ts) := fun c l k e => by cases e; exact .inr rfl
theorem F56.bind {o : Out} {f : Fo → List Tok → Out} (h : F56 o) (k : ∀ F r, F56 (f F r)) : F56 (o.bind f) := by
 cases o with
 | ok F r => exact k F r
 | bad c l m => exact h
theorem Hk {p : Prop} [Decidable p] {a b : Out} (ha : F56 a) (hb : F56 b) : F56 (if p then a else b) := by split <;> assumption
theorem Np : Fp C2 := fun _ _ => To
theorem Hx : Fp H9 := fun _ _ c l k e => by cases e; exact .inl rfl
theorem a0g (q : List Tok → Bool) : Fp (Gx q) := fun _ _ => Hk To f_5
theorem a0f {a b : Pt} (ha : Fp a) (hb : Fp b) : Fp (Lr a b) := fun d ts => (ha d ts).bind fun F r => (hb d r).bind fun _ _ => To
theorem Tn {p : Pt} (hp : Fp p) : Fp (Fc p) := fun d ts => hp d _
theorem a6n (x : List UInt8) {a b : Pt} (ha : Fp a) (hb : Fp b) : Fp (L5 x a b) := fun d ts => Hk (ha d ts) (hb d ts)
theorem Md {p : Pt} (hp : Fp p) : Fp (By p) := fun d ts => Hk f_6 (hp _ _)
theorem Ga (o c : List UInt8) {p : Pt} (hp : Fp p) : Fp (Ax o c p) := fun d ts => Hk (a0f (Md hp) (a0g _) d ts) f_5
theorem Mb (mk : List Tok → Inf) {p : Pt} (hp : Fp p) : Fp (Dm mk p) := fun d ts => (hp d ts).bind fun _ _ => To
theorem Tm {p : Pt} (hp : Fp p) : ∀ n, Fp (F0 p n)
 | 0 => Hx
 | n + 1 => fun d ts => (hp d ts).bind fun F r => Hk ((Tm hp n d _).bind fun _ _ => To) To
theorem a0i {p : Pt} (hp : Fp p) (n : Nat) : Fp (Dn p n) := a6n _ Np (Tm hp n)
theorem Tp {p : Pt} (hp : Fp p) (F : Fo) (d : Nat) (ts : List Tok) : F56 (Ct p F d ts) := (hp d _).bind fun _ _ => To
theorem a0q {p : Pt} (hp : Fp p) (S : List (List UInt8)) : ∀ n F d ts, F56 (B9 p S n F d ts)
 | 0, _, d, ts => Hx d ts
 | n + 1, F, d, ts => Hk ((Tp hp F d ts).bind fun G r => a0q hp S n G d r) To
theorem K5 {p : Pt} (hp : Fp p) (S : List (List UInt8)) (n : Nat) : Fp (Ce p S n) := fun d ts => (hp d ts).bind fun F r => a0q hp S n F d r
theorem a0h {p : Pt} (hp : Fp p) (S : List (List UInt8)) : Fp (Hf p S) := fun d ts => (hp d ts).bind fun F r => Hk (Tp hp F d r) To
theorem Tl : Fp Am := fun d ts => by
 unfold Am
 split
 ·exact To
 ·exact f_5
theorem a4l : Fp Eb := fun d ts => by
 unfold Eb
 split
 ·exact To
 ·exact f_5
theorem Mc {p : Pt} (hp : Fp p) : Fp (Az p) := Mb _ (Ga _ _ hp)
theorem a0e : ∀ n, Fp (Fd n)
 | 0 => Hx
 | n + 1 => a6n _ (Mc (a0e n)) Tl
section
variable {E : Pt} (hE : Fp E)
include hE
theorem a9e (n : Nat) : Fp (Es E n) := fun d ts => Hk (Mb _ (Tn (Ga _ _ (a0i hE n))) d ts) To
theorem a9f (n : Nat) : Fp (Fg E n) := Mb _ (Tn fun d ts => Hk (a0f Tl (Ga _ _ Np) d ts) (a0f (Mc (a0e n)) (Ga _ _ hE) d ts))
theorem a9g (n : Nat) : Fp (Du E n) := fun d ts => Hk (Ga _ _ hE d ts) (Hk (a9f hE n d ts) (Hk (a9e hE n d ts) (a4l d ts)))
theorem a0p : ∀ n F d ts, F56 (Cr E n F d ts)
 | 0, _, d, ts => Hx d ts
 | n + 1, F, d, ts => Hk ((Ga _ _ hE d ts).bind fun G r => a0p n _ d r) (Hk ((a0g _ d _).bind fun _ r => a0p n _ d r) To)
theorem a9d (n : Nat) : Fp (Fv E n) := fun d ts => (a9g hE n d ts).bind fun F r => a0p hE n F d r
end
theorem a4k {U p : Pt} (hU : Fp U) (hp : Fp p) : Fp (Cq U p) := fun d ts => Hk (Mb _ (Md hU) d ts) (Hk (Mb _ (Md hU) d ts) (hp d ts))
theorem b5d {u : Pt} (h : Fp u) (n : Nat) : Fp (orP u n) := K5 (K5 (a0h (a0h (K5 (K5 h _ n) _ n) _) _) _ n) _ n
theorem b3l : ∀ n, Fp (Aw n) ∧ Fp (unP n)
 | 0 => ⟨Hx, Hx⟩
 | n + 1 => by
  obtain ⟨h1, h2⟩ := b3l n
  have h := a4k h2 (a9d h1 (n + 1))
  exact ⟨b5d h (n + 1), h⟩
theorem a9l {p : Pt} (hp : Fp p) (ts : List Tok) : F56 (D0 p ts) := (hp 0 ts).bind fun _ _ => Hk To f_5
end Go.Proofs.YtoaplbljflhheaaGreat
