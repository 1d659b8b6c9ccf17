/-
 Contracts and plain facts on the way to PrettyExprs. Conditions: as each says.
-/
import Derived.Test.YtoaplbljflhheaaGreatKbz
import Derived.Test.YtoaplbljflhheaaGreatKby
import Derived.Test.YtoaplbljflhheaaGreatKbl
import Derived.Test.YtoaplbljflhheaaGreatKbx
import Derived.Test.YtoaplbljflhheaaGreatKay
import Derived.Test.YtoaplbljflhheaaGreatKai
import Derived.Test.YtoaplbljflhheaaGreatKbu
import Derived.Test.YtoaplbljflhheaaGreatKag
set_option maxHeartbeats 40000000
set_option maxRecDepth 100000
set_option linter.unusedVariables false
set_option linter.unusedSimpArgs false
namespace Go.Proofs.YtoaplbljflhheaaGreat
def Oq : Fo → List Nat
 | .nil => []
 | .cons i _ r => i.kind :: Oq r
def Zc (i : Inf) (K : Fo) : Bool := Ba i.kind i.text && Bn i.kind i.num && C3 i.kind i.num (Oq K)
def Ni : Fo → Bool
 | .nil => true
 | .cons i K r => Zc i K && Ni K && Ni r
def b4b (i : Inf) : Inf := ⟨i.kind, 0, 0, i.num, i.text⟩
def U9 : Fo → Fo
 | .nil => .nil
 | .cons i k r => .cons (b4b i) (U9 k) (U9 r)
theorem a2u {F : Fo} (h : Ni F = true) : ∀ x ∈ Fi F, Zc x.1 x.2 = true := by
 induction F with
 | nil => intro x hx; cases hx
 | cons i k r ihk ihr =>
  rw [Ni, Bool.and_eq_true, Bool.and_eq_true] at h
  intro x hx
  simp only [Fi, List.mem_cons, List.mem_append] at hx
  rcases hx with rfl | hx | hx
  ·exact h.1.1
  ·exact ihk h.1.2 x hx
  ·exact ihr h.2 x hx
def a8s (l : List Nd) (p : Nat) (G : Fo) : Prop := ∀ j, j < G.cnt → l[p + j]? = G.pre[j]?
theorem Oj {l : List Nd} {p : Nat} {i : Inf} {k r : Fo} (h : a8s l p (.cons i k r)) : nd l p = i.nd k.cnt ∧ a8s l (p + 1) k ∧ a8s l (p + 1 + k.cnt) r := by
 refine ⟨?_, fun j hj => ?_, fun j hj => ?_⟩
 ·have := h 0 (by simp [Fo.cnt]; omega)
  rw [Nat.add_zero] at this
  unfold nd
  rw [List.getD_eq_getElem?_getD, this]
  rfl
 ·have := h (j + 1) (by simp [Fo.cnt]; omega)
  rw [show p + (j + 1) = p + 1 + j by omega] at this
  rw [this, Fo.pre, List.getElem?_cons_succ, List.getElem?_append_left (by rw [Dj]; exact hj)]
 ·have := h (k.cnt + j + 1) (by simp [Fo.cnt]; omega)
  rw [show p + (k.cnt + j + 1) = p + 1 + k.cnt + j by omega] at this
  rw [this, Fo.pre, List.getElem?_cons_succ, List.getElem?_append_right (by rw [Dj]; omega), Dj, Nat.add_sub_cancel_left]
theorem Zy {l : List Nd} : ∀ (G : Fo) (p : Nat), a8s l p G → Bv (sz l) (p + G.cnt) p = some (Cv G p) := by
 intro G
 induction G with
 | nil => intro p _; rw [Fo.cnt, A3 (by omega)]; rfl
 | cons i k r _ ihr =>
  intro p h
  obtain ⟨h1, h2, h3⟩ := Oj h
  have hs : sz l p = k.cnt := by unfold sz; rw [h1]; rfl
  rw [Fo.cnt, A8 (by omega) (by rw [hs]; omega), hs, Int.toNat_natCast, show p + (k.cnt + 1 + r.cnt) = p + 1 + k.cnt + r.cnt by omega, ihr _ h3]
  rfl
theorem b15 {l : List Nd} : ∀ (G : Fo) (f p : Nat), a8s l p G → G.cnt ≤ f → fo l f p (p + G.cnt) = U9 G := by
 intro G
 induction G with
 | nil => intro f p _ _; rw [Fo.cnt, Nat.add_zero, b16]; rfl
 | cons i k r ihk ihr =>
  intro f p h hf
  rw [Fo.cnt] at hf
  obtain ⟨f, rfl⟩ : ∃ f', f = f' + 1 := ⟨f - 1, by omega⟩
  obtain ⟨h1, h2, h3⟩ := Oj h
  have hs : sz l p = k.cnt := by unfold sz; rw [h1]; rfl
  rw [Fo.cnt, fo, if_pos (by omega), hs, Int.toNat_natCast, ihk f (p + 1) h2 (by omega), show p + (k.cnt + 1 + r.cnt) = p + 1 + k.cnt + r.cnt by omega, ihr f _ h3 (by omega), h1, U9]
  congr 1
theorem W8 (F : Fo) : a8s F.pre 0 F := fun j _ => by rw [Nat.zero_add]
theorem a1b {F G : Fo} {p : Nat} (h : Seg F p G) : a8s F.pre p G := fun j hj => by
 rw [M2, M2, List.getElem?_map, List.getElem?_map, h j hj]
theorem a1h (F : Fo) : Hd F.pre = U9 F := by
 have := b15 F F.pre.length 0 (W8 F) (by rw [Dj]; omega)
 rw [Nat.zero_add] at this
 rw [Hd, Dj]
 rw [Dj] at this
 exact this
theorem L7 {F : Fo} {p : Nat} (hp : p < F.cnt) : nd F.pre p = (Aj F p).1.nd (Aj F p).2.cnt := by
 unfold nd Aj
 rw [List.getD_eq_getElem?_getD, M2, List.getElem?_map, List.getD_eq_getElem?_getD, List.getElem?_eq_getElem (by rw [Br]; exact hp)]
 rfl
theorem O6 {F : Fo} {p : Nat} (hp : p < F.cnt) : Bv (sz F.pre) (p + 1 + (sz F.pre p).toNat) (p + 1) = some (Cv (Aj F p).2 (p + 1)) := by
 have hs : sz F.pre p = (Aj F p).2.cnt := by unfold sz; rw [L7 hp]; rfl
 rw [hs, Int.toNat_natCast]
 exact Zy _ _ (a1b (Gh hp))
theorem Xp (i : Inf) (K : Fo) : Right (sz (Fo.cons i K .nil).pre) (Fo.cons i K .nil).cnt := by
 refine ⟨by simp [Fo.cnt], ?_, fun j hj => ?_⟩
 ·unfold sz
  rw [L7 (by simp [Fo.cnt])]
  simp [Aj, Fi, Inf.nd, Fo.cnt]
 ·have hs : sz (Fo.cons i K .nil).pre j = (Aj (Fo.cons i K .nil) j).2.cnt := by unfold sz; rw [L7 hj]; rfl
  have := Gj hj
  exact ⟨by omega, by omega, by rw [O6 hj]; rfl⟩
theorem W7 {F G : Fo} : ∀ {p : Nat}, Seg F p G → (Cv G p).map (Ah F.pre) = Oq G := by
 induction G with
 | nil => intro p _; rfl
 | cons i k r _ ihr =>
  intro p h
  obtain ⟨h1, h2, h3⟩ := Jv h
  have hp : p < F.cnt := by
   have := (List.getElem?_eq_some_iff.1 h1).1
   rwa [Br] at this
  rw [Cv, List.map_cons, ihr h3, Oq, Ah, L7 hp]
  simp [Aj, List.getD_eq_getElem?_getD, h1, Inf.nd]
theorem b1u {F : Fo} (h : Ni F = true) {p : Nat} (hp : p < F.cnt) : Rr F.pre p := by
 have hk : Al (sz F.pre) p = Cv (Aj F p).2 (p + 1) := by unfold Al; rw [O6 hp]; rfl
 have hg := a2u h (Aj F p) (by
  unfold Aj
  rw [List.getD_eq_getElem?_getD, List.getElem?_eq_getElem (by rw [Br]; exact hp)]
  exact List.getElem_mem _)
 unfold Zc at hg
 rw [Bool.and_eq_true, Bool.and_eq_true] at hg
 unfold Rr
 rw [hk, W7 (Gh hp), L7 hp]
 refine ⟨?_, hg.1.2, hg.2⟩
 show Ba (Aj F p).1.kind (bs (Aj F p).1.text).data.toList = true
 rw [Bh]
 exact hg.1.1
theorem a61 {i : Inf} {K : Fo} (hi : i.kind = 1) (h : Ni (.cons i K .nil) = true) : Uu (Fo.cons i K .nil).pre = true := by
 unfold Uu
 rw [Bool.and_eq_true, Bool.and_eq_true, decide_eq_true_eq]
 refine ⟨⟨Cd (by rw [Dj]; exact Xp i K), ?_⟩, List.all_eq_true.2 fun j hj => ?_⟩
 ·rw [Ah, L7 (by simp [Fo.cnt])]
  simpa [Aj, Fi, Inf.nd] using hi
 ·rw [List.mem_range, Dj] at hj
  obtain ⟨a, b, c⟩ := b1u h hj
  rw [Bool.and_eq_true, Cb, Bool.and_eq_true, Gs]
  exact ⟨⟨a, b⟩, c⟩
def a7b (k : Nat) (t : List UInt8) : Inf := ⟨k, 0, 0, 0, t⟩
theorem Np {i : Inf} {K : Fo} (h1 : 21 ≤ i.kind) (h2 : i.kind ≤ 32) (h : Ni (.cons i K .nil) = true) : Gx (Fo.cons i K .nil).pre = true := by
 unfold Gx
 have e : Fc (Fo.cons i K .nil).pre.length ++ (Fo.cons i K .nil).pre = (Fo.cons (a7b 1 []) (.cons (a7b 4 [102]) (.cons (a7b 14 []) .nil (.cons (a7b 6 []) (.cons (a7b 12 []) (.cons i K .nil) .nil) .nil)) .nil) .nil).pre := by
  rw [Dj]
  simp only [Fo.pre, List.append_nil, List.nil_append, List.cons_append, Fo.cnt, Nat.add_zero, Fc, Inf.nd, a7b]
  simp only [List.cons.injEq, Nd.mk.injEq, true_and, and_true]
  and_intros <;> first | rfl | omega
 rw [e]
 refine a61 rfl ?_
 have h' := h
 simp only [Ni, Bool.and_true, Zc] at h'
 simp only [Ni, Bool.and_true, Zc, Oq, a7b, h']
 have hk : C3 12 0 [i.kind] = true := by
  show Az [Bm] [i.kind] = true
  simp [Az, Bm, List.range, List.range.loop, h1, h2]
 rw [hk]
 rfl
theorem Kt (F : Fo) : Cz F.pre = (txt (U9 F) 0 0).2 := by rw [Cz, a1h]
end Go.Proofs.YtoaplbljflhheaaGreat
namespace Go.Proofs.YtoaplbljflhheaaGreat
open Go.RowKit Go.Sort
theorem Vr {H l : List Nd} (hH : ∀ x ∈ H, x.wf) (hl : ∀ i, i < l.length → (nd l i).wf) : ∀ i, i < (H ++ l).length → (nd (H ++ l) i).wf := fun i hi => by
 by_cases h : i < H.length
 ·rw [Na h]; exact Qc hH i h
 ·obtain ⟨j, rfl⟩ : ∃ j, i = j + H.length := ⟨i - H.length, by omega⟩
  rw [Md]
  rw [List.length_append] at hi
  exact hl j (by omega)
theorem Ol {w : World} {a : Option Addr} {l : List Nd} (h : Row w a l) : ∀ i, i < l.length → (nd l i).wf := fun i hi => by
 obtain ⟨_, _, _, _, h⟩ := h i hi
 exact h
theorem Yp {w : World} {B : Nat} {v : Value} {H l : List Nd} (h : H5 w B v (H ++ l)) (hp : 0 < H.length) (hH : ∀ x ∈ H, x.wf) (hl : ∀ i, i < l.length → (nd l i).wf) (hn : (H ++ l).length ≤ 1000000) (p : Bool) (hm : Uu (H ++ l) = p) :
  ∃ g N cap, v = .slice (some ⟨g, 0, none⟩) N cap ∧ Calls Tryz.prog 23 #[.slice (some ⟨g, 0, none⟩) N cap] w fun e w' => e = .returned (.bool p) ∧ Below w.heap.size w w' := by
 obtain ⟨g, cap, rfl, hr, -⟩ := Xk h (by rw [List.length_append]; omega) (Vr hH hl)
 exact ⟨g, _, cap, rfl, a63 _ _ _ _ _ rfl hn hr p hm⟩
theorem Ks {w : World} {a : Option Addr} {n cap : Nat} {l : List Nd} (hlen : l.length = n) (hn : n ≤ 4000) (hrow : Row w a l) (hlow : Vk w a) (hb : (l.map fun x => x.text.size).sum ≤ 100000)
  (hR : Right (sz l) l.length) (h0 : 15 ≤ (nd l 0).kind ∧ (nd l 0).kind ≤ 32) (A : ∀ p, p < l.length → Rr l p) :
  Calls Tryz.prog 24 #[.slice a n cap] w fun e w' => e = .returned (.string (bs (Cz l))) ∧ Below w.heap.size w w' := by
 subst hlen
 have hwf := Ol hrow
 obtain ⟨hc, hall⟩ := Hc hR
 have hp := hR.pos
 have hL := X1 hR hwf hn hb
 refine Ui (F := Hd l) (S := Cz l) (fun mb => a4x hR (by omega) A hwf (fun i hi => Nat.le_trans (a4k hi) hb) a cap mb) hrow rfl (by omega) (by omega) hlow ?_ rfl (by rw [hc]; exact hL)
 rw [(hall 0 hp).1]
 show (nd l 0).kind ≠ 14
 omega
theorem Sp {w : World} {a : Option Addr} {n cap : Nat} {l : List Nd} {p : Bool} (hz : a = none → n = 0 ∧ cap = 0) (hlen : l.length = n) (hn : n ≤ 4000) (hrow : Row w a l) (hlow : p = true → Vk w a) (hb : (l.map fun x => x.text.size).sum ≤ 100000) (hm : Gx l = p) :
  Calls Tryz.prog 13 #[.slice a n cap] w fun e w' => e = .returned (if p then .tuple #[.string (bs (Cz l)), .int .i64 0] else .tuple #[.string (bs []), .int .i64 1]) ∧ Below w.heap.size w w' := by
 have hwf := Ol hrow
 have HA := zz (Vc (w := w) (cap := cap) hz hlen (by omega) hrow)
 have HM := zz (fun (w1 : World) (B : Nat) (v : Value) (h : H5 w1 B v (Fc n ++ l)) => Yp h (by simp [Fc]) (Mp (by omega)) hwf (by rw [List.length_append, hlen]; simp [Fc]; omega) p (by rw [← hlen]; exact hm))
 have HP := zz (fun (h : p = true) (w1 : World) (hb1 : Below w.heap.size w w1) => by
  obtain ⟨q1, q2, q3⟩ := J5 (hm.trans h)
  rw [Bm, decide_eq_true_eq] at q2
  exact Ks (w := w1) (a := a) (cap := cap) hlen hn (hrow.carry hb1) ((hlow h).carry hb1) hb q1 (by omega) q3)
 clear hz hlen hn hrow hlow hb hm hwf
 go_enter Tryz.func13, Tryz.ntmps13
 go_wp2_with fail
 refine HA.out.mono ?_
 rintro e w1 ⟨v, rfl, ho, hb1⟩
 obtain ⟨g, N, c, rfl, hcall⟩ := HM.out _ _ _ ho
 replace hcall := zz hcall
 replace hb1 := zz hb1
 clear ho HM HA
 cases p with
 | false =>
  clear HP
  go_wp2_with fail
  refine hcall.out.mono ?_
  rintro e w2 ⟨rfl, hb2⟩
  replace hb2 := zz (Ab hb1.out hb2)
  go_wp2_with fail
  exact bodyPost_ret (v := .tuple #[.string (bs []), .int .i64 1]) (by simp [results, Tryz.results13, go_sem, bs]) rfl ⟨rfl, hb2.out⟩
 | true =>
  go_wp2_with fail
  refine hcall.out.mono ?_
  rintro e w2 ⟨rfl, hb2⟩
  replace hb2 := zz (Ab hb1.out hb2)
  go_wp2_with fail
  refine (HP.out True.intro _ hb2.out).mono ?_
  rintro e w3 ⟨rfl, hb3⟩
  replace hb3 := zz (Ab hb2.out hb3)
  go_wp2_with fail
  exact bodyPost_ret (v := .tuple #[.string (bs (Cz l)), .int .i64 0]) (by simp [results, Tryz.results13, go_sem]) rfl ⟨rfl, hb3.out⟩
theorem a2m {w : World} {a : Option Addr} {n cap : Nat} {l : List Nd} {p : Bool} (hz : a = none → n = 0 ∧ cap = 0) (hlen : l.length = n) (hn : n ≤ 4000) (hrow : Row w a l) (hlow : p = true → Vk w a) (hb : (l.map fun x => x.text.size).sum ≤ 100000) (hm : Kg l = p) :
  Calls Tryz.prog 14 #[.slice a n cap] w fun e w' => e = .returned (.string (bs (if p then Cz l else []))) ∧ Below w.heap.size w w' := by
 have hwf := Ol hrow
 have HA := zz (Vb (w := w) (cap := cap) hz hlen (by omega) hrow)
 have HM := zz (fun (w1 : World) (B : Nat) (v : Value) (h : H5 w1 B v (Ga n ++ l)) => Yp h (by simp [Ga]) (Mo (by omega)) hwf (by rw [List.length_append, hlen]; simp [Ga]; omega) p (by rw [← hlen]; exact hm))
 have HP := zz (fun (h : p = true) (w1 : World) (hb1 : Below w.heap.size w w1) => by
  obtain ⟨q1, q2, q3⟩ := Js (hm.trans h)
  rw [C2, decide_eq_true_eq] at q2
  exact Ks (w := w1) (a := a) (cap := cap) hlen hn (hrow.carry hb1) ((hlow h).carry hb1) hb q1 (by omega) q3)
 clear hz hlen hn hrow hlow hb hm hwf
 go_enter Tryz.func14, Tryz.ntmps14
 go_wp2_with fail
 refine HA.out.mono ?_
 rintro e w1 ⟨v, rfl, ho, hb1⟩
 obtain ⟨g, N, c, rfl, hcall⟩ := HM.out _ _ _ ho
 replace hcall := zz hcall
 replace hb1 := zz hb1
 clear ho HM HA
 cases p with
 | false =>
  clear HP
  go_wp2_with fail
  refine hcall.out.mono ?_
  rintro e w2 ⟨rfl, hb2⟩
  replace hb2 := zz (Ab hb1.out hb2)
  go_wp2_with fail
  go_ret
  exact ⟨rfl, hb2.out⟩
 | true =>
  go_wp2_with fail
  refine hcall.out.mono ?_
  rintro e w2 ⟨rfl, hb2⟩
  replace hb2 := zz (Ab hb1.out hb2)
  go_wp2_with fail
  refine (HP.out True.intro _ hb2.out).mono ?_
  rintro e w3 ⟨rfl, hb3⟩
  replace hb3 := zz (Ab hb2.out hb3)
  go_wp2_with fail
  go_ret
  exact ⟨rfl, hb3.out⟩
end Go.Proofs.YtoaplbljflhheaaGreat
namespace Go.Proofs.YtoaplbljflhheaaGreat
open Go.RowKit Go.Sort
def S9 : Nat → List UInt8 → Nat → Nat → Res
 | 0, _, _, _ => .error (0, 0, 0)
 | n + 1, l, line, col =>
  if l.isEmpty then .ok [⟨8, line, col, 0, []⟩]
  else if l.headD 0 = 10 then S9 n l.tail (line + 1) 1
  else if l.headD 0 = 32 ∨ l.headD 0 = 9 ∨ l.headD 0 = 13 then S9 n l.tail line (col + 1)
  else if l.headD 0 = 35 then S9 n (l.tail.drop (Bz nlf l.tail)) line (col + (Bz nlf l.tail + 1))
  else if (one l).err = 0 then (S9 n (l.drop (one l).size) line (col + (one l).size)).map (⟨(one l).kind, line, col, (one l).num, (one l).text⟩ :: ·)
  else .error ((one l).err, line, col)
theorem Mt (n : Nat) : ∀ (l : List UInt8) (a b : Nat), l.length < n → S9 n l a b = Eg l a b := by
 induction n with
 | zero => intro l a b h; omega
 | succ n ih =>
  intro l a b h
  rw [S9, Eg]
  by_cases hl : l = []
  ·subst hl; rfl
  ·have hp : 0 < l.length := List.length_pos_iff.2 hl
   rw [if_neg (by simpa using hl), dif_neg hl]
   split
   ·exact ih _ _ _ (by simp; omega)
   ·split
    ·exact ih _ _ _ (by simp; omega)
    ·split
     ·exact ih _ _ _ (by simp; omega)
     ·split
      ·rename_i h4
       have := O9 l hl h4
       rw [ih _ _ _ (by simp; omega)]
      ·rfl
def b22 : Fo := .cons ⟨31, 1, 6, 3, []⟩ (.cons ⟨31, 1, 3, 1, []⟩ (.cons ⟨26, 1, 2, 0, [97]⟩ .nil (.cons ⟨26, 1, 4, 0, [98]⟩ .nil .nil)) (.cons ⟨26, 1, 8, 0, [99]⟩ .nil .nil)) .nil
def b21 : Fo := .cons ⟨31, 1, 8, 2, []⟩ (.cons ⟨31, 1, 2, 2, []⟩ (.cons ⟨26, 1, 1, 0, [97]⟩ .nil (.cons ⟨31, 1, 5, 2, []⟩ (.cons ⟨26, 1, 4, 0, [98]⟩ .nil (.cons ⟨26, 1, 6, 0, [99]⟩ .nil .nil)) .nil)) (.cons ⟨26, 1, 9, 0, [100]⟩ .nil .nil)) .nil
def b20 : Fo := .cons ⟨30, 1, 1, 12, []⟩ (.cons ⟨30, 1, 3, 12, []⟩ (.cons ⟨26, 1, 4, 0, [120]⟩ .nil .nil) .nil) .nil
theorem b5u : Kq I7 [40, 97, 43, 98, 41, 42, 40, 99, 41] = (b22.pre, (0, 0, 0)) := by
 unfold Kq
 rw [if_neg (by decide), ← Mt 20 _ _ _ (by decide)]
 rfl
theorem b5t : Kq I7 [97, 45, 40, 98, 45, 99, 41, 45, 100] = (b21.pre, (0, 0, 0)) := by
 unfold Kq
 rw [if_neg (by decide), ← Mt 20 _ _ _ (by decide)]
 rfl
theorem b5s : Kq I7 [45, 40, 45, 120, 41] = (b20.pre, (0, 0, 0)) := by
 unfold Kq
 rw [if_neg (by decide), ← Mt 20 _ _ _ (by decide)]
 rfl
theorem b5x : Cz b22.pre = [40, 97, 32, 43, 32, 98, 41, 32, 42, 32, 99] := by rw [Kt]; rfl
theorem b5w : Cz b21.pre = [97, 32, 45, 32, 40, 98, 32, 45, 32, 99, 41, 32, 45, 32, 100] := by rw [Kt]; rfl
theorem b5v : Cz b20.pre = [45, 45, 120] := by rw [Kt]; rfl
theorem b50 : Gx b22.pre = true := Np (by decide) (by decide) (by rfl)
theorem b5z : Gx b21.pre = true := Np (by decide) (by decide) (by rfl)
theorem b5y : Gx b20.pre = true := Np (by decide) (by decide) (by rfl)
def wfB (x : Nd) : Bool := decide (x.kind < 256) && decide (-9223372036854775808 ≤ x.line ∧ x.line ≤ 9223372036854775807) && decide (-9223372036854775808 ≤ x.col ∧ x.col ≤ 9223372036854775807) && decide (-9223372036854775808 ≤ x.size ∧ x.size ≤ 9223372036854775807) && decide (-9223372036854775808 ≤ x.num ∧ x.num ≤ 9223372036854775807) && decide (x.text.size ≤ 100000)
theorem Vs {l : List Nd} (h : l.all wfB = true) : ∀ i, i < l.length → (nd l i).wf := fun i hi => by
 have e : nd l i = l[i] := by simp [nd, List.getD_eq_getElem?_getD, List.getElem?_eq_getElem hi]
 have := List.all_eq_true.1 h _ (List.getElem_mem hi)
 rw [e]
 simp only [wfB, Bool.and_eq_true, decide_eq_true_eq] at this
 obtain ⟨⟨⟨⟨⟨h1, h2⟩, h3⟩, h4⟩, h5⟩, h6⟩ := this
 exact ⟨h1, h2, h3, h4, h5, by unfold maxLen; omega⟩
theorem a16 {w : World} {a : Option Addr} {l : List Nd} (h : a4g w a l) (hwf : ∀ i, i < l.length → (nd l i).wf) : Row w a l := fun i hi => by
 obtain ⟨g, o, h1, h2⟩ := h i hi
 exact ⟨g, o, h1, h2, hwf i hi⟩
theorem a17 {w : World} {a : Option Addr} {l : List Nd} (h : a4g w a l) (hl : 0 < l.length) : Vk w a := fun g o e => by
 obtain ⟨g', o', h1, h2⟩ := h 0 hl
 rw [e] at h1
 cases h1
 exact block_lt_of_cell h2.c0
theorem Li (s : ByteArray) (L : List Nd) (T : List UInt8) (hread : Kq I7 s.data.toList = (L, (0, 0, 0))) (hp : 0 < L.length) (hn : L.length ≤ 4000) (hwf : ∀ i, i < L.length → (nd L i).wf) (ht : (L.map fun x => x.text.size).sum ≤ 100000) (he : Gx L = true) (hT : Cz L = T) (w : World) :
  Calls Tryz.prog 22 #[.string s] w fun e w' => e = .returned (.string (bs T)) ∧ Below w.heap.size w w' := by
 have H := zz (fun w => a3i s w)
 rw [hread] at H
 have HE := zz (fun (w : World) (a : Option Addr) (n cap : Nat) (hz : a = none → n = 0 ∧ cap = 0) (hlen : L.length = n) (hr : Row w a L) (hlow : Vk w a) => by
  have := Sp (cap := cap) hz hlen (by omega) hr (fun _ => hlow) ht he
  rw [if_pos rfl, hT] at this
  exact this)
 replace hwf := zz hwf
 replace hp := zz hp
 clear hread ht he hT hn
 go_enter Tryz.func22, Tryz.ntmps22
 go_wp2_with fail
 refine (H.out _).mono ?_
 rintro e w1 ⟨a, n, cap, rfl, hn, hn2, hr, -, hb1⟩
 have hz : a = none → n = 0 ∧ cap = 0 := fun ea => by
  obtain ⟨g, o, h1, -⟩ := hr 0 hp.out
  rw [ea] at h1; cases h1
 have HX := zz (fun w2 (h : Below w1.heap.size w1 w2) => HE.out w2 a n cap hz hn (a16 (hr.carry h) hwf.out) (a17 (hr.carry h) hp.out))
 replace hb1 := zz hb1
 clear hn hr hz H HE hwf hp
 go_wp2_with fail
 refine (HX.out _ (Aa _ _)).mono ?_
 rintro e w2 ⟨rfl, hb2⟩
 replace hb2 := zz (Ab (Ab hb1.out (Aa _ _)) hb2)
 go_wp2_with fail
 go_ret
 exact ⟨rfl, hb2.out⟩
theorem Gy (w : World) : Calls Tryz.prog 9 #[] w fun e w' => e = .returned (.bool true) ∧ Below w.heap.size w w' := by
 have H1 := zz (fun w => Li { data := #[40, 97, 43, 98, 41, 42, 40, 99, 41] } b22.pre _ b5u (by decide) (by decide) (Vs (by decide)) (by decide) b50 b5x w)
 have H2 := zz (fun w => Li { data := #[97, 45, 40, 98, 45, 99, 41, 45, 100] } b21.pre _ b5t (by decide) (by decide) (Vs (by decide)) (by decide) b5z b5w w)
 have H3 := zz (fun w => Li { data := #[45, 40, 45, 120, 41] } b20.pre _ b5s (by decide) (by decide) (Vs (by decide)) (by decide) b5y b5v w)
 go_enter Tryz.func9, Tryz.ntmps9
 go_wp2_with fail
 refine (H1.out _).mono ?_
 rintro e w1 ⟨rfl, hb1⟩
 replace hb1 := zz hb1
 simp only [bs]
 go_wp2_with fail
 refine (H2.out _).mono ?_
 rintro e w2 ⟨rfl, hb2⟩
 replace hb2 := zz (Ab hb1.out hb2)
 simp only [bs]
 go_wp2_with fail
 refine (H3.out _).mono ?_
 rintro e w3 ⟨rfl, hb3⟩
 replace hb3 := zz (Ab hb2.out hb3)
 simp only [bs]
 go_wp2_with fail
 go_ret
 exact ⟨rfl, hb3.out⟩
end Go.Proofs.YtoaplbljflhheaaGreat
namespace Go.Proofs.YtoaplbljflhheaaGreat
open Go.RowKit Go.Sort
structure Ctx (w : World) (g o n : Nat) (l : List Nd) : Prop where
 len : l.length = n
 few : n ≤ 4000
 row : Lk w g o l
 right : Right (sz l) n
 may : ∀ p, p < n → Rr l p
 root : 1 ≤ (nd l 0).kind ∧ (nd l 0).kind ≤ 32
 txt : (l.map fun x => x.text.size).sum ≤ 100000
theorem a6l {l : List Nd} (hR : Right (sz l) l.length) {p : Nat} (hp : p < l.length) (m : Nat) :
  Go.Proofs.YtoaplbljflhheaaGreat.txt (Hd l) p m = (Cp (nd l p), Dv m (Cp (nd l p)) ((Al (sz l) p).map fun q => Go.Proofs.YtoaplbljflhheaaGreat.txt (Hd l) q (Dm m (Cp (nd l p))))) := by
 obtain ⟨hc, hall⟩ := Hc hR
 obtain ⟨e1, e2, e3⟩ := hall p hp
 unfold Go.Proofs.YtoaplbljflhheaaGreat.txt
 rw [I5 (by rw [hc]; exact hp), e1, ← e3]
 rfl
theorem a5w {F : Fo} {p : Nat} (h : p < F.cnt) : Ya (Aj F p).2 ≤ Ya F := by
 have hs := Gh h
 have hc := Gj h
 have e : Fi (Aj F p).2 = ((Fi F).drop (p + 1)).take (Aj F p).2.cnt := by
  refine List.ext_getElem? fun j => ?_
  by_cases hj : j < (Aj F p).2.cnt
  ·rw [List.getElem?_take_of_lt hj, List.getElem?_drop, ← hs j hj]
  ·rw [List.getElem?_eq_none (by rw [Br]; omega), List.getElem?_eq_none (by rw [List.length_take]; omega)]
 have T : ∀ (L : List (Inf × Fo)) (i : Nat), ((L.take i).map fun x => 4 * x.1.text.length + 68).sum ≤ (L.map fun x => 4 * x.1.text.length + 68).sum := fun L i => by
  conv => rhs; rw [← List.take_append_drop i L, List.map_append, List.sum_append]
  omega
 have D : ∀ (L : List (Inf × Fo)) (i : Nat), ((L.drop i).map fun x => 4 * x.1.text.length + 68).sum ≤ (L.map fun x => 4 * x.1.text.length + 68).sum := fun L i => by
  conv => rhs; rw [← List.take_append_drop i L, List.map_append, List.sum_append]
  omega
 unfold Ya
 rw [e]
 exact Nat.le_trans (T _ _) (D _ _)
theorem a01 {F : Fo} {p : Nat} (h : p < F.cnt) (hn : Pa F) : Pa (Aj F p).2 := fun x hx => by
 obtain ⟨j, hj, e⟩ := List.getElem_of_mem hx
 rw [Br] at hj
 have := Gh h j hj
 have h2 : (Fi (Aj F p).2)[j]? = some x := by rw [List.getElem?_eq_getElem (by rw [Br]; exact hj), e]
 rw [h2] at this
 exact hn x (List.mem_of_getElem? this)
section
variable {w : World} {g o n : Nat} {l : List Nd} (C : Ctx w g o n l)
include C
theorem Ctx.wf : ∀ i, i < l.length → (nd l i).wf := fun i hi => (C.row i hi).2
theorem Ctx.kid {p q : Nat} (hp : p < n) (hq : q ∈ Al (sz l) p) : p < q ∧ q < n := C.right.kid_lt hp hq
theorem Ctx.at_ {p : Nat} (hp : p < n) (m : Nat) : Go.Proofs.YtoaplbljflhheaaGreat.txt (Hd l) p m = (Cp (nd l p), Dv m (Cp (nd l p)) ((Al (sz l) p).map fun q => Go.Proofs.YtoaplbljflhheaaGreat.txt (Hd l) q (Dm m (Cp (nd l p))))) :=
 a6l (by rw [C.len]; exact C.right) (by rw [C.len]; exact hp) m
theorem Ctx.sum {p : Nat} (hp : p < n) {m : Nat} (hm : m ≤ 4100) : Hb ((Al (sz l) p).map fun q => Go.Proofs.YtoaplbljflhheaaGreat.txt (Hd l) q m) ≤ 99000000 := by
 have hR : Right (sz l) l.length := by rw [C.len]; exact C.right
 obtain ⟨hc, hall⟩ := Hc hR
 have hp' : p < (Hd l).cnt := by rw [hc, C.len]; exact hp
 obtain ⟨e1, e2, e3⟩ := hall p (by rw [C.len]; exact hp)
 have h1 := Od (Aj (Hd l) p).2 m (a01 hp' (Oo hR C.wf))
 rw [I5 hp' m, ← e3] at h1
 have h2 := a5w hp'
 rw [R6 hR] at h2
 have h3 := Gj hp'
 rw [hc] at h3
 have h4 : (Aj (Hd l) p).2.cnt * (3 * (m + (Aj (Hd l) p).2.cnt)) ≤ 4000 * (3 * (4100 + 4000)) := Nat.mul_le_mul (by have := C.len; have := C.few; omega) (by have := C.len; have := C.few; omega)
 have := C.txt
 have := C.len
 have := C.few
 omega
theorem Ctx.kids {p : Nat} (hp : p < n) (cap : Nat) : G7 w g o n cap p (Al (sz l) p) := fun w' hb =>
 Ib g o n cap l w' (zz C.len) (by have := C.few; omega) (zz (C.row.carry hb)) p hp (zz (C.right.ok p hp)) _ (zz rfl)
theorem Ctx.node {p : Nat} (hp : p < n) : At w g (o + p * 6) (nd l p) := (C.row p (by rw [C.len]; exact hp)).1
theorem Ctx.txs {p : Nat} (hp : p < n) : (nd l p).text.size ≤ 100000 := Nat.le_trans (a4k (by rw [C.len]; exact hp)) C.txt
theorem Ctx.fit : Fit ⟨some ⟨g, o, none⟩, l.length, 0, l, 0⟩ (Hd l) :=
 a4x (by rw [C.len]; exact C.right) C.root (fun p hp => C.may p (by rw [← C.len]; exact hp)) C.wf (fun i hi => C.txs (by rw [← C.len]; exact hi)) _ _ _
theorem Ctx.sg {p : Nat} (hp : p < n) : (nd l p).kind = 30 ∨ (nd l p).kind = 31 → (nd l p).num ∈ sgE.map (·.1) := by
 have hR : Right (sz l) l.length := by rw [C.len]; exact C.right
 obtain ⟨hc, hall⟩ := Hc hR
 have := (C.fit.may p (by rw [hc, C.len]; exact hp)).sg
 rw [(hall p (by rw [C.len]; exact hp)).1] at this
 exact this
end
theorem b2z {P : Nat → Bool} {f : Nat → Nat} {xs : List Nat} (h : Az [P] (xs.map f) = true) : ∃ x, xs = [x] ∧ P (f x) = true := by
 have hl := Gu h
 rw [List.length_map] at hl
 match xs, hl with
 | [x], _ => exact ⟨x, rfl, D6 h (i := 0) (by simp)⟩
theorem b36 {P Q : Nat → Bool} {f : Nat → Nat} {xs : List Nat} (h : Az [P, Q] (xs.map f) = true) : ∃ x y, xs = [x, y] ∧ P (f x) = true ∧ Q (f y) = true := by
 have hl := Gu h
 rw [List.length_map] at hl
 match xs, hl with
 | [x, y], _ => exact ⟨x, y, rfl, D6 h (i := 0) (by simp), D6 h (i := 1) (by simp)⟩
theorem Uw {S : Nat → Int} {n p x : Nat} {r : List Nat} (hk : Ok S n p) (h : Al S p = x :: r) : x = p + 1 := by
 have c := B8 hk
 rw [h] at c
 by_cases h0 : p + 1 < p + 1 + (S p).toNat
 ·obtain ⟨_, _, _, h3⟩ := Ld h0 (by rw [c]; rfl)
  rw [c] at h3
  simp at h3
  exact h3.1
 ·rw [A3 h0] at c
  cases c
abbrev TxF (l : List Nd) (p m : Nat) : Tx := Go.Proofs.YtoaplbljflhheaaGreat.txt (Hd l) p m
def TC (f : FuncId) (w : World) (g o n cap : Nat) (l : List Nd) (p : Nat) : Prop := ∀ m, m ≤ 4100 → G8 w (A9 f #[Ez g o n cap, .int .i64 p] (bs (TxF l p m).2))
section
variable {w : World} {g o n : Nat} {l : List Nd} (C : Ctx w g o n l)
include C
theorem Ctx.kth_len {p : Nat} (hp : p < n) {m : Nat} (hm : m ≤ 4100) {q : Nat} (hq : q ∈ Al (sz l) p) : (TxF l q m).2.length ≤ 99000000 := by
 have h1 := C.sum hp hm
 obtain ⟨j, hj, e⟩ := List.getElem_of_mem hq
 have h2 := Yy ((Al (sz l) p).map fun q => TxF l q m) j
 rw [kth, List.getD_eq_getElem?_getD, List.getElem?_map, List.getElem?_eq_getElem hj, e] at h2
 exact Nat.le_trans h2 h1
theorem Ou (cap : Nat) : ∀ d p, n - p ≤ d → p < n → 15 ≤ (nd l p).kind → (nd l p).kind ≤ 20 → TC 16 w g o n cap l p := by
 intro d
 induction d with
 | zero => intro p h1 h2; omega
 | succ d ih =>
  intro p hd hp k1 k2 m hm w' hb
  have T := C.at_ hp m
  have hat := (C.node hp).carry hb
  have hM := C.may p hp
  have hK := fun x (hx : x ∈ Al (sz l) p) => C.kid hp hx
  have hL := fun x (hx : x ∈ Al (sz l) p) => C.kth_len hp hm hx
  have ok := C.right.ok p hp
  rw [show (TxF l p m) = Go.Proofs.YtoaplbljflhheaaGreat.txt (Hd l) p m from rfl, T]
  unfold Rr at hM
  obtain ⟨kd, ln, cl, s, num, tx, hN⟩ : ∃ kd ln cl s num tx, nd l p = ⟨kd, ln, cl, s, num, tx⟩ := ⟨_, _, _, _, _, _, rfl⟩
  rw [hN] at hat hM k1 k2 ⊢
  simp only at hM k1 k2
  obtain ⟨c0, c1, c2, c3, c4, c5⟩ := hat
  simp only at c0 c5
  have hk : kd = 15 ∨ kd = 16 ∨ kd = 17 ∨ kd = 18 ∨ kd = 19 ∨ kd = 20 := by omega
  rcases hk with rfl | rfl | rfl | rfl | rfl | rfl
  ·exact Ia 15 _ (by simp [Cp, Dv, Jl]) _ g o n cap p hp c0
  ·exact Ia 16 _ (by simp [Cp, Dv, Jl]) _ g o n cap p hp c0
  ·exact Ia 17 _ (by simp [Cp, Dv, Jl]) _ g o n cap p hp c0
  ·exact Ia 18 _ (by simp [Cp, Dv, Jl]) _ g o n cap p hp c0
  ·have : bs (Dv m (Cp ⟨19, ln, cl, s, num, tx⟩) ((Al (sz l) p).map fun q => TxF l q (Dm m (Cp ⟨19, ln, cl, s, num, tx⟩)))) = tx := by
    show bs tx.data.toList = tx
    exact Hn tx
   show A9 16 _ (bs (Dv m (Cp ⟨19, ln, cl, s, num, tx⟩) ((Al (sz l) p).map fun q => TxF l q (Dm m (Cp ⟨19, ln, cl, s, num, tx⟩))))) _
   rw [this]
   exact Xo tx _ g o n cap p hp c0 c5
  ·obtain ⟨x, hx, hkx⟩ := b2z (P := C2) hM.2.2
   obtain rfl := Uw ok hx
   have hq := hK (p + 1) (by rw [hx]; simp)
   have hl := hL (p + 1) (by rw [hx]; simp)
   rw [C2, decide_eq_true_eq] at hkx
   have H := ih (p + 1) (by omega) hq.2 hkx.1 hkx.2 m hm w' hb
   rw [hx]
   show A9 16 _ (bs ([91] ++ (TxF l (p + 1) m).2 ++ [93])) _
   rw [← Bw, ← Bw]
   exact Ue _ (by rw [A5]; omega) _ g o n cap p hp (by have := C.few; omega) c0 (zz H)
end
end Go.Proofs.YtoaplbljflhheaaGreat
namespace Go.Proofs.YtoaplbljflhheaaGreat
open Go.RowKit Go.Sort
theorem Iq (m : Nat) (x : Tx) (h : x.2.length ≤ 99000000) : (bs (brk m x)).size ≤ 100000000 := by
 rw [A5]
 have := Ro m x
 omega
section
variable {w : World} {g o n : Nat} {l : List Nd} (C : Ctx w g o n l)
include C
theorem Ctx.oper (cap : Nat) {p : Nat} (hp : p < n) (H : TC 18 w g o n cap l p) {m : Nat} (hm : m ≤ 4100) (hlen : (TxF l p m).2.length ≤ 99000000) {k : Nat} (hk : k ≤ 100) : G8 w (A9 35 #[Ez g o n cap, .int .i64 p, .int .i64 k] (bs (brk k (TxF l p m)))) := by
 intro w' hb
 have hS := H m hm w' hb
 have hat := (C.node hp).carry hb
 have hsg := C.sg hp
 have T : (TxF l p m).1 = Cp (nd l p) := by rw [show (TxF l p m) = Go.Proofs.YtoaplbljflhheaaGreat.txt (Hd l) p m from rfl, C.at_ hp m]
 obtain ⟨kd, ln, cl, s, num, tx, hN⟩ : ∃ kd ln cl s num tx, nd l p = ⟨kd, ln, cl, s, num, tx⟩ := ⟨_, _, _, _, _, _, rfl⟩
 rw [hN] at hat hsg T
 have HL := fun w => Ud kd ln cl s num tx w _ rfl hsg
 have e : lvl (TxF l p m).1 = Vi kd num := by rw [T]; rfl
 unfold brk
 by_cases hq : Vi kd num < k
 ·rw [if_pos (by rw [e]; exact hq)]
  have := a1i (bs (TxF l p m).2) (by rw [A5]; omega) w' g o n cap p k _ hp (by have := C.few; omega) hk kd ln cl s num tx (zz hat) (zz hS) (zz HL) hq
  rw [show ({ data := #[40] } : ByteArray) = bs [40] from rfl, show ({ data := #[41] } : ByteArray) = bs [41] from rfl, Bw, Bw] at this
  exact this
 ·rw [if_neg (by rw [e]; exact hq)]
  exact a1j (bs (TxF l p m).2) (by rw [A5]; omega) w' g o n cap p k _ hp (by have := C.few; omega) hk kd ln cl s num tx (zz hat) (zz hS) (zz HL) hq
end
theorem My {w : World} {g o n : Nat} {l : List Nd} (cap : Nat) {m : Nat} (hm : m ≤ 4100) (ps : List Nat) (hps : ∀ q ∈ ps, TC 18 w g o n cap l q) (hsum : Hb (ps.map fun q => TxF l q m) ≤ 99000000) (hpl : ps.length ≤ 4000) :
  ∀ w' a c, Below w.heap.size w w' → N2 w' a ps → A9 34 #[Ez g o n cap, .slice a ps.length c] (bs (Bo (ps.map fun q => TxF l q m))) w' := fun w' a c hb hI =>
 a1f w' g o n cap a ps.length c ps (ps.map fun q => TxF l q m) (zz rfl) (zz (by simp)) (zz hI) (by omega) (by omega) (zz fun i hi => by
  have := (hps (ps.getD i 0) (by rw [List.getD_eq_getElem?_getD, List.getElem?_eq_getElem hi]; exact List.getElem_mem hi) m hm).at_ hb
  have e1 : kth (ps.map fun q => TxF l q m) i = TxF l (ps.getD i 0) m := by simp [kth, List.getD_eq_getElem?_getD, List.getElem?_map, List.getElem?_eq_getElem hi]
  rw [e1]
  exact this)
section
variable {w : World} {g o n : Nat} {l : List Nd} (C : Ctx w g o n l)
include C
theorem Xi (cap : Nat) : ∀ d p, n - p ≤ d → p < n → 21 ≤ (nd l p).kind → (nd l p).kind ≤ 32 → TC 18 w g o n cap l p := by
 intro d
 induction d with
 | zero => intro p h1 h2; omega
 | succ d ih =>
  intro p hd hp k1 k2 m hm w' hb
  have T := C.at_ hp m
  have hat := zz ((C.node hp).carry hb)
  have hM := C.may p hp
  have hsum := C.sum hp hm
  have hK := fun x (hx : x ∈ Al (sz l) p) => C.kid hp hx
  have hL := fun x (hx : x ∈ Al (sz l) p) => C.kth_len hp hm hx
  have hE : ∀ x, x ∈ Al (sz l) p → Bm (Ah l x) = true → TC 18 w g o n cap l x := fun x hx hk => by
   rw [Bm, decide_eq_true_eq] at hk
   have := hK x hx
   exact ih x (by omega) this.2 hk.1 hk.2
  have hT : ∀ x, x ∈ Al (sz l) p → C2 (Ah l x) = true → TC 16 w g o n cap l x := fun x hx hk => by
   rw [C2, decide_eq_true_eq] at hk
   exact Ou C cap n x (by omega) (hK x hx).2 hk.1 hk.2
  have hkl : (Al (sz l) p).length ≤ 4000 := by
   have := J0 (C.right.ok p hp)
   have := C.few
   omega
  have HK := zz (fun w2 (h2 : Below w'.heap.size w' w2) => C.kids hp cap w2 (Ab hb h2))
  have htx := C.txs hp
  have hsg := C.sg hp
  have hwf := (C.wf p (by rw [C.len]; exact hp)).num
  have hn6 : n ≤ 1000000 := by have := C.few; omega
  rw [show (TxF l p m) = Go.Proofs.YtoaplbljflhheaaGreat.txt (Hd l) p m from rfl, T]
  unfold Rr at hM
  obtain ⟨kd, ln, cl, s, num, tx, hN⟩ : ∃ kd ln cl s num tx, nd l p = ⟨kd, ln, cl, s, num, tx⟩ := ⟨_, _, _, _, _, _, rfl⟩
  rw [hN] at hat hM k1 k2 htx hsg hwf ⊢
  simp only at hM k1 k2 htx hsg hwf
  have htx6 : tx.size ≤ 1000000 := by omega
  unfold Aq at hwf
  clear T
  have hk : kd = 21 ∨ kd = 22 ∨ kd = 23 ∨ kd = 24 ∨ kd = 25 ∨ kd = 26 ∨ kd = 27 ∨ kd = 28 ∨ kd = 29 ∨ kd = 30 ∨ kd = 31 ∨ kd = 32 := by omega
  rcases hk with rfl | rfl | rfl | rfl | rfl | rfl | rfl | rfl | rfl | rfl | rfl | rfl
  ·have h0 : 0 ≤ num := by simpa [Bn] using hM.2.1
   have H := fun w2 => Nm.rtext_any num w2 hwf.1 hwf.2
   rw [Nm.textL, if_neg (by omega), show num.natAbs = num.toNat by omega] at H
   exact b3w w' g o n cap p hp hn6 ln cl s num tx htx6 hat _ HK _ (by rw [A5]; have := Nm.dec_len_le num.toNat (by omega); show (Nm.dec num.toNat).length ≤ _; omega) (zz H)
  ·have h0 : 0 ≤ num := by simp [Bn] at hM; omega
   have H := fun w2 => Nm.rtext_any num w2 hwf.1 hwf.2
   rw [Nm.textL, if_neg (by omega), show num.natAbs = num.toNat by omega] at H
   exact b3v w' g o n cap p hp hn6 ln cl s num tx htx6 hat _ HK (bs (Nm.dec num.toNat)) (by rw [A5]; have := Nm.dec_len_le num.toNat (by omega); omega) (zz H) _ (zz (Bw _ [105]))
  ·have H := fun w2 => Ub tx w2 htx
   exact b3u w' g o n cap p hp hn6 ln cl s num tx htx6 hat _ HK _ (by rw [A5]; have h1 := Nc tx.data.toList; have h2 := J8 tx.data.toList; have h3 : tx.data.toList.length = tx.size := Array.length_toList; show (lit tx.data.toList).length ≤ _; omega) (zz H)
  ·have h01 : num = 0 ∨ num = 1 := by simpa [Bn] using hM.2.1
   rcases h01 with rfl | rfl
   ·exact b0q w' g o n cap p hp hn6 ln cl s 0 tx htx6 hat _ HK (by decide)
   ·exact b0p w' g o n cap p hp hn6 ln cl s tx htx6 hat _ HK
  ·exact b3t w' g o n cap p hp hn6 ln cl s num tx htx6 hat _ HK
  ·have := b3s w' g o n cap p hp hn6 ln cl s num tx htx6 hat _ HK
   have e : bs tx.data.toList = tx := Hn tx
   show A9 18 _ (bs tx.data.toList) w'
   rw [e]
   exact this
  ·have HX : ∀ q ∈ Al (sz l) p, TC 18 w g o n cap l q := fun q hq => hE q hq (by
    have := hM.2.2
    have := List.all_eq_true.1 (show ((Al (sz l) p).map (Ah l)).all Bm = true from this) _ (List.mem_map_of_mem hq)
    exact this)
   have HR := My (w := w) (g := g) (o := o) (n := n) (l := l) cap hm (Al (sz l) p) HX hsum hkl
   have hcl := Ff ((Al (sz l) p).map fun q => TxF l q m)
   rw [List.length_map] at hcl
   exact b3r w' g o n cap p hp hn6 ln cl s num tx htx6 hat _ HK (bs (Bo ((Al (sz l) p).map fun q => TxF l q m))) (by rw [A5]; have : Hb ((Al (sz l) p).map fun q => TxF l q m) ≤ 99000000 := hsum; omega) (zz fun w2 a c h2 hI => HR w2 a c (Ab hb h2) hI) _ (zz (by
    show _ = bs (tx.data.toList ++ [40] ++ Bo _ ++ [41])
    rw [← Bw, ← Bw, ← Bw, Hn]
    rfl))
  ·obtain ⟨x, y, hx, ex, ey⟩ := b36 (P := Bm) (Q := Bm) hM.2.2
   rw [hx] at HK hE hK hL ⊢
   have HA := C.oper cap (hK x (by simp)).2 (hE x (by simp) ex) hm (hL x (by simp)) (k := 8) (by decide)
   have HB := hE y (by simp) ey m hm
   exact b3q w' g o n cap p hp hn6 ln cl s num tx hat x y HK (bs (brk 8 (TxF l x m))) (bs (TxF l y m).2) (Iq _ _ (hL x (by simp))) (by rw [A5]; have := hL y (by simp); omega) (zz (HA.at_ hb)) (zz (HB.at_ hb)) _ (zz (by
    show _ = bs (brk 8 (TxF l x m) ++ [91] ++ (TxF l y m).2 ++ [93])
    rw [← Bw, ← Bw, ← Bw]
    rfl))
  ·obtain ⟨x, hx, ex⟩ := b2z (P := Bm) hM.2.2
   rw [hx] at HK hE hK hL ⊢
   have HA := C.oper cap (hK x (by simp)).2 (hE x (by simp) ex) hm (hL x (by simp)) (k := 8) (by decide)
   exact b3p w' g o n cap p hp hn6 ln cl s num tx htx6 hat x HK (bs (brk 8 (TxF l x m))) (Iq _ _ (hL x (by simp))) (zz (HA.at_ hb)) _ (zz (by
    show _ = bs (brk 8 (TxF l x m) ++ [46] ++ tx.data.toList)
    rw [← Bw, ← Bw, Hn]
    rfl))
  ·obtain ⟨x, hx, ex⟩ := b2z (P := Bm) hM.2.2
   rw [hx] at HK hE hK hL ⊢
   have HA := C.oper cap (hK x (by simp)).2 (hE x (by simp) ex) hm (hL x (by simp)) (k := 7) (by decide)
   have HS := fun w2 => Kk num w2 (hsg (.inl rfl))
   exact b3o w' g o n cap p hp hn6 ln cl s num tx htx6 hat x HK (bs (opS num).1) (opS num).2 (by rw [A5]; have := Yg num; omega) (zz HS) (bs (brk 7 (TxF l x m))) (Iq _ _ (hL x (by simp))) (zz (HA.at_ hb)) _ (zz (by
    show _ = bs ((opS num).1 ++ brk 7 (TxF l x m))
    rw [← Bw]))
  ·obtain ⟨x, y, hx, ex, ey⟩ := b36 (P := Bm) (Q := Bm) hM.2.2
   rw [hx] at HK hE hK hL ⊢
   have hs := hsg (.inr rfl)
   have HS := fun w2 => Kk num w2 hs
   have hl7 : (opS num).2 ≤ 10 := by
    simp only [sgE, List.map_cons, List.map_nil, List.mem_cons, List.not_mem_nil, or_false] at hs
    rcases hs with rfl | rfl | rfl | rfl | rfl | rfl | rfl | rfl | rfl | rfl | rfl | rfl | rfl | rfl | rfl <;> decide
   have HA := C.oper cap (hK x (by simp)).2 (hE x (by simp) ex) hm (hL x (by simp)) (k := Fq (opS num).2) (by unfold Fq; split <;> omega)
   have HB := C.oper cap (hK y (by simp)).2 (hE y (by simp) ey) hm (hL y (by simp)) (k := (opS num).2 + 1) (by omega)
   have hZ : bs (brk (Fq (opS num).2) (TxF l x m)) ++ { data := #[32] } ++ bs (opS num).1 ++ { data := #[32] } ++ bs (brk ((opS num).2 + 1) (TxF l y m)) = bs (Dv m (Cp ⟨31, ln, cl, s, num, tx⟩) [TxF l x m, TxF l y m]) := by
    show _ = bs (brk (Fq (opS num).2) (TxF l x m) ++ [32] ++ (opS num).1 ++ [32] ++ brk ((opS num).2 + 1) (TxF l y m))
    rw [← Bw, ← Bw, ← Bw, ← Bw]
    rfl
   have sA := Iq (Fq (opS num).2) _ (hL x (by simp))
   have sB := Iq ((opS num).2 + 1) _ (hL y (by simp))
   have sO : (bs (opS num).1).size ≤ 100 := by rw [A5]; have := Yg num; omega
   show A9 18 _ (bs (Dv m (Cp ⟨31, ln, cl, s, num, tx⟩) [TxF l x m, TxF l y m])) w'
   rw [← hZ]
   clear hZ
   replace HS := zz HS
   replace HA := zz (HA.at_ hb)
   replace HB := zz (HB.at_ hb)
   generalize (opS num).2 = lv at *
   by_cases h3 : lv = 3
   ·have e : Fq lv = lv + 1 := by unfold Fq; rw [if_pos (.inl h3)]
    rw [e] at HA sA ⊢
    exact b0o w' g o n cap p hp hn6 ln cl s num tx htx6 hat x y HK lv hl7 h3 _ sO HS _ sA _ sB HA HB _ (zz rfl)
   ·by_cases h4 : lv = 4
    ·have e : Fq lv = lv + 1 := by unfold Fq; rw [if_pos (.inr h4)]
     rw [e] at HA sA ⊢
     exact b0n w' g o n cap p hp hn6 ln cl s num tx htx6 hat x y HK lv hl7 h4 _ sO HS _ sA _ sB HA HB _ (zz rfl)
    ·have e : Fq lv = lv := by unfold Fq; rw [if_neg (by omega)]
     rw [e] at HA sA ⊢
     exact b0m w' g o n cap p hp hn6 ln cl s num tx htx6 hat x y HK lv hl7 h3 h4 _ sO HS _ sA _ sB HA HB _ (zz rfl)
  ·have hA := hM.2.2
   have hA : (Az [[19].contains] ((Al (sz l) p).map (Ah l)) || Az [[20].contains, Bm] ((Al (sz l) p).map (Ah l))) = true := hA
   rw [Bool.or_eq_true] at hA
   rcases hA with hA | hA
   ·obtain ⟨x, hx, ex⟩ := b2z hA
    rw [hx] at HK hT hK hL ⊢
    have ex' : Ah l x = 19 := by simpa using ex
    have HT := hT x (by simp) (by rw [ex']; decide) m hm
    have HR := My (w := w) (g := g) (o := o) (n := n) (l := l) cap hm [] (fun q hq => absurd hq (by simp)) (by simp [Hb]) (by simp)
    exact b0l w' g o n cap p hp hn6 ln cl s num tx htx6 hat x HK (bs []) (by decide) (zz fun w2 a c h2 hI => HR w2 a c (Ab hb h2) hI) (bs (TxF l x m).2) (by rw [A5]; have := hL x (by simp); omega) (zz (HT.at_ hb)) _ (zz (by
     show _ = bs ([109, 97, 107, 101, 32] ++ (TxF l x m).2 ++ [40] ++ [] ++ [41])
     rw [← Bw, ← Bw, ← Bw, ← Bw]
     rfl))
   ·obtain ⟨x, y, hx, ex, ey⟩ := b36 hA
    rw [hx] at HK hT hE hK hL ⊢
    have ex' : Ah l x = 20 := by simpa using ex
    have HT := hT x (by simp) (by rw [ex']; decide) m hm
    have HR := My (w := w) (g := g) (o := o) (n := n) (l := l) cap hm [y] (fun q hq => by simp at hq; subst hq; exact hE q (by simp) ey) (by have := hL y (by simp); simp [Hb]; omega) (by simp)
    have ec : Bo ([y].map fun q => TxF l q m) = (TxF l y m).2 := by simp [Bo]
    rw [ec] at HR
    exact b0k w' g o n cap p hp hn6 ln cl s num tx htx6 hat x y HK (bs (TxF l y m).2) (by rw [A5]; have := hL y (by simp); omega) (zz fun w2 a c h2 hI => HR w2 a c (Ab hb h2) hI) (bs (TxF l x m).2) (by rw [A5]; have := hL x (by simp); omega) (zz (HT.at_ hb)) _ (zz (by
     show _ = bs ([109, 97, 107, 101, 32] ++ (TxF l x m).2 ++ [40] ++ Bo [TxF l y m] ++ [41])
     rw [show Bo [TxF l y m] = (TxF l y m).2 by simp [Bo], ← Bw, ← Bw, ← Bw, ← Bw]
     rfl))
end
end Go.Proofs.YtoaplbljflhheaaGreat
namespace Go.Proofs.YtoaplbljflhheaaGreat
open Go.RowKit Go.Sort
theorem Se {w : World} {B : Nat} {news : Array Value} {l : List Nd} (hB : B ≤ w.heap.size) (e : news.toList = Cg l) (hl : l.length ≤ 100) : H5 (w.alloc (.cells news 37)) B (.slice (some ⟨w.heap.size, 0, none⟩) l.length l.length) l := by
 have := World.ownsRow_lit (base := B) (e := 37) (size := 6) w news l.length hB (by unfold maxLen; omega) (by rw [← Array.length_toList, e, Co])
 rw [e] at this
 exact this
theorem R7 {w : World} {B : Nat} {v : Value} {H l : List Nd} (h : H5 w B v (H ++ l)) (hp : 0 < H.length) (hH : ∀ x ∈ H, x.wf) (hHt : ∀ x ∈ H, x.text.size ≤ 100000) (hl : ∀ i, i < l.length → (nd l i).wf) (ht : ∀ i, i < l.length → (nd l i).text.size ≤ 100000) (hn : (H ++ l).length ≤ 1000000) (p : Bool) (hm : Uu (H ++ l) = p) :
  ∃ g N cap, v = .slice (some ⟨g, 0, none⟩) N cap ∧ Calls Tryz.prog 11 #[.slice (some ⟨g, 0, none⟩) N cap] w fun e w' => e = .returned (.bool p) ∧ Below w.heap.size w w' := by
 obtain ⟨g, cap, rfl, hr, -⟩ := Xk h (by rw [List.length_append]; omega) (Vr hH hl)
 refine ⟨g, _, cap, rfl, a1l _ _ _ _ _ rfl hn hr (fun i hi => ?_) p hm⟩
 by_cases hh : i < H.length
 ·rw [Na hh]
  have : nd H i = H[i] := by simp [nd, List.getD_eq_getElem?_getD, List.getElem?_eq_getElem hh]
  rw [this]
  exact hHt _ (List.getElem_mem hh)
 ·obtain ⟨j, rfl⟩ : ∃ j, i = j + H.length := ⟨i - H.length, by omega⟩
  rw [Md]
  rw [List.length_append] at hi
  exact ht j (by omega)
theorem a1m {w : World} {a : Option Addr} {n cap : Nat} {l : List Nd} (hlen : l.length = n) (hn : n ≤ 4000) (hrow : Row w a l) (hp : Cs (sz l) n = false) : Calls Tryz.prog 17 #[.slice a n cap] w fun e w' => e = .returned (.bool false) ∧ Below w.heap.size w w' := by
 have H := zz (Ey a n cap l w hlen (by omega) hrow false hp)
 clear hlen hrow hp
 go_enter Tryz.func17, Tryz.ntmps17
 go_wp2_with (go_at_call 25; refine H.out.mono ?_; rintro e w1 ⟨rfl, rfl⟩)
 go_ret
 exact ⟨rfl, Below.refl _ _⟩
theorem a1e {w : World} {a : Option Addr} {n cap : Nat} {l : List Nd} (hlen : l.length = n) (hn : n ≤ 4000) (hrow : Row w a l) (hp : Cs (sz l) n = false) : Calls Tryz.prog 15 #[.slice a n cap] w fun e w' => e = .returned (.bool false) ∧ Below w.heap.size w w' := by
 have H := zz (Ey a n cap l w hlen (by omega) hrow false hp)
 clear hlen hrow hp
 go_enter Tryz.func15, Tryz.ntmps15
 go_wp2_with (go_at_call 25; refine H.out.mono ?_; rintro e w1 ⟨rfl, rfl⟩)
 go_ret
 exact ⟨rfl, Below.refl _ _⟩
theorem Xs {w : World} {a : Option Addr} {n cap : Nat} {l : List Nd} (hz : a = none → n = 0 ∧ cap = 0) (hlen : l.length = n) (hn : n ≤ 4000) (hrow : Row w a l) (ht : ∀ i, i < l.length → (nd l i).text.size ≤ 100000) (hp : Cs (sz l) n = true) {p : Bool} (hm : Gx l = p) :
  Calls Tryz.prog 17 #[.slice a n cap] w fun e w' => e = .returned (.bool p) ∧ Below w.heap.size w w' := by
 have hwf := Ol hrow
 have H := zz (Ey a n cap l w hlen (by omega) hrow true hp)
 have HM := zz (fun (w1 : World) (B : Nat) (v : Value) (h : H5 w1 B v (Fc n ++ l)) => R7 h (by simp [Fc]) (Mp (by omega)) (by intro x hx; simp [Fc] at hx; rcases hx with rfl | rfl | rfl | rfl | rfl <;> simp [ByteArray.size]) hwf ht (by rw [List.length_append, hlen]; simp [Fc]; omega) p (by rw [← hlen]; exact hm))
 have HZ := zz hz
 have HL := zz hlen
 have HR := zz hrow
 have hB := Aa w (.cells #[.int .u8 1, .int .i64 0, .int .i64 0, .int .i64 ((n : Int) + 4), .int .i64 0, .string { data := #[] }, .int .u8 4, .int .i64 0, .int .i64 0, .int .i64 ((n : Int) + 3), .int .i64 0, .string { data := #[102] }, .int .u8 14, .int .i64 0, .int .i64 0, .int .i64 0, .int .i64 0, .string { data := #[] }, .int .u8 6, .int .i64 0, .int .i64 0, .int .i64 ((n : Int) + 1), .int .i64 0, .string { data := #[] }, .int .u8 12, .int .i64 0, .int .i64 0, .int .i64 n, .int .i64 0, .string { data := #[] }] 37)
 have HO := zz (Se (w := w) (B := w.heap.size) (news := #[.int .u8 1, .int .i64 0, .int .i64 0, .int .i64 ((n : Int) + 4), .int .i64 0, .string { data := #[] }, .int .u8 4, .int .i64 0, .int .i64 0, .int .i64 ((n : Int) + 3), .int .i64 0, .string { data := #[102] }, .int .u8 14, .int .i64 0, .int .i64 0, .int .i64 0, .int .i64 0, .string { data := #[] }, .int .u8 6, .int .i64 0, .int .i64 0, .int .i64 ((n : Int) + 1), .int .i64 0, .string { data := #[] }, .int .u8 12, .int .i64 0, .int .i64 0, .int .i64 n, .int .i64 0, .string { data := #[] }]) (l := Fc n) (Nat.le_refl _) rfl (by simp [Fc]))
 clear hz hlen hrow hp hm hwf ht
 replace hB := zz hB
 go_enter Tryz.func17, Tryz.ntmps17
 go_wp2_with fail
 refine H.out.mono ?_
 rintro e w1 ⟨rfl, rfl⟩
 go_wp2_with (at_builtin; refine Fh rfl _ _ rfl w.heap.size _ (Fc n) l a n cap rfl rfl HZ.out HL.out (HR.out.carry hB.out) HO.out hB.out.size (by simp [Fc]; omega) ?_; intro v2 w2 ho2 hB2; replace ho2 := zz ho2; replace hB2 := zz (hB.out.trans hB2))
 obtain ⟨g, N, c, rfl, hcall⟩ := HM.out _ _ _ ho2.out
 replace hcall := zz hcall
 refine hcall.out.mono ?_
 rintro e w3 ⟨rfl, hb3⟩
 replace hb3 := zz (Ab hB2.out hb3)
 go_wp2_with fail
 go_ret
 exact ⟨rfl, hb3.out⟩
theorem Xe {w : World} {a : Option Addr} {n cap : Nat} {l : List Nd} (hz : a = none → n = 0 ∧ cap = 0) (hlen : l.length = n) (hn : n ≤ 4000) (hrow : Row w a l) (ht : ∀ i, i < l.length → (nd l i).text.size ≤ 100000) (hp : Cs (sz l) n = true) {p : Bool} (hm : Kg l = p) :
  Calls Tryz.prog 15 #[.slice a n cap] w fun e w' => e = .returned (.bool p) ∧ Below w.heap.size w w' := by
 have hwf := Ol hrow
 have H := zz (Ey a n cap l w hlen (by omega) hrow true hp)
 have HM := zz (fun (w1 : World) (B : Nat) (v : Value) (h : H5 w1 B v (Ga n ++ l)) => R7 h (by simp [Ga]) (Mo (by omega)) (by intro x hx; simp [Ga] at hx; rcases hx with rfl | rfl | rfl <;> simp [ByteArray.size]) hwf ht (by rw [List.length_append, hlen]; simp [Ga]; omega) p (by rw [← hlen]; exact hm))
 have HZ := zz hz
 have HL := zz hlen
 have HR := zz hrow
 have hB := Aa w (.cells #[.int .u8 1, .int .i64 0, .int .i64 0, .int .i64 ((n : Int) + 2), .int .i64 0, .string { data := #[] }, .int .u8 2, .int .i64 0, .int .i64 0, .int .i64 ((n : Int) + 1), .int .i64 0, .string { data := #[82] }, .int .u8 3, .int .i64 0, .int .i64 0, .int .i64 n, .int .i64 0, .string { data := #[102] }] 37)
 have HO := zz (Se (w := w) (B := w.heap.size) (news := #[.int .u8 1, .int .i64 0, .int .i64 0, .int .i64 ((n : Int) + 2), .int .i64 0, .string { data := #[] }, .int .u8 2, .int .i64 0, .int .i64 0, .int .i64 ((n : Int) + 1), .int .i64 0, .string { data := #[82] }, .int .u8 3, .int .i64 0, .int .i64 0, .int .i64 n, .int .i64 0, .string { data := #[102] }]) (l := Ga n) (Nat.le_refl _) rfl (by simp [Ga]))
 clear hz hlen hrow hp hm hwf ht
 replace hB := zz hB
 go_enter Tryz.func15, Tryz.ntmps15
 go_wp2_with fail
 refine H.out.mono ?_
 rintro e w1 ⟨rfl, rfl⟩
 go_wp2_with (at_builtin; refine Fh rfl _ _ rfl w.heap.size _ (Ga n) l a n cap rfl rfl HZ.out HL.out (HR.out.carry hB.out) HO.out hB.out.size (by simp [Ga]; omega) ?_; intro v2 w2 ho2 hB2; replace ho2 := zz ho2; replace hB2 := zz (hB.out.trans hB2))
 obtain ⟨g, N, c, rfl, hcall⟩ := HM.out _ _ _ ho2.out
 replace hcall := zz hcall
 refine hcall.out.mono ?_
 rintro e w3 ⟨rfl, hb3⟩
 replace hb3 := zz (Ab hB2.out hb3)
 go_wp2_with fail
 go_ret
 exact ⟨rfl, hb3.out⟩
theorem Ko {w : World} {a : Option Addr} {n cap : Nat} {l : List Nd} (hz : a = none → n = 0 ∧ cap = 0) (hlen : l.length = n) (hn : n ≤ 4000) (hrow : Row w a l) (ht : ∀ i, i < l.length → (nd l i).text.size ≤ 100000) {p : Bool} (hm : Gx l = p) :
  Calls Tryz.prog 17 #[.slice a n cap] w fun e w' => e = .returned (.bool p) ∧ Below w.heap.size w w' := by
 cases hr : Cs (sz l) n with
 | true => exact Xs hz hlen hn hrow ht hr hm
 | false =>
  have : p = false := by
   cases p with
   | false => rfl
   | true =>
    have := Cd (J5 hm).1
    rw [hlen, hr] at this
    exact this.symm
  subst this
  exact a1m hlen hn hrow hr
theorem Xf {w : World} {a : Option Addr} {n cap : Nat} {l : List Nd} (hz : a = none → n = 0 ∧ cap = 0) (hlen : l.length = n) (hn : n ≤ 4000) (hrow : Row w a l) (ht : ∀ i, i < l.length → (nd l i).text.size ≤ 100000) {p : Bool} (hm : Kg l = p) :
  Calls Tryz.prog 15 #[.slice a n cap] w fun e w' => e = .returned (.bool p) ∧ Below w.heap.size w w' := by
 cases hr : Cs (sz l) n with
 | true => exact Xe hz hlen hn hrow ht hr hm
 | false =>
  have : p = false := by
   cases p with
   | false => rfl
   | true =>
    have := Cd (Js hm).1
    rw [hlen, hr] at this
    exact this.symm
  subst this
  exact a1e hlen hn hrow hr
end Go.Proofs.YtoaplbljflhheaaGreat
namespace Go.Proofs.YtoaplbljflhheaaGreat
open Go.RowKit Go.Sort
theorem a2h {l : List Nd} (h : ¬ ∃ k, k ≤ l.length ∧ 4000 < Cl l k) : (l.map fun x => x.text.size).sum ≤ 100000 := by
 have hall : Cl l l.length ≤ 4000 := Nat.le_of_not_lt fun hh => h ⟨_, Nat.le_refl _, hh⟩
 have ht := (Mg h).2
 have : ∀ k, k ≤ l.length → ((l.take k).map fun x => x.text.size).sum ≤ Cl l k := by
  intro k
  induction k with
  | zero => intro _; simp [Cl]
  | succ k ih =>
   intro hk
   have h1 := ih (by omega)
   have h2 := ht k (by omega)
   have e : l.take (k + 1) = l.take k ++ [nd l k] := by
    rw [List.take_add_one, nd, List.getD_eq_getElem?_getD, List.getElem?_eq_getElem (by omega)]; rfl
   rw [e, List.map_append, List.sum_append, Cl]
   simp only [List.map_cons, List.map_nil, List.sum_cons, List.sum_nil]
   omega
 have := this l.length (Nat.le_refl _)
 rw [List.take_length] at this
 omega
theorem a1g {w : World} {a : Option Addr} {l : List Nd} (h : Row w a l) (hl : 0 < l.length) : Vk w a := fun g o e => by
 obtain ⟨g', o', h1, h2, -⟩ := h 0 hl
 rw [e] at h1
 cases h1
 exact block_lt_of_cell h2.c0
theorem a40 {w : World} {g o n : Nat} {l : List Nd} (hn : l.length = n) (h4 : n ≤ 4000) (hr : Lk w g o l) (hR : Right (sz l) n) (h0 : 1 ≤ (nd l 0).kind ∧ (nd l 0).kind ≤ 32) (A : ∀ p, p < l.length → Rr l p) (hb : (l.map fun x => x.text.size).sum ≤ 100000) : Ctx w g o n l :=
 ⟨hn, h4, hr, hR, fun p hp => A p (by rw [hn]; exact hp), h0, hb⟩
end Go.Proofs.YtoaplbljflhheaaGreat
namespace Go.Proofs.YtoaplbljflhheaaGreat
open Go.RowKit Go.Sort
theorem a2s {t : List UInt8} (h : Ba 19 t = true) : t ≠ [] := by
 rintro rfl
 exact absurd h (by decide)
theorem a5h {w : World} {g o n : Nat} {l : List Nd} (C : Ctx w g o n l) (h0 : 0 < n) (k1 : 15 ≤ (nd l 0).kind) (k2 : (nd l 0).kind ≤ 20) : Cz l ≠ [] := by
 have hM := C.may 0 h0
 have T := C.at_ h0 0
 unfold Rr at hM
 rw [Cz, T]
 obtain ⟨kd, ln, cl, s, num, tx, hN⟩ : ∃ kd ln cl s num tx, nd l 0 = ⟨kd, ln, cl, s, num, tx⟩ := ⟨_, _, _, _, _, _, rfl⟩
 rw [hN] at hM k1 k2 ⊢
 simp only at hM k1 k2
 have hk : kd = 15 ∨ kd = 16 ∨ kd = 17 ∨ kd = 18 ∨ kd = 19 ∨ kd = 20 := by omega
 rcases hk with rfl | rfl | rfl | rfl | rfl | rfl
 ·simp [Cp, Dv, Jl]
 ·simp [Cp, Dv, Jl]
 ·simp [Cp, Dv, Jl]
 ·simp [Cp, Dv, Jl]
 ·exact a2s hM.1
 ·simp [Cp, Dv, Jl]
theorem U1 (a : Option Addr) (n cap : Nat) (l : List Nd) (w : World) (hn : l.length = n) (hl : n ≤ 9223372036854775807) (hr : Row w a l) (hm : ∃ k, k ≤ n ∧ 4000 < Cl l k) : Calls Tryz.prog 4 #[.slice a n cap] w fun e w' => e = .returned (.bool true) ∧ Below w.heap.size w w' := by
 have HM := zz (Si a n cap l w (zz hn) hl (zz hr) true (zz (by simpa using hm)))
 have HA := zz Gy
 clear hn hr hm
 go_enter Tryz.func4, Tryz.ntmps4
 go_wp2_with fail
 refine HM.out.mono ?_
 rintro e w1 ⟨rfl, rfl⟩
 go_wp2_with fail
 refine (HA.out _).mono ?_
 rintro e w2 ⟨rfl, hb2⟩
 replace hb2 := zz hb2
 go_wp2_with fail
 go_ret
 exact ⟨rfl, hb2.out⟩
theorem So (a : Option Addr) (n cap : Nat) (w : World) (hl : n ≤ 4000)
  (HM : Hid (Calls Tryz.prog 8 #[.slice a n cap] w fun e w' => e = .returned (.bool false) ∧ w = w'))
  (HE : Hid (Calls Tryz.prog 13 #[.slice a n cap] w fun e w' => e = .returned (.tuple #[.string ({ data := #[] } : ByteArray), .int .i64 1]) ∧ Below w.heap.size w w'))
  (HK : Hid (G8 w (A9 14 #[.slice a n cap] ({ data := #[] } : ByteArray))))
  (HT : Hid (G8 w fun w' => Calls Tryz.prog 15 #[.slice a n cap] w' fun e w2 => e = .returned (.bool false) ∧ Below w'.heap.size w' w2))
  (HX : Hid (G8 w fun w' => Calls Tryz.prog 17 #[.slice a n cap] w' fun e w2 => e = .returned (.bool false) ∧ Below w'.heap.size w' w2)) :
  Calls Tryz.prog 4 #[.slice a n cap] w fun e w' => e = .returned (.bool true) ∧ Below w.heap.size w w' := by
 have HA := zz Gy
 go_enter Tryz.func4, Tryz.ntmps4
 go_wp2_with fail
 refine HM.out.mono ?_
 rintro e w1 ⟨rfl, rfl⟩
 go_wp2_with fail
 refine HE.out.mono ?_
 rintro e w2 ⟨rfl, hb⟩
 replace hb := zz hb
 go_wp2_with fail
 refine (HK.out _ hb.out).mono ?_
 rintro e w3 ⟨rfl, hb2⟩
 replace hb := zz (Ab hb.out hb2)
 clear hb2
 go_wp2_with fail
 refine (HT.out _ hb.out).mono ?_
 rintro e w3 ⟨rfl, hb2⟩
 replace hb := zz (Ab hb.out hb2)
 clear hb2
 go_wp2_with fail
 refine (HX.out _ hb.out).mono ?_
 rintro e w3 ⟨rfl, hb2⟩
 replace hb := zz (Ab hb.out hb2)
 clear hb2
 go_wp2_with fail
 refine (HA.out _).mono ?_
 rintro e w5 ⟨rfl, hb5⟩
 replace hb := zz (Ab hb.out hb5)
 go_wp2_with fail
 go_ret
 exact ⟨rfl, hb.out⟩
theorem a3h (a : Option Addr) (n cap : Nat) (w : World) (hl : n ≤ 4000) (S : ByteArray)
  (HM : Hid (Calls Tryz.prog 8 #[.slice a n cap] w fun e w' => e = .returned (.bool false) ∧ w = w'))
  (HE : Hid (Calls Tryz.prog 13 #[.slice a n cap] w fun e w' => e = .returned (.tuple #[.string S, .int .i64 0]) ∧ Below w.heap.size w w'))
  (HK : Hid (G8 w (A9 14 #[.slice a n cap] ({ data := #[] } : ByteArray))))
  (HT : Hid (G8 w fun w' => Calls Tryz.prog 15 #[.slice a n cap] w' fun e w2 => e = .returned (.bool false) ∧ Below w'.heap.size w' w2))
  (HX : Hid (G8 w fun w' => Calls Tryz.prog 17 #[.slice a n cap] w' fun e w2 => e = .returned (.bool true) ∧ Below w'.heap.size w' w2))
  (HY : Hid (G8 w (A9 18 #[.slice a n cap, .int .i64 0] S))) :
  Calls Tryz.prog 4 #[.slice a n cap] w fun e w' => e = .returned (.bool true) ∧ Below w.heap.size w w' := by
 have HA := zz Gy
 go_enter Tryz.func4, Tryz.ntmps4
 go_wp2_with fail
 refine HM.out.mono ?_
 rintro e w1 ⟨rfl, rfl⟩
 go_wp2_with fail
 refine HE.out.mono ?_
 rintro e w2 ⟨rfl, hb⟩
 replace hb := zz hb
 go_wp2_with fail
 refine (HK.out _ hb.out).mono ?_
 rintro e w3 ⟨rfl, hb2⟩
 replace hb := zz (Ab hb.out hb2)
 clear hb2
 go_wp2_with fail
 refine (HT.out _ hb.out).mono ?_
 rintro e w3 ⟨rfl, hb2⟩
 replace hb := zz (Ab hb.out hb2)
 clear hb2
 go_wp2_with fail
 refine (HX.out _ hb.out).mono ?_
 rintro e w3 ⟨rfl, hb2⟩
 replace hb := zz (Ab hb.out hb2)
 clear hb2
 go_wp2_with fail
 refine (HY.out _ hb.out).mono ?_
 rintro e w3 ⟨rfl, hb2⟩
 replace hb := zz (Ab hb.out hb2)
 clear hb2
 go_wp2_with fail
 refine (HA.out _).mono ?_
 rintro e w5 ⟨rfl, hb5⟩
 replace hb := zz (Ab hb.out hb5)
 go_wp2_with fail
 go_ret
 exact ⟨rfl, hb.out⟩
theorem a3g (a : Option Addr) (n cap : Nat) (w : World) (hl : n ≤ 4000) (K : ByteArray) (hK : K.toList ≠ [])
  (HM : Hid (Calls Tryz.prog 8 #[.slice a n cap] w fun e w' => e = .returned (.bool false) ∧ w = w'))
  (HE : Hid (Calls Tryz.prog 13 #[.slice a n cap] w fun e w' => e = .returned (.tuple #[.string ({ data := #[] } : ByteArray), .int .i64 1]) ∧ Below w.heap.size w w'))
  (HK : Hid (G8 w (A9 14 #[.slice a n cap] K)))
  (HT : Hid (G8 w fun w' => Calls Tryz.prog 15 #[.slice a n cap] w' fun e w2 => e = .returned (.bool true) ∧ Below w'.heap.size w' w2))
  (HX : Hid (G8 w fun w' => Calls Tryz.prog 17 #[.slice a n cap] w' fun e w2 => e = .returned (.bool false) ∧ Below w'.heap.size w' w2))
  (HD : Hid (G8 w (A9 16 #[.slice a n cap, .int .i64 0] K))) :
  Calls Tryz.prog 4 #[.slice a n cap] w fun e w' => e = .returned (.bool true) ∧ Below w.heap.size w w' := by
 have HA := zz Gy
 have n1 : K.toList.isEmpty = false := by simpa using hK
 have n2 : (!K.toList.isEmpty) = true := by simpa using hK
 have n3 : (K.toList == ({ data := #[] } : ByteArray).toList) = false := by
  rw [ByteArray.toList_eq ({ data := #[] } : ByteArray)]
  simpa using hK
 go_enter Tryz.func4, Tryz.ntmps4
 go_wp2_with fail
 refine HM.out.mono ?_
 rintro e w1 ⟨rfl, rfl⟩
 go_wp2_with fail
 refine HE.out.mono ?_
 rintro e w2 ⟨rfl, hb⟩
 replace hb := zz hb
 go_wp2_with fail
 refine (HK.out _ hb.out).mono ?_
 rintro e w3 ⟨rfl, hb2⟩
 replace hb := zz (Ab hb.out hb2)
 clear hb2
 go_wp2_with fail
 refine (HT.out _ hb.out).mono ?_
 rintro e w3 ⟨rfl, hb2⟩
 replace hb := zz (Ab hb.out hb2)
 clear hb2
 go_wp2_with fail
 refine (HD.out _ hb.out).mono ?_
 rintro e w3 ⟨rfl, hb2⟩
 replace hb := zz (Ab hb.out hb2)
 clear hb2
 go_wp2_with fail
 refine (HX.out _ hb.out).mono ?_
 rintro e w3 ⟨rfl, hb2⟩
 replace hb := zz (Ab hb.out hb2)
 clear hb2
 go_wp2_with fail
 refine (HA.out _).mono ?_
 rintro e w5 ⟨rfl, hb5⟩
 replace hb := zz (Ab hb.out hb5)
 go_wp2_with fail
 go_ret
 exact ⟨rfl, hb.out⟩
theorem a3f (a : Option Addr) (n cap : Nat) (w : World) (hl : n ≤ 4000) (S : ByteArray) (K : ByteArray) (hK : K.toList ≠ [])
  (HM : Hid (Calls Tryz.prog 8 #[.slice a n cap] w fun e w' => e = .returned (.bool false) ∧ w = w'))
  (HE : Hid (Calls Tryz.prog 13 #[.slice a n cap] w fun e w' => e = .returned (.tuple #[.string S, .int .i64 0]) ∧ Below w.heap.size w w'))
  (HK : Hid (G8 w (A9 14 #[.slice a n cap] K)))
  (HT : Hid (G8 w fun w' => Calls Tryz.prog 15 #[.slice a n cap] w' fun e w2 => e = .returned (.bool true) ∧ Below w'.heap.size w' w2))
  (HX : Hid (G8 w fun w' => Calls Tryz.prog 17 #[.slice a n cap] w' fun e w2 => e = .returned (.bool true) ∧ Below w'.heap.size w' w2))
  (HD : Hid (G8 w (A9 16 #[.slice a n cap, .int .i64 0] K)))
  (HY : Hid (G8 w (A9 18 #[.slice a n cap, .int .i64 0] S))) :
  Calls Tryz.prog 4 #[.slice a n cap] w fun e w' => e = .returned (.bool true) ∧ Below w.heap.size w w' := by
 have HA := zz Gy
 have n1 : K.toList.isEmpty = false := by simpa using hK
 have n2 : (!K.toList.isEmpty) = true := by simpa using hK
 have n3 : (K.toList == ({ data := #[] } : ByteArray).toList) = false := by
  rw [ByteArray.toList_eq ({ data := #[] } : ByteArray)]
  simpa using hK
 go_enter Tryz.func4, Tryz.ntmps4
 go_wp2_with fail
 refine HM.out.mono ?_
 rintro e w1 ⟨rfl, rfl⟩
 go_wp2_with fail
 refine HE.out.mono ?_
 rintro e w2 ⟨rfl, hb⟩
 replace hb := zz hb
 go_wp2_with fail
 refine (HK.out _ hb.out).mono ?_
 rintro e w3 ⟨rfl, hb2⟩
 replace hb := zz (Ab hb.out hb2)
 clear hb2
 go_wp2_with fail
 refine (HT.out _ hb.out).mono ?_
 rintro e w3 ⟨rfl, hb2⟩
 replace hb := zz (Ab hb.out hb2)
 clear hb2
 go_wp2_with fail
 refine (HD.out _ hb.out).mono ?_
 rintro e w3 ⟨rfl, hb2⟩
 replace hb := zz (Ab hb.out hb2)
 clear hb2
 go_wp2_with fail
 refine (HX.out _ hb.out).mono ?_
 rintro e w3 ⟨rfl, hb2⟩
 replace hb := zz (Ab hb.out hb2)
 clear hb2
 go_wp2_with fail
 refine (HY.out _ hb.out).mono ?_
 rintro e w3 ⟨rfl, hb2⟩
 replace hb := zz (Ab hb.out hb2)
 clear hb2
 go_wp2_with fail
 refine (HA.out _).mono ?_
 rintro e w5 ⟨rfl, hb5⟩
 replace hb := zz (Ab hb.out hb5)
 go_wp2_with fail
 go_ret
 exact ⟨rfl, hb.out⟩
theorem Jn (a : Option Addr) (n cap : Nat) (l : List Nd) (w : World) (hn : l.length = n) (hl : n ≤ maxLen) (hr : Row w a l) (hz : a = none → n = 0 ∧ cap = 0) : Calls Tryz.prog 4 #[.slice a n cap] w fun e w' => e = .returned (.bool true) ∧ Below w.heap.size w w' := by
 unfold maxLen at hl
 by_cases hm : ∃ k, k ≤ n ∧ 4000 < Cl l k
 ·exact U1 a n cap l w hn (by omega) hr hm
 ·have HM := Si a n cap l w (zz hn) (by omega) (zz hr) false (zz (by simpa using hm))
  rw [← hn] at hm
  have h4 := Mg hm
  have hs := a2h hm
  have hn4 : n ≤ 4000 := by omega
  have ht : ∀ i, i < l.length → (nd l i).text.size ≤ 100000 := fun i hi => by have := h4.2 i hi; omega
  have HX := fun (p : Bool) (hp : Gx l = p) w2 (h2 : Below w.heap.size w w2) => Ko (cap := cap) hz hn hn4 (hr.carry h2) ht hp
  have HT := fun (p : Bool) (hp : Kg l = p) w2 (h2 : Below w.heap.size w w2) => Xf (cap := cap) hz hn hn4 (hr.carry h2) ht hp
  have HE := fun (p : Bool) (hlow : p = true → Vk w a) (hp : Gx l = p) => Sp (cap := cap) hz hn hn4 hr hlow hs hp
  have HK := fun (p : Bool) (hlow : p = true → Vk w a) (hp : Kg l = p) w2 (h2 : Below w.heap.size w w2) => a2m (cap := cap) hz hn hn4 (hr.carry h2) (fun h => (hlow h).carry h2) hs hp
  by_cases h0 : l = []
  ·have hE : Gx l = false := by
    cases hE : Gx l with
    | false => rfl
    | true => have := (J5 hE).1.pos; rw [h0] at this; simp at this
   have hT : Kg l = false := by
    cases hE : Kg l with
    | false => rfl
    | true => have := (Js hE).1.pos; rw [h0] at this; simp at this
   exact So _ n cap w hn4 (zz HM) (zz (HE false (fun h => by cases h) hE)) (zz (HK false (fun h => by cases h) hT)) (zz (HT false hT)) (zz (HX false hE))
  ·have hp : 0 < l.length := List.length_pos_iff.2 h0
   have hlow := a1g hr hp
   obtain ⟨g, o, rfl, hb⟩ := hr.block h0
   have CT := fun (h : Kg l = true) w2 (h2 : Below w.heap.size w w2) => by
    obtain ⟨hR, hk, A⟩ := Js h
    rw [C2, decide_eq_true_eq] at hk
    have C : Ctx w2 g o n l := a40 hn hn4 (hb.carry h2) (by rw [← hn]; exact hR) (by omega) A hs
    exact And.intro (Ou C cap n 0 (by omega) (by omega) hk.1 hk.2 0 (by omega) w2 (Below.refl _ _)) (a5h C (by omega) hk.1 hk.2)
   have CE := fun (h : Gx l = true) w2 (h2 : Below w.heap.size w w2) => by
    obtain ⟨hR, hk, A⟩ := J5 h
    rw [Bm, decide_eq_true_eq] at hk
    have C : Ctx w2 g o n l := a40 hn hn4 (hb.carry h2) (by rw [← hn]; exact hR) (by omega) A hs
    exact Xi C cap n 0 (by omega) (by omega) hk.1 hk.2 0 (by omega) w2 (Below.refl _ _)
   have hne : Kg l = true → (bs (Cz l)).toList ≠ [] := fun h => by
    rw [ByteArray.toList_eq, Bh]
    exact (CT h w (Below.refl _ _)).2
   cases hT : Kg l with
   | false =>
    cases hE : Gx l with
    | false => exact So _ n cap w hn4 (zz HM) (zz (HE false (fun _ => hlow) hE)) (zz (HK false (fun _ => hlow) hT)) (zz (HT false hT)) (zz (HX false hE))
    | true => exact a3h _ n cap w hn4 (bs (Cz l)) (zz HM) (zz (HE true (fun _ => hlow) hE)) (zz (HK false (fun _ => hlow) hT)) (zz (HT false hT)) (zz (HX true hE)) (zz (CE hE))
   | true =>
    cases hE : Gx l with
    | false => exact a3g _ n cap w hn4 (bs (Cz l)) (hne hT) (zz HM) (zz (HE false (fun _ => hlow) hE)) (zz (HK true (fun _ => hlow) hT)) (zz (HT true hT)) (zz (HX false hE)) (zz fun w2 h2 => (CT hT w2 h2).1)
    | true => exact a3f _ n cap w hn4 (bs (Cz l)) (bs (Cz l)) (hne hT) (zz HM) (zz (HE true (fun _ => hlow) hE)) (zz (HK true (fun _ => hlow) hT)) (zz (HT true hT)) (zz (HX true hE)) (zz fun w2 h2 => (CT hT w2 h2).1) (zz (CE hE))
end Go.Proofs.YtoaplbljflhheaaGreat
