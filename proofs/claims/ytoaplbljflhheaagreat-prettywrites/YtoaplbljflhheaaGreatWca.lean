/-
 Contracts and plain facts on the way to PrettyWrites. Conditions: as each says.
-/
import Derived.Test.YtoaplbljflhheaaGreatWbz
import Derived.Test.YtoaplbljflhheaaGreatWby
import Derived.Test.YtoaplbljflhheaaGreatWbl
import Derived.Test.YtoaplbljflhheaaGreatWbx
import Derived.Test.YtoaplbljflhheaaGreatWay
import Derived.Test.YtoaplbljflhheaaGreatWai
import Derived.Test.YtoaplbljflhheaaGreatWbu
import Derived.Test.YtoaplbljflhheaaGreatWag
set_option maxHeartbeats 40000000
set_option maxRecDepth 100000
set_option linter.unusedVariables false
set_option linter.unusedSimpArgs false
namespace Go.Proofs.YtoaplbljflhheaaGreat
def Ou : Fo → List Nat
 | .nil => []
 | .cons i _ r => i.kind :: Ou r
def Zp (i : Inf) (K : Fo) : Bool := Bg i.kind i.text && Bp i.kind i.num && C2 i.kind i.num (Ou K)
def Nj : Fo → Bool
 | .nil => true
 | .cons i K r => Zp i K && Nj K && Nj r
def b4q (i : Inf) : Inf := ⟨i.kind, 0, 0, i.num, i.text⟩
def Vs : Fo → Fo
 | .nil => .nil
 | .cons i k r => .cons (b4q i) (Vs k) (Vs r)
theorem a28 {F : Fo} (h : Nj F = true) : ∀ x ∈ Fl F, Zp x.1 x.2 = true := by
 induction F with
 | nil => intro x hx; cases hx
 | cons i k r ihk ihr =>
  rw [Nj, Bool.and_eq_true, Bool.and_eq_true] at h
  intro x hx
  simp only [Fl, List.mem_cons, List.mem_append] at hx
  rcases hx with rfl | hx | hx
  ·exact h.1.1
  ·exact ihk h.1.2 x hx
  ·exact ihr h.2 x hx
def a82 (l : List Nd) (p : Nat) (G : Fo) : Prop := ∀ j, j < G.cnt → l[p + j]? = G.pre[j]?
theorem Om {l : List Nd} {p : Nat} {i : Inf} {k r : Fo} (h : a82 l p (.cons i k r)) : nd l p = i.nd k.cnt ∧ a82 l (p + 1) k ∧ a82 l (p + 1 + k.cnt) r := by
 refine ⟨?_, fun j hj => ?_, fun j hj => ?_⟩
 ·have := h 0 (by simp [Fo.cnt]; omega)
  rw [Nat.add_zero] at this
  unfold nd
  rw [List.getD_eq_getElem?_getD, this]
  rfl
 ·have := h (j + 1) (by simp [Fo.cnt]; omega)
  rw [show p + (j + 1) = p + 1 + j by omega] at this
  rw [this, Fo.pre, List.getElem?_cons_succ, List.getElem?_append_left (by rw [Dl]; exact hj)]
 ·have := h (k.cnt + j + 1) (by simp [Fo.cnt]; omega)
  rw [show p + (k.cnt + j + 1) = p + 1 + k.cnt + j by omega] at this
  rw [this, Fo.pre, List.getElem?_cons_succ, List.getElem?_append_right (by rw [Dl]; omega), Dl, Nat.add_sub_cancel_left]
theorem a0f {l : List Nd} : ∀ (G : Fo) (p : Nat), a82 l p G → Bw (sz l) (p + G.cnt) p = some (Cs G p) := by
 intro G
 induction G with
 | nil => intro p _; rw [Fo.cnt, A8 (by omega)]; rfl
 | cons i k r _ ihr =>
  intro p h
  obtain ⟨h1, h2, h3⟩ := Om h
  have hs : sz l p = k.cnt := by unfold sz; rw [h1]; rfl
  rw [Fo.cnt, Bd (by omega) (by rw [hs]; omega), hs, Int.toNat_natCast, show p + (k.cnt + 1 + r.cnt) = p + 1 + k.cnt + r.cnt by omega, ihr _ h3]
  rfl
theorem b2g {l : List Nd} : ∀ (G : Fo) (f p : Nat), a82 l p G → G.cnt ≤ f → fo l f p (p + G.cnt) = Vs G := by
 intro G
 induction G with
 | nil => intro f p _ _; rw [Fo.cnt, Nat.add_zero, b2h]; rfl
 | cons i k r ihk ihr =>
  intro f p h hf
  rw [Fo.cnt] at hf
  obtain ⟨f, rfl⟩ : ∃ f', f = f' + 1 := ⟨f - 1, by omega⟩
  obtain ⟨h1, h2, h3⟩ := Om h
  have hs : sz l p = k.cnt := by unfold sz; rw [h1]; rfl
  rw [Fo.cnt, fo, if_pos (by omega), hs, Int.toNat_natCast, ihk f (p + 1) h2 (by omega), show p + (k.cnt + 1 + r.cnt) = p + 1 + k.cnt + r.cnt by omega, ihr f _ h3 (by omega), h1, Vs]
  congr 1
theorem Xq (F : Fo) : a82 F.pre 0 F := fun j _ => by rw [Nat.zero_add]
theorem a1r {F G : Fo} {p : Nat} (h : Seg F p G) : a82 F.pre p G := fun j hj => by
 rw [M2, M2, List.getElem?_map, List.getElem?_map, h j hj]
theorem a1w (F : Fo) : Ey F.pre = Vs F := by
 have := b2g F F.pre.length 0 (Xq F) (by rw [Dl]; omega)
 rw [Nat.zero_add] at this
 rw [Ey, Dl]
 rw [Dl] at this
 exact this
theorem L9 {F : Fo} {p : Nat} (hp : p < F.cnt) : nd F.pre p = (Ao F p).1.nd (Ao F p).2.cnt := by
 unfold nd Ao
 rw [List.getD_eq_getElem?_getD, M2, List.getElem?_map, List.getD_eq_getElem?_getD, List.getElem?_eq_getElem (by rw [Bs]; exact hp)]
 rfl
theorem O8 {F : Fo} {p : Nat} (hp : p < F.cnt) : Bw (sz F.pre) (p + 1 + (sz F.pre p).toNat) (p + 1) = some (Cs (Ao F p).2 (p + 1)) := by
 have hs : sz F.pre p = (Ao F p).2.cnt := by unfold sz; rw [L9 hp]; rfl
 rw [hs, Int.toNat_natCast]
 exact a0f _ _ (a1r (Gm hp))
theorem X7 (i : Inf) (K : Fo) : Right (sz (Fo.cons i K .nil).pre) (Fo.cons i K .nil).cnt := by
 refine ⟨by simp [Fo.cnt], ?_, fun j hj => ?_⟩
 ·unfold sz
  rw [L9 (by simp [Fo.cnt])]
  simp [Ao, Fl, Inf.nd, Fo.cnt]
 ·have hs : sz (Fo.cons i K .nil).pre j = (Ao (Fo.cons i K .nil) j).2.cnt := by unfold sz; rw [L9 hj]; rfl
  have := Gp hj
  exact ⟨by omega, by omega, by rw [O8 hj]; rfl⟩
theorem Xp {F G : Fo} : ∀ {p : Nat}, Seg F p G → (Cs G p).map (Ag F.pre) = Ou G := by
 induction G with
 | nil => intro p _; rfl
 | cons i k r _ ihr =>
  intro p h
  obtain ⟨h1, h2, h3⟩ := Jt h
  have hp : p < F.cnt := by
   have := (List.getElem?_eq_some_iff.1 h1).1
   rwa [Bs] at this
  rw [Cs, List.map_cons, ihr h3, Ou, Ag, L9 hp]
  simp [Ao, List.getD_eq_getElem?_getD, h1, Inf.nd]
theorem b15 {F : Fo} (h : Nj F = true) {p : Nat} (hp : p < F.cnt) : Qb F.pre p := by
 have hk : Ai (sz F.pre) p = Cs (Ao F p).2 (p + 1) := by unfold Ai; rw [O8 hp]; rfl
 have hg := a28 h (Ao F p) (by
  unfold Ao
  rw [List.getD_eq_getElem?_getD, List.getElem?_eq_getElem (by rw [Bs]; exact hp)]
  exact List.getElem_mem _)
 unfold Zp at hg
 rw [Bool.and_eq_true, Bool.and_eq_true] at hg
 unfold Qb
 rw [hk, Xp (Gm hp), L9 hp]
 refine ⟨?_, hg.1.2, hg.2⟩
 show Bg (Ao F p).1.kind (bs (Ao F p).1.text).data.toList = true
 rw [Bk]
 exact hg.1.1
theorem a7b {i : Inf} {K : Fo} (hi : i.kind = 1) (h : Nj (.cons i K .nil) = true) : N1 (Fo.cons i K .nil).pre = true := by
 unfold N1
 rw [Bool.and_eq_true, Bool.and_eq_true, decide_eq_true_eq]
 refine ⟨⟨Cu (by rw [Dl]; exact X7 i K), ?_⟩, List.all_eq_true.2 fun j hj => ?_⟩
 ·rw [Ag, L9 (by simp [Fo.cnt])]
  simpa [Ao, Fl, Inf.nd] using hi
 ·rw [List.mem_range, Dl] at hj
  obtain ⟨a, b, c⟩ := b15 h hj
  rw [Bool.and_eq_true, Cb, Bool.and_eq_true, G0]
  exact ⟨⟨a, b⟩, c⟩
def a7k (k : Nat) (t : List UInt8) : Inf := ⟨k, 0, 0, 0, t⟩
theorem Nq {i : Inf} {K : Fo} (h1 : 21 ≤ i.kind) (h2 : i.kind ≤ 32) (h : Nj (.cons i K .nil) = true) : P5 (Fo.cons i K .nil).pre = true := by
 unfold P5
 have e : Jo (Fo.cons i K .nil).pre.length ++ (Fo.cons i K .nil).pre = (Fo.cons (a7k 1 []) (.cons (a7k 4 [102]) (.cons (a7k 14 []) .nil (.cons (a7k 6 []) (.cons (a7k 12 []) (.cons i K .nil) .nil) .nil)) .nil) .nil).pre := by
  rw [Dl]
  simp only [Fo.pre, List.append_nil, List.nil_append, List.cons_append, Fo.cnt, Nat.add_zero, Jo, Inf.nd, a7k]
  simp only [List.cons.injEq, Nd.mk.injEq, true_and, and_true]
  and_intros <;> first | rfl | omega
 rw [e]
 refine a7b rfl ?_
 have h' := h
 simp only [Nj, Bool.and_true, Zp] at h'
 simp only [Nj, Bool.and_true, Zp, Ou, a7k, h']
 have hk : C2 12 0 [i.kind] = true := by
  show A3 [Bc] [i.kind] = true
  simp [A3, Bc, List.range, List.range.loop, h1, h2]
 rw [hk]
 rfl
theorem Ko (F : Fo) : Ec F.pre = (txt (Vs F) 0 0).2 := by rw [Ec, a1w]
end Go.Proofs.YtoaplbljflhheaaGreat
namespace Go.Proofs.YtoaplbljflhheaaGreat
open Go.RowKit Go.Sort
theorem a5o {H l : List Nd} (hH : ∀ x ∈ H, x.wf) (hl : ∀ i, i < l.length → (nd l i).wf) : ∀ i, i < (H ++ l).length → (nd (H ++ l) i).wf := fun i hi => by
 by_cases h : i < H.length
 ·rw [Rh h]; exact Wf hH i h
 ·obtain ⟨j, rfl⟩ : ∃ j, i = j + H.length := ⟨i - H.length, by omega⟩
  rw [Ph]
  rw [List.length_append] at hi
  exact hl j (by omega)
theorem a4v {w : World} {a : Option Addr} {l : List Nd} (h : Row w a l) : ∀ i, i < l.length → (nd l i).wf := fun i hi => by
 obtain ⟨_, _, _, _, h⟩ := h i hi
 exact h
theorem a7c {w : World} {B : Nat} {v : Value} {H l : List Nd} (h : J6 w B v (H ++ l)) (hp : 0 < H.length) (hH : ∀ x ∈ H, x.wf) (hl : ∀ i, i < l.length → (nd l i).wf) (hn : (H ++ l).length ≤ 1000000) (p : Bool) (hm : N1 (H ++ l) = p) :
  ∃ g N cap, v = .slice (some ⟨g, 0, none⟩) N cap ∧ Calls Tryz.prog 23 #[.slice (some ⟨g, 0, none⟩) N cap] w fun e w' => e = .returned (.bool p) ∧ Below w.heap.size w w' := by
 obtain ⟨g, cap, rfl, hr, -⟩ := a6u h (by rw [List.length_append]; omega) (a5o hH hl)
 exact ⟨g, _, cap, rfl, Rm _ _ _ _ _ rfl hn hr p hm⟩
theorem Q7 {w : World} {a : Option Addr} {n cap : Nat} {l : List Nd} (hlen : l.length = n) (hn : n ≤ 4000) (hrow : Row w a l) (hlow : a0r w a) (hb : (l.map fun x => x.text.size).sum ≤ 100000)
  (hR : Right (sz l) l.length) (h0 : 15 ≤ (nd l 0).kind ∧ (nd l 0).kind ≤ 32) (A : ∀ p, p < l.length → Qb l p) :
  Calls Tryz.prog 24 #[.slice a n cap] w fun e w' => e = .returned (.string (bs (Ec l))) ∧ Below w.heap.size w w' := by
 subst hlen
 have hwf := a4v hrow
 obtain ⟨hc, hall⟩ := Fm hR
 have hp := hR.pos
 have hL := O7 hR hwf hn hb
 refine L8 (F := Ey l) (S := Ec l) (fun mb => Zw hR (by omega) A hwf (fun i hi => Nat.le_trans (Wv hi) hb) a cap mb) hrow rfl (by omega) (by omega) hlow ?_ rfl (by rw [hc]; exact hL)
 rw [(hall 0 hp).1]
 show (nd l 0).kind ≠ 14
 omega
theorem a3q {w : World} {a : Option Addr} {n cap : Nat} {l : List Nd} {p : Bool} (hz : a = none → n = 0 ∧ cap = 0) (hlen : l.length = n) (hn : n ≤ 4000) (hrow : Row w a l) (hlow : p = true → a0r w a) (hb : (l.map fun x => x.text.size).sum ≤ 100000) (hm : P5 l = p) :
  Calls Tryz.prog 13 #[.slice a n cap] w fun e w' => e = .returned (if p then .tuple #[.string (bs (Ec l)), .int .i64 0] else .tuple #[.string (bs []), .int .i64 1]) ∧ Below w.heap.size w w' := by
 have hwf := a4v hrow
 have HA := zz (Vu (w := w) (cap := cap) hz hlen (by omega) hrow)
 have HM := zz (fun (w1 : World) (B : Nat) (v : Value) (h : J6 w1 B v (Jo n ++ l)) => a7c h (by simp [Jo]) (R5 (by omega)) hwf (by rw [List.length_append, hlen]; simp [Jo]; omega) p (by rw [← hlen]; exact hm))
 have HP := zz (fun (h : p = true) (w1 : World) (hb1 : Below w.heap.size w w1) => by
  obtain ⟨q1, q2, q3⟩ := a3s (hm.trans h)
  rw [Bc, decide_eq_true_eq] at q2
  exact Q7 (w := w1) (a := a) (cap := cap) hlen hn (hrow.carry hb1) ((hlow h).carry hb1) hb q1 (by omega) q3)
 clear hz hlen hn hrow hlow hb hm hwf
 go_enter Tryz.func13, Tryz.ntmps13
 go_wp2_with fail
 refine HA.out.mono ?_
 rintro e w1 ⟨v, rfl, ho, hb1⟩
 obtain ⟨g, N, c, rfl, hcall⟩ := HM.out _ _ _ ho
 replace hcall := zz hcall
 replace hb1 := zz hb1
 clear ho HM HA
 cases p with
 | false =>
  clear HP
  go_wp2_with fail
  refine hcall.out.mono ?_
  rintro e w2 ⟨rfl, hb2⟩
  replace hb2 := zz (Ab hb1.out hb2)
  go_wp2_with fail
  exact bodyPost_ret (v := .tuple #[.string (bs []), .int .i64 1]) (by simp [results, Tryz.results13, go_sem, bs]) rfl ⟨rfl, hb2.out⟩
 | true =>
  go_wp2_with fail
  refine hcall.out.mono ?_
  rintro e w2 ⟨rfl, hb2⟩
  replace hb2 := zz (Ab hb1.out hb2)
  go_wp2_with fail
  refine (HP.out True.intro _ hb2.out).mono ?_
  rintro e w3 ⟨rfl, hb3⟩
  replace hb3 := zz (Ab hb2.out hb3)
  go_wp2_with fail
  exact bodyPost_ret (v := .tuple #[.string (bs (Ec l)), .int .i64 0]) (by simp [results, Tryz.results13, go_sem]) rfl ⟨rfl, hb3.out⟩
end Go.Proofs.YtoaplbljflhheaaGreat
namespace Go.Proofs.YtoaplbljflhheaaGreat
open Go.RowKit Go.Sort
def Tm : Nat → List UInt8 → Nat → Nat → Res
 | 0, _, _, _ => .error (0, 0, 0)
 | n + 1, l, line, col =>
  if l.isEmpty then .ok [⟨8, line, col, 0, []⟩]
  else if l.headD 0 = 10 then Tm n l.tail (line + 1) 1
  else if l.headD 0 = 32 ∨ l.headD 0 = 9 ∨ l.headD 0 = 13 then Tm n l.tail line (col + 1)
  else if l.headD 0 = 35 then Tm n (l.tail.drop (Bz nlf l.tail)) line (col + (Bz nlf l.tail + 1))
  else if (one l).err = 0 then (Tm n (l.drop (one l).size) line (col + (one l).size)).map (⟨(one l).kind, line, col, (one l).num, (one l).text⟩ :: ·)
  else .error ((one l).err, line, col)
theorem Mt (n : Nat) : ∀ (l : List UInt8) (a b : Nat), l.length < n → Tm n l a b = Ep l a b := by
 induction n with
 | zero => intro l a b h; omega
 | succ n ih =>
  intro l a b h
  rw [Tm, Ep]
  by_cases hl : l = []
  ·subst hl; rfl
  ·have hp : 0 < l.length := List.length_pos_iff.2 hl
   rw [if_neg (by simpa using hl), dif_neg hl]
   split
   ·exact ih _ _ _ (by simp; omega)
   ·split
    ·exact ih _ _ _ (by simp; omega)
    ·split
     ·exact ih _ _ _ (by simp; omega)
     ·split
      ·rename_i h4
       have := Pa l hl h4
       rw [ih _ _ _ (by simp; omega)]
      ·rfl
def b3d : Fo := .cons ⟨31, 1, 6, 3, []⟩ (.cons ⟨31, 1, 3, 1, []⟩ (.cons ⟨26, 1, 2, 0, [97]⟩ .nil (.cons ⟨26, 1, 4, 0, [98]⟩ .nil .nil)) (.cons ⟨26, 1, 8, 0, [99]⟩ .nil .nil)) .nil
def b3c : Fo := .cons ⟨31, 1, 8, 2, []⟩ (.cons ⟨31, 1, 2, 2, []⟩ (.cons ⟨26, 1, 1, 0, [97]⟩ .nil (.cons ⟨31, 1, 5, 2, []⟩ (.cons ⟨26, 1, 4, 0, [98]⟩ .nil (.cons ⟨26, 1, 6, 0, [99]⟩ .nil .nil)) .nil)) (.cons ⟨26, 1, 9, 0, [100]⟩ .nil .nil)) .nil
def b3b : Fo := .cons ⟨30, 1, 1, 12, []⟩ (.cons ⟨30, 1, 3, 12, []⟩ (.cons ⟨26, 1, 4, 0, [120]⟩ .nil .nil) .nil) .nil
theorem b6i : Km I7 [40, 97, 43, 98, 41, 42, 40, 99, 41] = (b3d.pre, (0, 0, 0)) := by
 unfold Km
 rw [if_neg (by decide), ← Mt 20 _ _ _ (by decide)]
 rfl
theorem b6h : Km I7 [97, 45, 40, 98, 45, 99, 41, 45, 100] = (b3c.pre, (0, 0, 0)) := by
 unfold Km
 rw [if_neg (by decide), ← Mt 20 _ _ _ (by decide)]
 rfl
theorem b6g : Km I7 [45, 40, 45, 120, 41] = (b3b.pre, (0, 0, 0)) := by
 unfold Km
 rw [if_neg (by decide), ← Mt 20 _ _ _ (by decide)]
 rfl
theorem b6l : Ec b3d.pre = [40, 97, 32, 43, 32, 98, 41, 32, 42, 32, 99] := by rw [Ko]; rfl
theorem b6k : Ec b3c.pre = [97, 32, 45, 32, 40, 98, 32, 45, 32, 99, 41, 32, 45, 32, 100] := by rw [Ko]; rfl
theorem b6j : Ec b3b.pre = [45, 45, 120] := by rw [Ko]; rfl
theorem b6o : P5 b3d.pre = true := Nq (by decide) (by decide) (by rfl)
theorem b6n : P5 b3c.pre = true := Nq (by decide) (by decide) (by rfl)
theorem b6m : P5 b3b.pre = true := Nq (by decide) (by decide) (by rfl)
def wfB (x : Nd) : Bool := decide (x.kind < 256) && decide (-9223372036854775808 ≤ x.line ∧ x.line ≤ 9223372036854775807) && decide (-9223372036854775808 ≤ x.col ∧ x.col ≤ 9223372036854775807) && decide (-9223372036854775808 ≤ x.size ∧ x.size ≤ 9223372036854775807) && decide (-9223372036854775808 ≤ x.num ∧ x.num ≤ 9223372036854775807) && decide (x.text.size ≤ 100000)
theorem Wg {l : List Nd} (h : l.all wfB = true) : ∀ i, i < l.length → (nd l i).wf := fun i hi => by
 have e : nd l i = l[i] := by simp [nd, List.getD_eq_getElem?_getD, List.getElem?_eq_getElem hi]
 have := List.all_eq_true.1 h _ (List.getElem_mem hi)
 rw [e]
 simp only [wfB, Bool.and_eq_true, decide_eq_true_eq] at this
 obtain ⟨⟨⟨⟨⟨h1, h2⟩, h3⟩, h4⟩, h5⟩, h6⟩ := this
 exact ⟨h1, h2, h3, h4, h5, by unfold maxLen; omega⟩
theorem a2k {w : World} {a : Option Addr} {l : List Nd} (h : a4q w a l) (hwf : ∀ i, i < l.length → (nd l i).wf) : Row w a l := fun i hi => by
 obtain ⟨g, o, h1, h2⟩ := h i hi
 exact ⟨g, o, h1, h2, hwf i hi⟩
theorem a2l {w : World} {a : Option Addr} {l : List Nd} (h : a4q w a l) (hl : 0 < l.length) : a0r w a := fun g o e => by
 obtain ⟨g', o', h1, h2⟩ := h 0 hl
 rw [e] at h1
 cases h1
 exact block_lt_of_cell h2.c0
theorem Lg (s : ByteArray) (L : List Nd) (T : List UInt8) (hread : Km I7 s.data.toList = (L, (0, 0, 0))) (hp : 0 < L.length) (hn : L.length ≤ 4000) (hwf : ∀ i, i < L.length → (nd L i).wf) (ht : (L.map fun x => x.text.size).sum ≤ 100000) (he : P5 L = true) (hT : Ec L = T) (w : World) :
  Calls Tryz.prog 22 #[.string s] w fun e w' => e = .returned (.string (bs T)) ∧ Below w.heap.size w w' := by
 have H := zz (fun w => a3r s w)
 rw [hread] at H
 have HE := zz (fun (w : World) (a : Option Addr) (n cap : Nat) (hz : a = none → n = 0 ∧ cap = 0) (hlen : L.length = n) (hr : Row w a L) (hlow : a0r w a) => by
  have := a3q (cap := cap) hz hlen (by omega) hr (fun _ => hlow) ht he
  rw [if_pos rfl, hT] at this
  exact this)
 replace hwf := zz hwf
 replace hp := zz hp
 clear hread ht he hT hn
 go_enter Tryz.func22, Tryz.ntmps22
 go_wp2_with fail
 refine (H.out _).mono ?_
 rintro e w1 ⟨a, n, cap, rfl, hn, hn2, hr, -, hb1⟩
 have hz : a = none → n = 0 ∧ cap = 0 := fun ea => by
  obtain ⟨g, o, h1, -⟩ := hr 0 hp.out
  rw [ea] at h1; cases h1
 have HX := zz (fun w2 (h : Below w1.heap.size w1 w2) => HE.out w2 a n cap hz hn (a2k (hr.carry h) hwf.out) (a2l (hr.carry h) hp.out))
 replace hb1 := zz hb1
 clear hn hr hz H HE hwf hp
 go_wp2_with fail
 refine (HX.out _ (Aa _ _)).mono ?_
 rintro e w2 ⟨rfl, hb2⟩
 replace hb2 := zz (Ab (Ab hb1.out (Aa _ _)) hb2)
 go_wp2_with fail
 go_ret
 exact ⟨rfl, hb2.out⟩
theorem Lc (w : World) : Calls Tryz.prog 9 #[] w fun e w' => e = .returned (.bool true) ∧ Below w.heap.size w w' := by
 have H1 := zz (fun w => Lg { data := #[40, 97, 43, 98, 41, 42, 40, 99, 41] } b3d.pre _ b6i (by decide) (by decide) (Wg (by decide)) (by decide) b6o b6l w)
 have H2 := zz (fun w => Lg { data := #[97, 45, 40, 98, 45, 99, 41, 45, 100] } b3c.pre _ b6h (by decide) (by decide) (Wg (by decide)) (by decide) b6n b6k w)
 have H3 := zz (fun w => Lg { data := #[45, 40, 45, 120, 41] } b3b.pre _ b6g (by decide) (by decide) (Wg (by decide)) (by decide) b6m b6j w)
 go_enter Tryz.func9, Tryz.ntmps9
 go_wp2_with fail
 refine (H1.out _).mono ?_
 rintro e w1 ⟨rfl, hb1⟩
 replace hb1 := zz hb1
 simp only [bs]
 go_wp2_with fail
 refine (H2.out _).mono ?_
 rintro e w2 ⟨rfl, hb2⟩
 replace hb2 := zz (Ab hb1.out hb2)
 simp only [bs]
 go_wp2_with fail
 refine (H3.out _).mono ?_
 rintro e w3 ⟨rfl, hb3⟩
 replace hb3 := zz (Ab hb2.out hb3)
 simp only [bs]
 go_wp2_with fail
 go_ret
 exact ⟨rfl, hb3.out⟩
end Go.Proofs.YtoaplbljflhheaaGreat
namespace Go.Proofs.YtoaplbljflhheaaGreat
open Go.RowKit Go.Sort
structure Ctx (w : World) (g o n : Nat) (l : List Nd) : Prop where
 len : l.length = n
 few : n ≤ 4000
 row : Li w g o l
 right : Right (sz l) n
 may : ∀ p, p < n → Qb l p
 root : 1 ≤ (nd l 0).kind ∧ (nd l 0).kind ≤ 32
 txt : (l.map fun x => x.text.size).sum ≤ 100000
theorem a6v {l : List Nd} (hR : Right (sz l) l.length) {p : Nat} (hp : p < l.length) (m : Nat) :
  Go.Proofs.YtoaplbljflhheaaGreat.txt (Ey l) p m = (Da (nd l p), Fe m (Da (nd l p)) ((Ai (sz l) p).map fun q => Go.Proofs.YtoaplbljflhheaaGreat.txt (Ey l) q (Do m (Da (nd l p))))) := by
 obtain ⟨hc, hall⟩ := Fm hR
 obtain ⟨e1, e2, e3⟩ := hall p hp
 unfold Go.Proofs.YtoaplbljflhheaaGreat.txt
 rw [I5 (by rw [hc]; exact hp), e1, ← e3]
 rfl
theorem a57 {F : Fo} {p : Nat} (h : p < F.cnt) : Yp (Ao F p).2 ≤ Yp F := by
 have hs := Gm h
 have hc := Gp h
 have e : Fl (Ao F p).2 = ((Fl F).drop (p + 1)).take (Ao F p).2.cnt := by
  refine List.ext_getElem? fun j => ?_
  by_cases hj : j < (Ao F p).2.cnt
  ·rw [List.getElem?_take_of_lt hj, List.getElem?_drop, ← hs j hj]
  ·rw [List.getElem?_eq_none (by rw [Bs]; omega), List.getElem?_eq_none (by rw [List.length_take]; omega)]
 have T : ∀ (L : List (Inf × Fo)) (i : Nat), ((L.take i).map fun x => 4 * x.1.text.length + 68).sum ≤ (L.map fun x => 4 * x.1.text.length + 68).sum := fun L i => by
  conv => rhs; rw [← List.take_append_drop i L, List.map_append, List.sum_append]
  omega
 have D : ∀ (L : List (Inf × Fo)) (i : Nat), ((L.drop i).map fun x => 4 * x.1.text.length + 68).sum ≤ (L.map fun x => 4 * x.1.text.length + 68).sum := fun L i => by
  conv => rhs; rw [← List.take_append_drop i L, List.map_append, List.sum_append]
  omega
 unfold Yp
 rw [e]
 exact Nat.le_trans (T _ _) (D _ _)
theorem a1h {F : Fo} {p : Nat} (h : p < F.cnt) (hn : Pb F) : Pb (Ao F p).2 := fun x hx => by
 obtain ⟨j, hj, e⟩ := List.getElem_of_mem hx
 rw [Bs] at hj
 have := Gm h j hj
 have h2 : (Fl (Ao F p).2)[j]? = some x := by rw [List.getElem?_eq_getElem (by rw [Bs]; exact hj), e]
 rw [h2] at this
 exact hn x (List.mem_of_getElem? this)
section
variable {w : World} {g o n : Nat} {l : List Nd} (C : Ctx w g o n l)
include C
theorem Ctx.wf : ∀ i, i < l.length → (nd l i).wf := fun i hi => (C.row i hi).2
theorem Ctx.kid {p q : Nat} (hp : p < n) (hq : q ∈ Ai (sz l) p) : p < q ∧ q < n := C.right.kid_lt hp hq
theorem Ctx.at_ {p : Nat} (hp : p < n) (m : Nat) : Go.Proofs.YtoaplbljflhheaaGreat.txt (Ey l) p m = (Da (nd l p), Fe m (Da (nd l p)) ((Ai (sz l) p).map fun q => Go.Proofs.YtoaplbljflhheaaGreat.txt (Ey l) q (Do m (Da (nd l p))))) :=
 a6v (by rw [C.len]; exact C.right) (by rw [C.len]; exact hp) m
theorem Ctx.sum {p : Nat} (hp : p < n) {m : Nat} (hm : m ≤ 4100) : Er ((Ai (sz l) p).map fun q => Go.Proofs.YtoaplbljflhheaaGreat.txt (Ey l) q m) ≤ 99000000 := by
 have hR : Right (sz l) l.length := by rw [C.len]; exact C.right
 obtain ⟨hc, hall⟩ := Fm hR
 have hp' : p < (Ey l).cnt := by rw [hc, C.len]; exact hp
 obtain ⟨e1, e2, e3⟩ := hall p (by rw [C.len]; exact hp)
 have h1 := Of (Ao (Ey l) p).2 m (a1h hp' (Ot hR C.wf))
 rw [I5 hp' m, ← e3] at h1
 have h2 := a57 hp'
 rw [Sj hR] at h2
 have h3 := Gp hp'
 rw [hc] at h3
 have h4 : (Ao (Ey l) p).2.cnt * (3 * (m + (Ao (Ey l) p).2.cnt)) ≤ 4000 * (3 * (4100 + 4000)) := Nat.mul_le_mul (by have := C.len; have := C.few; omega) (by have := C.len; have := C.few; omega)
 have := C.txt
 have := C.len
 have := C.few
 omega
theorem Ctx.kids {p : Nat} (hp : p < n) (cap : Nat) : Dp w g o n cap p (Ai (sz l) p) := fun w' hb =>
 Ib g o n cap l w' (zz C.len) (by have := C.few; omega) (zz (C.row.carry hb)) p hp (zz (C.right.ok p hp)) _ (zz rfl)
theorem Ctx.node {p : Nat} (hp : p < n) : At w g (o + p * 6) (nd l p) := (C.row p (by rw [C.len]; exact hp)).1
theorem Ctx.txs {p : Nat} (hp : p < n) : (nd l p).text.size ≤ 100000 := Nat.le_trans (Wv (by rw [C.len]; exact hp)) C.txt
theorem Ctx.fit : Fit ⟨some ⟨g, o, none⟩, l.length, 0, l, 0⟩ (Ey l) :=
 Zw (by rw [C.len]; exact C.right) C.root (fun p hp => C.may p (by rw [← C.len]; exact hp)) C.wf (fun i hi => C.txs (by rw [← C.len]; exact hi)) _ _ _
theorem Ctx.sg {p : Nat} (hp : p < n) : (nd l p).kind = 30 ∨ (nd l p).kind = 31 → (nd l p).num ∈ sgE.map (·.1) := by
 have hR : Right (sz l) l.length := by rw [C.len]; exact C.right
 obtain ⟨hc, hall⟩ := Fm hR
 have := (C.fit.may p (by rw [hc, C.len]; exact hp)).sg
 rw [(hall p (by rw [C.len]; exact hp)).1] at this
 exact this
end
theorem a44 {P : Nat → Bool} {f : Nat → Nat} {xs : List Nat} (h : A3 [P] (xs.map f) = true) : ∃ x, xs = [x] ∧ P (f x) = true := by
 have hl := Ed h
 rw [List.length_map] at hl
 match xs, hl with
 | [x], _ => exact ⟨x, rfl, Ct h (i := 0) (by simp)⟩
theorem a43 {P Q : Nat → Bool} {f : Nat → Nat} {xs : List Nat} (h : A3 [P, Q] (xs.map f) = true) : ∃ x y, xs = [x, y] ∧ P (f x) = true ∧ Q (f y) = true := by
 have hl := Ed h
 rw [List.length_map] at hl
 match xs, hl with
 | [x, y], _ => exact ⟨x, y, rfl, Ct h (i := 0) (by simp), Ct h (i := 1) (by simp)⟩
theorem b54 {P Q R : Nat → Bool} {f : Nat → Nat} {xs : List Nat} (h : A3 [P, Q, R] (xs.map f) = true) : ∃ x y z, xs = [x, y, z] ∧ P (f x) = true ∧ Q (f y) = true ∧ R (f z) = true := by
 have hl := Ed h
 rw [List.length_map] at hl
 match xs, hl with
 | [x, y, z], _ => exact ⟨x, y, z, rfl, Ct h (i := 0) (by simp), Ct h (i := 1) (by simp), Ct h (i := 2) (by simp)⟩
theorem b55 {f : Nat → Nat} {xs : List Nat} (h : A3 [] (xs.map f) = true) : xs = [] := by
 have hl := Ed h
 rw [List.length_map] at hl
 exact List.eq_nil_of_length_eq_zero hl
theorem Ml {S : Nat → Int} {n p x : Nat} {r : List Nat} (hk : Ok S n p) (h : Ai S p = x :: r) : x = p + 1 := by
 have c := B8 hk
 rw [h] at c
 by_cases h0 : p + 1 < p + 1 + (S p).toNat
 ·obtain ⟨_, _, _, h3⟩ := La h0 (by rw [c]; rfl)
  rw [c] at h3
  simp at h3
  exact h3.1
 ·rw [A8 h0] at c
  cases c
abbrev TxF (l : List Nd) (p m : Nat) : Tx := Go.Proofs.YtoaplbljflhheaaGreat.txt (Ey l) p m
def TC (f : FuncId) (w : World) (g o n cap : Nat) (l : List Nd) (p : Nat) : Prop := ∀ m, m ≤ 4100 → Gg w (A0 f #[Cp g o n cap, .int .i64 p] (bs (TxF l p m).2))
section
variable {w : World} {g o n : Nat} {l : List Nd} (C : Ctx w g o n l)
include C
theorem Ctx.kth_len {p : Nat} (hp : p < n) {m : Nat} (hm : m ≤ 4100) {q : Nat} (hq : q ∈ Ai (sz l) p) : (TxF l q m).2.length ≤ 99000000 := by
 have h1 := C.sum hp hm
 obtain ⟨j, hj, e⟩ := List.getElem_of_mem hq
 have h2 := Nf ((Ai (sz l) p).map fun q => TxF l q m) j
 rw [kth, List.getD_eq_getElem?_getD, List.getElem?_map, List.getElem?_eq_getElem hj, e] at h2
 exact Nat.le_trans h2 h1
theorem Ia (cap : Nat) : ∀ d p, n - p ≤ d → p < n → 15 ≤ (nd l p).kind → (nd l p).kind ≤ 20 → TC 16 w g o n cap l p := by
 intro d
 induction d with
 | zero => intro p h1 h2; omega
 | succ d ih =>
  intro p hd hp k1 k2 m hm w' hb
  have T := C.at_ hp m
  have hat := (C.node hp).carry hb
  have hM := C.may p hp
  have hK := fun x (hx : x ∈ Ai (sz l) p) => C.kid hp hx
  have hL := fun x (hx : x ∈ Ai (sz l) p) => C.kth_len hp hm hx
  have ok := C.right.ok p hp
  rw [show (TxF l p m) = Go.Proofs.YtoaplbljflhheaaGreat.txt (Ey l) p m from rfl, T]
  unfold Qb at hM
  obtain ⟨kd, ln, cl, s, num, tx, hN⟩ : ∃ kd ln cl s num tx, nd l p = ⟨kd, ln, cl, s, num, tx⟩ := ⟨_, _, _, _, _, _, rfl⟩
  rw [hN] at hat hM k1 k2 ⊢
  simp only at hM k1 k2
  obtain ⟨c0, c1, c2, c3, c4, c5⟩ := hat
  simp only at c0 c5
  have hk : kd = 15 ∨ kd = 16 ∨ kd = 17 ∨ kd = 18 ∨ kd = 19 ∨ kd = 20 := by omega
  rcases hk with rfl | rfl | rfl | rfl | rfl | rfl
  ·exact H9 15 _ (by simp [Da, Fe, Qm]) _ g o n cap p hp c0
  ·exact H9 16 _ (by simp [Da, Fe, Qm]) _ g o n cap p hp c0
  ·exact H9 17 _ (by simp [Da, Fe, Qm]) _ g o n cap p hp c0
  ·exact H9 18 _ (by simp [Da, Fe, Qm]) _ g o n cap p hp c0
  ·have : bs (Fe m (Da ⟨19, ln, cl, s, num, tx⟩) ((Ai (sz l) p).map fun q => TxF l q (Do m (Da ⟨19, ln, cl, s, num, tx⟩)))) = tx := by
    show bs tx.data.toList = tx
    exact Ei tx
   show A0 16 _ (bs (Fe m (Da ⟨19, ln, cl, s, num, tx⟩) ((Ai (sz l) p).map fun q => TxF l q (Do m (Da ⟨19, ln, cl, s, num, tx⟩))))) _
   rw [this]
   exact X6 tx _ g o n cap p hp c0 c5
  ·obtain ⟨x, hx, hkx⟩ := a44 (P := Cv) hM.2.2
   obtain rfl := Ml ok hx
   have hq := hK (p + 1) (by rw [hx]; simp)
   have hl := hL (p + 1) (by rw [hx]; simp)
   rw [Cv, decide_eq_true_eq] at hkx
   have H := ih (p + 1) (by omega) hq.2 hkx.1 hkx.2 m hm w' hb
   rw [hx]
   show A0 16 _ (bs ([91] ++ (TxF l (p + 1) m).2 ++ [93])) _
   rw [← Ak, ← Ak]
   exact Ut _ (by rw [An]; omega) _ g o n cap p hp (by have := C.few; omega) c0 (zz H)
end
end Go.Proofs.YtoaplbljflhheaaGreat
namespace Go.Proofs.YtoaplbljflhheaaGreat
open Go.RowKit Go.Sort
theorem Iq (m : Nat) (x : Tx) (h : x.2.length ≤ 99000000) : (bs (brk m x)).size ≤ 100000000 := by
 rw [An]
 have := R1 m x
 omega
section
variable {w : World} {g o n : Nat} {l : List Nd} (C : Ctx w g o n l)
include C
theorem Ctx.oper (cap : Nat) {p : Nat} (hp : p < n) (H : TC 18 w g o n cap l p) {m : Nat} (hm : m ≤ 4100) (hlen : (TxF l p m).2.length ≤ 99000000) {k : Nat} (hk : k ≤ 100) : Gg w (A0 35 #[Cp g o n cap, .int .i64 p, .int .i64 k] (bs (brk k (TxF l p m)))) := by
 intro w' hb
 have hS := H m hm w' hb
 have hat := (C.node hp).carry hb
 have hsg := C.sg hp
 have T : (TxF l p m).1 = Da (nd l p) := by rw [show (TxF l p m) = Go.Proofs.YtoaplbljflhheaaGreat.txt (Ey l) p m from rfl, C.at_ hp m]
 obtain ⟨kd, ln, cl, s, num, tx, hN⟩ : ∃ kd ln cl s num tx, nd l p = ⟨kd, ln, cl, s, num, tx⟩ := ⟨_, _, _, _, _, _, rfl⟩
 rw [hN] at hat hsg T
 have HL := fun w => Us kd ln cl s num tx w _ rfl hsg
 have e : lvl (TxF l p m).1 = V6 kd num := by rw [T]; rfl
 unfold brk
 by_cases hq : V6 kd num < k
 ·rw [if_pos (by rw [e]; exact hq)]
  have := a1x (bs (TxF l p m).2) (by rw [An]; omega) w' g o n cap p k _ hp (by have := C.few; omega) hk kd ln cl s num tx (zz hat) (zz hS) (zz HL) hq
  rw [show ({ data := #[40] } : ByteArray) = bs [40] from rfl, show ({ data := #[41] } : ByteArray) = bs [41] from rfl, Ak, Ak] at this
  exact this
 ·rw [if_neg (by rw [e]; exact hq)]
  exact a1y (bs (TxF l p m).2) (by rw [An]; omega) w' g o n cap p k _ hp (by have := C.few; omega) hk kd ln cl s num tx (zz hat) (zz hS) (zz HL) hq
end
theorem My {w : World} {g o n : Nat} {l : List Nd} (cap : Nat) {m : Nat} (hm : m ≤ 4100) (ps : List Nat) (hps : ∀ q ∈ ps, TC 18 w g o n cap l q) (hsum : Er (ps.map fun q => TxF l q m) ≤ 99000000) (hpl : ps.length ≤ 4000) :
  ∀ w' a c, Below w.heap.size w w' → Lk w' a ps → A0 34 #[Cp g o n cap, .slice a ps.length c] (bs (Ba (ps.map fun q => TxF l q m))) w' := fun w' a c hb hI =>
 a1u w' g o n cap a ps.length c ps (ps.map fun q => TxF l q m) (zz rfl) (zz (by simp)) (zz hI) (by omega) (by omega) (zz fun i hi => by
  have := (hps (ps.getD i 0) (by rw [List.getD_eq_getElem?_getD, List.getElem?_eq_getElem hi]; exact List.getElem_mem hi) m hm).at_ hb
  have e1 : kth (ps.map fun q => TxF l q m) i = TxF l (ps.getD i 0) m := by simp [kth, List.getD_eq_getElem?_getD, List.getElem?_map, List.getElem?_eq_getElem hi]
  rw [e1]
  exact this)
section
variable {w : World} {g o n : Nat} {l : List Nd} (C : Ctx w g o n l)
include C
theorem Xy (cap : Nat) : ∀ d p, n - p ≤ d → p < n → 21 ≤ (nd l p).kind → (nd l p).kind ≤ 32 → TC 18 w g o n cap l p := by
 intro d
 induction d with
 | zero => intro p h1 h2; omega
 | succ d ih =>
  intro p hd hp k1 k2 m hm w' hb
  have T := C.at_ hp m
  have hat := zz ((C.node hp).carry hb)
  have hM := C.may p hp
  have hsum := C.sum hp hm
  have hK := fun x (hx : x ∈ Ai (sz l) p) => C.kid hp hx
  have hL := fun x (hx : x ∈ Ai (sz l) p) => C.kth_len hp hm hx
  have hE : ∀ x, x ∈ Ai (sz l) p → Bc (Ag l x) = true → TC 18 w g o n cap l x := fun x hx hk => by
   rw [Bc, decide_eq_true_eq] at hk
   have := hK x hx
   exact ih x (by omega) this.2 hk.1 hk.2
  have hT : ∀ x, x ∈ Ai (sz l) p → Cv (Ag l x) = true → TC 16 w g o n cap l x := fun x hx hk => by
   rw [Cv, decide_eq_true_eq] at hk
   exact Ia C cap n x (by omega) (hK x hx).2 hk.1 hk.2
  have hkl : (Ai (sz l) p).length ≤ 4000 := by
   have := Fz (C.right.ok p hp)
   have := C.few
   omega
  have HK := zz (fun w2 (h2 : Below w'.heap.size w' w2) => C.kids hp cap w2 (Ab hb h2))
  have htx := C.txs hp
  have hsg := C.sg hp
  have hwf := (C.wf p (by rw [C.len]; exact hp)).num
  have hn6 : n ≤ 1000000 := by have := C.few; omega
  rw [show (TxF l p m) = Go.Proofs.YtoaplbljflhheaaGreat.txt (Ey l) p m from rfl, T]
  unfold Qb at hM
  obtain ⟨kd, ln, cl, s, num, tx, hN⟩ : ∃ kd ln cl s num tx, nd l p = ⟨kd, ln, cl, s, num, tx⟩ := ⟨_, _, _, _, _, _, rfl⟩
  rw [hN] at hat hM k1 k2 htx hsg hwf ⊢
  simp only at hM k1 k2 htx hsg hwf
  have htx6 : tx.size ≤ 1000000 := by omega
  unfold Ax at hwf
  clear T
  have hk : kd = 21 ∨ kd = 22 ∨ kd = 23 ∨ kd = 24 ∨ kd = 25 ∨ kd = 26 ∨ kd = 27 ∨ kd = 28 ∨ kd = 29 ∨ kd = 30 ∨ kd = 31 ∨ kd = 32 := by omega
  rcases hk with rfl | rfl | rfl | rfl | rfl | rfl | rfl | rfl | rfl | rfl | rfl | rfl
  ·have h0 : 0 ≤ num := by simpa [Bp] using hM.2.1
   have H := fun w2 => Nm.rtext_any num w2 hwf.1 hwf.2
   rw [Nm.textL, if_neg (by omega), show num.natAbs = num.toNat by omega] at H
   exact b37 w' g o n cap p hp hn6 ln cl s num tx htx6 hat _ HK _ (by rw [An]; have := Nm.dec_len_le num.toNat (by omega); show (Nm.dec num.toNat).length ≤ _; omega) (zz H)
  ·have h0 : 0 ≤ num := by simp [Bp] at hM; omega
   have H := fun w2 => Nm.rtext_any num w2 hwf.1 hwf.2
   rw [Nm.textL, if_neg (by omega), show num.natAbs = num.toNat by omega] at H
   exact b36 w' g o n cap p hp hn6 ln cl s num tx htx6 hat _ HK (bs (Nm.dec num.toNat)) (by rw [An]; have := Nm.dec_len_le num.toNat (by omega); omega) (zz H) _ (zz (Ak _ [105]))
  ·have H := fun w2 => Uq tx w2 htx
   exact b35 w' g o n cap p hp hn6 ln cl s num tx htx6 hat _ HK _ (by rw [An]; have h1 := Nc tx.data.toList; have h2 := J4 tx.data.toList; have h3 : tx.data.toList.length = tx.size := Array.length_toList; show (lit tx.data.toList).length ≤ _; omega) (zz H)
  ·have h01 : num = 0 ∨ num = 1 := by simpa [Bp] using hM.2.1
   rcases h01 with rfl | rfl
   ·exact b0z w' g o n cap p hp hn6 ln cl s 0 tx htx6 hat _ HK (by decide)
   ·exact b0y w' g o n cap p hp hn6 ln cl s tx htx6 hat _ HK
  ·exact b34 w' g o n cap p hp hn6 ln cl s num tx htx6 hat _ HK
  ·have := b33 w' g o n cap p hp hn6 ln cl s num tx htx6 hat _ HK
   have e : bs tx.data.toList = tx := Ei tx
   show A0 18 _ (bs tx.data.toList) w'
   rw [e]
   exact this
  ·have HX : ∀ q ∈ Ai (sz l) p, TC 18 w g o n cap l q := fun q hq => hE q hq (by
    have := hM.2.2
    have := List.all_eq_true.1 (show ((Ai (sz l) p).map (Ag l)).all Bc = true from this) _ (List.mem_map_of_mem hq)
    exact this)
   have HR := My (w := w) (g := g) (o := o) (n := n) (l := l) cap hm (Ai (sz l) p) HX hsum hkl
   have hcl := D6 ((Ai (sz l) p).map fun q => TxF l q m)
   rw [List.length_map] at hcl
   exact b32 w' g o n cap p hp hn6 ln cl s num tx htx6 hat _ HK (bs (Ba ((Ai (sz l) p).map fun q => TxF l q m))) (by rw [An]; have : Er ((Ai (sz l) p).map fun q => TxF l q m) ≤ 99000000 := hsum; omega) (zz fun w2 a c h2 hI => HR w2 a c (Ab hb h2) hI) _ (zz (by
    show _ = bs (tx.data.toList ++ [40] ++ Ba _ ++ [41])
    rw [← Ak, ← Ak, ← Ak, Ei]
    rfl))
  ·obtain ⟨x, y, hx, ex, ey⟩ := a43 (P := Bc) (Q := Bc) hM.2.2
   rw [hx] at HK hE hK hL ⊢
   have HA := C.oper cap (hK x (by simp)).2 (hE x (by simp) ex) hm (hL x (by simp)) (k := 8) (by decide)
   have HB := hE y (by simp) ey m hm
   exact b31 w' g o n cap p hp hn6 ln cl s num tx hat x y HK (bs (brk 8 (TxF l x m))) (bs (TxF l y m).2) (Iq _ _ (hL x (by simp))) (by rw [An]; have := hL y (by simp); omega) (zz (HA.at_ hb)) (zz (HB.at_ hb)) _ (zz (by
    show _ = bs (brk 8 (TxF l x m) ++ [91] ++ (TxF l y m).2 ++ [93])
    rw [← Ak, ← Ak, ← Ak]
    rfl))
  ·obtain ⟨x, hx, ex⟩ := a44 (P := Bc) hM.2.2
   rw [hx] at HK hE hK hL ⊢
   have HA := C.oper cap (hK x (by simp)).2 (hE x (by simp) ex) hm (hL x (by simp)) (k := 8) (by decide)
   exact b30 w' g o n cap p hp hn6 ln cl s num tx htx6 hat x HK (bs (brk 8 (TxF l x m))) (Iq _ _ (hL x (by simp))) (zz (HA.at_ hb)) _ (zz (by
    show _ = bs (brk 8 (TxF l x m) ++ [46] ++ tx.data.toList)
    rw [← Ak, ← Ak, Ei]
    rfl))
  ·obtain ⟨x, hx, ex⟩ := a44 (P := Bc) hM.2.2
   rw [hx] at HK hE hK hL ⊢
   have HA := C.oper cap (hK x (by simp)).2 (hE x (by simp) ex) hm (hL x (by simp)) (k := 7) (by decide)
   have HS := fun w2 => Kh num w2 (hsg (.inl rfl))
   exact b3z w' g o n cap p hp hn6 ln cl s num tx htx6 hat x HK (bs (opS num).1) (opS num).2 (by rw [An]; have := Yw num; omega) (zz HS) (bs (brk 7 (TxF l x m))) (Iq _ _ (hL x (by simp))) (zz (HA.at_ hb)) _ (zz (by
    show _ = bs ((opS num).1 ++ brk 7 (TxF l x m))
    rw [← Ak]))
  ·obtain ⟨x, y, hx, ex, ey⟩ := a43 (P := Bc) (Q := Bc) hM.2.2
   rw [hx] at HK hE hK hL ⊢
   have hs := hsg (.inr rfl)
   have HS := fun w2 => Kh num w2 hs
   have hl7 : (opS num).2 ≤ 10 := by
    simp only [sgE, List.map_cons, List.map_nil, List.mem_cons, List.not_mem_nil, or_false] at hs
    rcases hs with rfl | rfl | rfl | rfl | rfl | rfl | rfl | rfl | rfl | rfl | rfl | rfl | rfl | rfl | rfl <;> decide
   have HA := C.oper cap (hK x (by simp)).2 (hE x (by simp) ex) hm (hL x (by simp)) (k := Fx (opS num).2) (by unfold Fx; split <;> omega)
   have HB := C.oper cap (hK y (by simp)).2 (hE y (by simp) ey) hm (hL y (by simp)) (k := (opS num).2 + 1) (by omega)
   have hZ : bs (brk (Fx (opS num).2) (TxF l x m)) ++ { data := #[32] } ++ bs (opS num).1 ++ { data := #[32] } ++ bs (brk ((opS num).2 + 1) (TxF l y m)) = bs (Fe m (Da ⟨31, ln, cl, s, num, tx⟩) [TxF l x m, TxF l y m]) := by
    show _ = bs (brk (Fx (opS num).2) (TxF l x m) ++ [32] ++ (opS num).1 ++ [32] ++ brk ((opS num).2 + 1) (TxF l y m))
    rw [← Ak, ← Ak, ← Ak, ← Ak]
    rfl
   have sA := Iq (Fx (opS num).2) _ (hL x (by simp))
   have sB := Iq ((opS num).2 + 1) _ (hL y (by simp))
   have sO : (bs (opS num).1).size ≤ 100 := by rw [An]; have := Yw num; omega
   show A0 18 _ (bs (Fe m (Da ⟨31, ln, cl, s, num, tx⟩) [TxF l x m, TxF l y m])) w'
   rw [← hZ]
   clear hZ
   replace HS := zz HS
   replace HA := zz (HA.at_ hb)
   replace HB := zz (HB.at_ hb)
   generalize (opS num).2 = lv at *
   by_cases h3 : lv = 3
   ·have e : Fx lv = lv + 1 := by unfold Fx; rw [if_pos (.inl h3)]
    rw [e] at HA sA ⊢
    exact b0x w' g o n cap p hp hn6 ln cl s num tx htx6 hat x y HK lv hl7 h3 _ sO HS _ sA _ sB HA HB _ (zz rfl)
   ·by_cases h4 : lv = 4
    ·have e : Fx lv = lv + 1 := by unfold Fx; rw [if_pos (.inr h4)]
     rw [e] at HA sA ⊢
     exact b0w w' g o n cap p hp hn6 ln cl s num tx htx6 hat x y HK lv hl7 h4 _ sO HS _ sA _ sB HA HB _ (zz rfl)
    ·have e : Fx lv = lv := by unfold Fx; rw [if_neg (by omega)]
     rw [e] at HA sA ⊢
     exact b0v w' g o n cap p hp hn6 ln cl s num tx htx6 hat x y HK lv hl7 h3 h4 _ sO HS _ sA _ sB HA HB _ (zz rfl)
  ·have hA := hM.2.2
   have hA : (A3 [[19].contains] ((Ai (sz l) p).map (Ag l)) || A3 [[20].contains, Bc] ((Ai (sz l) p).map (Ag l))) = true := hA
   rw [Bool.or_eq_true] at hA
   rcases hA with hA | hA
   ·obtain ⟨x, hx, ex⟩ := a44 hA
    rw [hx] at HK hT hK hL ⊢
    have ex' : Ag l x = 19 := by simpa using ex
    have HT := hT x (by simp) (by rw [ex']; decide) m hm
    have HR := My (w := w) (g := g) (o := o) (n := n) (l := l) cap hm [] (fun q hq => absurd hq (by simp)) (by simp [Er]) (by simp)
    exact b0u w' g o n cap p hp hn6 ln cl s num tx htx6 hat x HK (bs []) (by decide) (zz fun w2 a c h2 hI => HR w2 a c (Ab hb h2) hI) (bs (TxF l x m).2) (by rw [An]; have := hL x (by simp); omega) (zz (HT.at_ hb)) _ (zz (by
     show _ = bs ([109, 97, 107, 101, 32] ++ (TxF l x m).2 ++ [40] ++ [] ++ [41])
     rw [← Ak, ← Ak, ← Ak, ← Ak]
     rfl))
   ·obtain ⟨x, y, hx, ex, ey⟩ := a43 hA
    rw [hx] at HK hT hE hK hL ⊢
    have ex' : Ag l x = 20 := by simpa using ex
    have HT := hT x (by simp) (by rw [ex']; decide) m hm
    have HR := My (w := w) (g := g) (o := o) (n := n) (l := l) cap hm [y] (fun q hq => by simp at hq; subst hq; exact hE q (by simp) ey) (by have := hL y (by simp); simp [Er]; omega) (by simp)
    have ec : Ba ([y].map fun q => TxF l q m) = (TxF l y m).2 := by simp [Ba]
    rw [ec] at HR
    exact b0t w' g o n cap p hp hn6 ln cl s num tx htx6 hat x y HK (bs (TxF l y m).2) (by rw [An]; have := hL y (by simp); omega) (zz fun w2 a c h2 hI => HR w2 a c (Ab hb h2) hI) (bs (TxF l x m).2) (by rw [An]; have := hL x (by simp); omega) (zz (HT.at_ hb)) _ (zz (by
     show _ = bs ([109, 97, 107, 101, 32] ++ (TxF l x m).2 ++ [40] ++ Ba [TxF l y m] ++ [41])
     rw [show Ba [TxF l y m] = (TxF l y m).2 by simp [Ba], ← Ak, ← Ak, ← Ak, ← Ak]
     rfl))
end
end Go.Proofs.YtoaplbljflhheaaGreat
namespace Go.Proofs.YtoaplbljflhheaaGreat
open Go.RowKit Go.Sort
def Gx (n : Nat) (ks : List Tx) : List UInt8 := 123 :: ks.flatMap fun x => nl (n + 1) ++ x.2
theorem Mk (n : Nat) (ks : List Tx) (i : Nat) (hi : i < ks.length) : Gx n (ks.take (i + 1)) = Gx n (ks.take i) ++ (nl (n + 1) ++ (kth ks i).2) := by
 have e : ks.take (i + 1) = ks.take i ++ [kth ks i] := by
  rw [List.take_add_one, kth, List.getD_eq_getElem?_getD, List.getElem?_eq_getElem hi]; rfl
 rw [e]
 simp [Gx, List.flatMap_append]
theorem Kw (n : Nat) (ks : List Tx) : Gx n ks ++ nl n ++ [125] = lines n ks := by simp [Gx, lines]
theorem Pp (n : Nat) (ks : List Tx) (i : Nat) : (Gx n (ks.take i)).length ≤ Er ks + ks.length * (n + 2) + 1 := by
 have h1 := Pm n (ks.take i)
 rw [← Kw] at h1
 simp only [List.length_append, Pg, List.length_cons, List.length_nil] at h1
 have h2 := H5 ks i
 have h3 : (ks.take i).length ≤ ks.length := by rw [List.length_take]; omega
 have h4 : (ks.take i).length * (n + 2) ≤ ks.length * (n + 2) := Nat.mul_le_mul_right _ h3
 omega
def b4z (w : World) (t : Nat) (ks : List Tx) (n : Nat) (s i : Value) (wr : World) : Prop := ∃ k : Nat, k ≤ n ∧ s = .string (bs (Gx t (ks.take k))) ∧ i = .int .i64 k ∧ Below w.heap.size w wr
theorem Uw (w : World) (g o n cap p t : Nat) (ht : t ≤ 10000) (ps : List Nat) (m : Nat) (ks : List Tx) (HK : Hid (Dp w g o n cap p ps)) (hm : Hid (ps.length = m)) (hk : Hid (ks.length = m)) (hm2 : m ≤ 4000) (hs : Er ks ≤ 100000000)
  (H : Hid (∀ i, i < m → Gg w (A0 57 #[Cp g o n cap, .int .i64 (ps.getD i 0 : Nat), .int .i64 ((t : Int) + 1)] (bs (kth ks i).2))))
  (R : ByteArray) (hR : Hid (bs (lines t ks) = R)) : A0 29 #[Cp g o n cap, .int .i64 p, .int .i64 t] R w := by
 have HT1 := zz (fun w => by
  have := On (t + 1) w (by omega)
  rwa [show ((t + 1 : Nat) : Int) = (t : Int) + 1 by omega] at this)
 have HT0 := zz (fun w => On t w (by omega))
 have e1 : IntKind.i64.wrap ((t : Int) + 1) = (t : Int) + 1 := by rw [IntKind.wrap_i64]; omega
 go_enter Tryz.func29, Tryz.ntmps29
 go_wp2_with fail
 refine (HK.out _ (Below.refl _ _)).mono ?_
 rintro e W ⟨v, rfl, ho, hb1⟩
 obtain ⟨a', cap', rfl, hcell⟩ := Aq ho
 have HI := zz (show Lk W a' ps from fun i hi => by
  obtain ⟨q, h1, -, h2⟩ := hcell i hi
  exact ⟨q, 0, h1, by rw [Nat.zero_add]; exact h2⟩)
 have hbW := zz hb1
 rw [hm.out]
 clear hb1 hcell ho
 go_wp2_with fail
 go_loopw [7, 15] (fun s i wr => b4z W t ks m s i wr) (fun _ i _ => m - (intOf i).toNat)
 case atStart => exact ⟨0, Nat.zero_le _, rfl, rfl, Below.refl _ _⟩
 case round =>
  obtain ⟨k, hkm, rfl, rfl, hB⟩ := hrel
  have hl2 : (bs (Gx t (ks.take k))).size ≤ 150000000 := by
   rw [An]
   have h1 := Pp t ks k
   have h2 : ks.length * (t + 2) ≤ 4000 * (10000 + 2) := Nat.mul_le_mul (by rw [hk.out]; omega) (by omega)
   omega
  by_cases hlt : k < m
  ·obtain ⟨q, o', rfl, hc⟩ := (HI.out.carry hB) k (by rw [hm.out]; exact hlt)
   have HC := zz (H.out k hlt)
   have hl1 : (bs (kth ks k).2).size ≤ 100000000 := by rw [An]; exact Nat.le_trans (Nf ks k) hs
   obtain ⟨x, hx⟩ : ∃ x, ps.getD k 0 = x := ⟨_, rfl⟩
   rw [hx] at hc HC
   obtain ⟨S, hS⟩ : ∃ S, bs (kth ks k).2 = S := ⟨_, rfl⟩
   obtain ⟨T, hT⟩ : ∃ T, bs (Gx t (ks.take k)) = T := ⟨_, rfl⟩
   obtain ⟨N, hN⟩ : ∃ N, bs (nl (t + 1)) = N := ⟨_, rfl⟩
   obtain ⟨S1, h1⟩ : ∃ S1, N ++ S = S1 := ⟨_, rfl⟩
   obtain ⟨S2, h2⟩ : ∃ S2, T ++ S1 = S2 := ⟨_, rfl⟩
   have sN : N.size ≤ 20000 := by rw [← hN, An, Pg]; omega
   rw [hS] at hl1 HC
   rw [hT] at hl2
   rw [hN] at HT1
   have r1 := Aj h1 (by omega)
   have s1 : S1.size ≤ 110000000 := by rw [← h1, ByteArray.size_append]; omega
   have r2 := Aj h2 (by omega)
   have HE : Hid (S2 = bs (Gx t (ks.take (k + 1)))) := zz (by rw [Mk t ks k (by rw [hk.out]; exact hlt), ← h2, ← h1, ← hN, ← hS, ← hT, Ak, Ak])
   have hbr := zz (Ab hbW.out hB)
   replace hB := zz hB
   rw [hT]
   clear hx hS hT hN h1 h2
   have k0 := fun D os => cell_regrown hc D os
   have d0 := Al HC.out hbr.out
   have d1 : ∀ D os, Calls Tryz.prog 56 #[.int .i64 ((t : Int) + 1)] (grow (redrawn wr D) os) fun e w'' => e = .returned (.string N) ∧ ∃ p : Regrown, w'' = grow (redrawn wr p.d) p.os := fun D os => Calls.regrown_of (HT1.out _)
   go_wp2_with fail
   refine wp_region_quiet_below (by kernel_rfl) (by kernel_rfl) ?_
   repeat (quiet_step (first | with_reducible exact d0 _ _ | with_reducible exact d1 _ _))
   refine wpQuiet_nil ?_
   rintro _ ⟨⟨dq, osq⟩, rfl⟩
   have hb := zz (Ab hB.out (below_regrown wr dq osq))
   clear k0 d0 d1
   generalize grow (redrawn wr dq) osq = w' at *
   go_wp2_with fail
   go_roundw
   case rel => exact ⟨k + 1, hlt, by rw [HE.out], by go_num, hb.out⟩
   case measure => simp [intOf]; omega
  ·obtain rfl : k = m := by omega
   obtain ⟨T, hT⟩ : ∃ T, bs (Gx t (ks.take k)) = T := ⟨_, rfl⟩
   obtain ⟨N, hN⟩ : ∃ N, bs (nl t) = N := ⟨_, rfl⟩
   have sN : N.size ≤ 20000 := by rw [← hN, An, Pg]; omega
   rw [hT] at hl2
   rw [hN] at HT0
   have HE : Hid (T ++ N ++ { data := #[125] } = R) := zz (by
    rw [← hR.out, ← Kw, ← hT, ← hN, List.take_of_length_le (by rw [hk.out]; omega), show ({ data := #[125] } : ByteArray) = bs [125] from rfl, Ak, Ak])
   rw [hT]
   have hE := HE.out
   have hbr := zz (Ab hbW.out hB)
   clear hT hN hB HE hR
   subst hE
   go_wp2_with fail
   refine (HT0.out _).mono ?_
   rintro e w2 ⟨rfl, hb2⟩
   replace hb2 := zz (Ab hbr.out hb2)
   go_wp2_with fail
   go_ret
   exact ⟨rfl, hb2.out⟩
end Go.Proofs.YtoaplbljflhheaaGreat
namespace Go.Proofs.YtoaplbljflhheaaGreat
open Go.RowKit Go.Sort
def TD (f : FuncId) (w : World) (g o n cap : Nat) (l : List Nd) (p : Nat) : Prop := ∀ m, m ≤ p → Gg w (A0 f #[Cp g o n cap, .int .i64 p, .int .i64 m] (bs (TxF l p m).2))
section
variable {w : World} {g o n : Nat} {l : List Nd} (C : Ctx w g o n l)
include C
theorem Xz (cap : Nat) : ∀ d p, n - p ≤ d → p < n → (7 ≤ (nd l p).kind → (nd l p).kind ≤ 13 → TD 57 w g o n cap l p) ∧ ((nd l p).kind = 6 → TD 29 w g o n cap l p) := by
 intro d
 induction d with
 | zero => intro p h1 h2; omega
 | succ d ih =>
  intro p hd hp
  have few := C.few
  have hat0 := C.node hp
  have hM := C.may p hp
  have hK := fun x (hx : x ∈ Ai (sz l) p) => C.kid hp hx
  have hE : ∀ x, x ∈ Ai (sz l) p → Bc (Ag l x) = true → TC 18 w g o n cap l x := fun x hx hk => by
   rw [Bc, decide_eq_true_eq] at hk
   exact Xy C cap n x (by omega) (hK x hx).2 hk.1 hk.2
  have hT : ∀ x, x ∈ Ai (sz l) p → Cv (Ag l x) = true → TC 16 w g o n cap l x := fun x hx hk => by
   rw [Cv, decide_eq_true_eq] at hk
   exact Ia C cap n x (by omega) (hK x hx).2 hk.1 hk.2
  have hBk : ∀ x, x ∈ Ai (sz l) p → [6].contains (Ag l x) = true → TD 29 w g o n cap l x := fun x hx hk => (ih x (by have := hK x hx; omega) (hK x hx).2).2 (by simpa [Ag] using hk)
  have hSt : ∀ x, x ∈ Ai (sz l) p → Dh (Ag l x) = true → TD 57 w g o n cap l x := fun x hx hk => by
   have hk2 : 7 ≤ (nd l x).kind ∧ (nd l x).kind ≤ 13 := by rw [Dh, decide_eq_true_eq] at hk; exact hk
   exact (ih x (by have := hK x hx; omega) (hK x hx).2).1 hk2.1 hk2.2
  have hkl : (Ai (sz l) p).length ≤ 4000 := by
   have := Fz (C.right.ok p hp)
   omega
  have htx := C.txs hp
  have hn6 : n ≤ 1000000 := by omega
  have HK0 := C.kids hp cap
  have hL0 := fun m (hm : m ≤ 4100) x (hx : x ∈ Ai (sz l) p) => C.kth_len hp hm hx
  have hsum0 := fun m (hm : m ≤ 4100) => C.sum hp (m := m) hm
  have T0 := fun m => C.at_ hp m
  unfold Qb at hM
  obtain ⟨kd, ln, cl, s, num, tx, hN⟩ : ∃ kd ln cl s num tx, nd l p = ⟨kd, ln, cl, s, num, tx⟩ := ⟨_, _, _, _, _, _, rfl⟩
  rw [hN] at hat0 hM htx T0 ⊢
  simp only at hM htx
  have htx6 : tx.size ≤ 1000000 := by omega
  refine ⟨fun k1 k2 m hm w' hb => ?_, fun k6 m hm w' hb => ?_⟩
  ·simp only at k1 k2
   have hm4 : m ≤ 4100 := by omega
   have hm6 : m ≤ 1000000 := by omega
   have hat := zz (hat0.carry hb)
   have HK := zz (fun w2 (h2 : Below w'.heap.size w' w2) => HK0 w2 (Ab hb h2))
   have hL := hL0 m hm4
   rw [show (TxF l p m) = Go.Proofs.YtoaplbljflhheaaGreat.txt (Ey l) p m from rfl, T0]
   clear hat0 HK0 hL0 hsum0 T0
   have hk : kd = 7 ∨ kd = 8 ∨ kd = 9 ∨ kd = 10 ∨ kd = 11 ∨ kd = 12 ∨ kd = 13 := by omega
   rcases hk with rfl | rfl | rfl | rfl | rfl | rfl | rfl
   ·obtain ⟨x, y, hx, ex, ey⟩ := a43 (P := Cv) (Q := Bc) hM.2.2
    rw [hx] at HK hE hT hK hL ⊢
    exact b5q w' g o n cap p hp hn6 m hm6 ln cl s num tx htx6 hat x y HK (bs (TxF l x m).2) (by rw [An]; have := hL x (by simp); omega) (bs (TxF l y m).2) (by rw [An]; have := hL y (by simp); omega) (zz ((hT x (by simp) ex m hm4).at_ hb)) (zz ((hE y (by simp) ey m hm4).at_ hb)) _ (zz (by
     show _ = bs ([118, 97, 114, 32] ++ tx.data.toList ++ [58, 32] ++ (TxF l x m).2 ++ [32, 61, 32] ++ (TxF l y m).2 ++ [59])
     rw [← Ak, ← Ak, ← Ak, ← Ak, ← Ak, ← Ak, Ei]
     rfl))
   ·obtain ⟨x, y, hx, ex, ey⟩ := a43 (P := [26, 28, 29].contains) (Q := Bc) hM.2.2
    rw [hx] at HK hE hT hK hL ⊢
    have ex' : Bc (Ag l x) = true := by
     have : Ag l x = 26 ∨ Ag l x = 28 ∨ Ag l x = 29 := by simpa using ex
     rw [Bc, decide_eq_true_eq]; omega
    exact b5p w' g o n cap p hp hn6 m hm6 ln cl s num tx htx6 hat x y HK (bs (TxF l x m).2) (by rw [An]; have := hL x (by simp); omega) (bs (TxF l y m).2) (by rw [An]; have := hL y (by simp); omega) (zz ((hE x (by simp) ex' m hm4).at_ hb)) (zz ((hE y (by simp) ey m hm4).at_ hb)) _ (zz (by
     show _ = bs ((TxF l x m).2 ++ [32, 61, 32] ++ (TxF l y m).2 ++ [59])
     rw [← Ak, ← Ak, ← Ak]
     rfl))
   ·have hA : (A3 [Bc, [6].contains] ((Ai (sz l) p).map (Ag l)) || A3 [Bc, [6].contains, [6].contains] ((Ai (sz l) p).map (Ag l))) = true := hM.2.2
    rw [Bool.or_eq_true] at hA
    rcases hA with hA | hA
    ·obtain ⟨x, y, hx, ex, ey⟩ := a43 hA
     rw [hx] at HK hE hBk hK hL ⊢
     have hy := hK y (by simp)
     exact b39 w' g o n cap p hp hn6 m hm6 ln cl s num tx htx6 hat x y HK (bs (TxF l x m).2) (by rw [An]; have := hL x (by simp); omega) (bs (TxF l y m).2) (by rw [An]; have := hL y (by simp); omega) (zz ((hE x (by simp) ex m hm4).at_ hb)) (zz ((hBk y (by simp) ey m (by omega)).at_ hb)) _ (zz (by
      show _ = bs ([105, 102, 32] ++ (TxF l x m).2 ++ [32] ++ (TxF l y m).2 ++ [])
      rw [← Ak, ← Ak, ← Ak, ← Ak, show bs [] = ByteArray.empty from rfl, ByteArray.append_empty]
      rfl))
    ·obtain ⟨x, y, z, hx, ex, ey, ez⟩ := b54 hA
     rw [hx] at HK hE hBk hK hL ⊢
     have hy := hK y (by simp)
     have hz := hK z (by simp)
     exact b38 w' g o n cap p hp hn6 m hm6 ln cl s num tx htx6 hat x y z HK (bs (TxF l x m).2) (by rw [An]; have := hL x (by simp); omega) (bs (TxF l y m).2) (by rw [An]; have := hL y (by simp); omega) (bs (TxF l z m).2) (by rw [An]; have := hL z (by simp); omega) (zz ((hE x (by simp) ex m hm4).at_ hb)) (zz ((hBk y (by simp) ey m (by omega)).at_ hb)) (zz ((hBk z (by simp) ez m (by omega)).at_ hb)) _ _ (zz rfl) (zz (by
      show _ = bs ([105, 102, 32] ++ (TxF l x m).2 ++ [32] ++ (TxF l y m).2 ++ ([32, 101, 108, 115, 101, 32] ++ (TxF l z m).2))
      rw [← Ak, ← Ak, ← Ak, ← Ak, ← Ak]
      rfl))
   ·obtain ⟨x, y, hx, ex, ey⟩ := a43 (P := Bc) (Q := [6].contains) hM.2.2
    rw [hx] at HK hE hBk hK hL ⊢
    have hy := hK y (by simp)
    exact b4c w' g o n cap p hp hn6 m hm6 ln cl s num tx htx6 hat x y HK (bs (TxF l x m).2) (by rw [An]; have := hL x (by simp); omega) (bs (TxF l y m).2) (by rw [An]; have := hL y (by simp); omega) (zz ((hE x (by simp) ex m hm4).at_ hb)) (zz ((hBk y (by simp) ey m (by omega)).at_ hb)) _ (zz (by
     show _ = bs ([119, 104, 105, 108, 101, 32] ++ (TxF l x m).2 ++ [32] ++ (TxF l y m).2)
     rw [← Ak, ← Ak, ← Ak]
     rfl))
   ·have hA : (A3 [] ((Ai (sz l) p).map (Ag l)) || A3 [Bc] ((Ai (sz l) p).map (Ag l))) = true := hM.2.2
    rw [Bool.or_eq_true] at hA
    rcases hA with hA | hA
    ·have hx := b55 hA
     rw [hx] at HK ⊢
     exact b01 w' g o n cap p hp hn6 m hm6 ln cl s num tx htx6 hat [] HK rfl
    ·obtain ⟨x, hx, ex⟩ := a44 hA
     rw [hx] at HK hE hK hL ⊢
     exact b00 w' g o n cap p hp hn6 m hm6 ln cl s num tx htx6 hat x HK (bs (TxF l x m).2) (by rw [An]; have := hL x (by simp); omega) (zz ((hE x (by simp) ex m hm4).at_ hb)) _ (zz (by
      show _ = bs ([114, 101, 116, 117, 114, 110] ++ ([32] ++ (TxF l x m).2) ++ [59])
      rw [← List.append_assoc, show ([114, 101, 116, 117, 114, 110] ++ [32] : List UInt8) = [114, 101, 116, 117, 114, 110, 32] from rfl, ← Ak, ← Ak]
      rfl))
   ·obtain ⟨x, hx, ex⟩ := a44 (P := Bc) hM.2.2
    rw [hx] at HK hE hK hL ⊢
    exact b4b w' g o n cap p hp hn6 m hm6 ln cl s num tx htx6 hat x HK (bs (TxF l x m).2) (by rw [An]; have := hL x (by simp); omega) (zz ((hE x (by simp) ex m hm4).at_ hb)) _ (zz (by
     show _ = bs ([112, 114, 105, 110, 116, 32] ++ (TxF l x m).2 ++ [59])
     rw [← Ak, ← Ak]
     rfl))
   ·obtain ⟨x, hx, ex⟩ := a44 (P := [27].contains) hM.2.2
    rw [hx] at HK hE hK hL ⊢
    have ex' : Bc (Ag l x) = true := by
     have : Ag l x = 27 := by simpa using ex
     rw [Bc, decide_eq_true_eq]; omega
    exact b4a w' g o n cap p hp hn6 m hm6 ln cl s num tx htx6 hat x HK (bs (TxF l x m).2) (by rw [An]; have := hL x (by simp); omega) (zz ((hE x (by simp) ex' m hm4).at_ hb)) _ (zz (by
     show _ = bs ((TxF l x m).2 ++ [59])
     rw [← Ak]
     rfl))
  ·have k6 : kd = 6 := k6
   subst k6
   have HK := zz (fun w2 (h2 : Below w'.heap.size w' w2) => HK0 w2 (Ab hb h2))
   rw [show (TxF l p m) = Go.Proofs.YtoaplbljflhheaaGreat.txt (Ey l) p m from rfl, T0]
   have hall : ((Ai (sz l) p).map (Ag l)).all Dh = true := hM.2.2
   refine Uw w' g o n cap p m (by omega) (Ai (sz l) p) _ ((Ai (sz l) p).map fun q => TxF l q (m + 1)) HK (zz rfl) (zz (by simp)) hkl (Nat.le_trans (hsum0 (m + 1) (by omega)) (by omega)) (zz fun i hi => ?_) _ (zz rfl)
   have e1 : kth ((Ai (sz l) p).map fun q => TxF l q (m + 1)) i = TxF l ((Ai (sz l) p).getD i 0) (m + 1) := by simp [kth, List.getD_eq_getElem?_getD, List.getElem?_map, List.getElem?_eq_getElem hi]
   have hx : (Ai (sz l) p).getD i 0 ∈ Ai (sz l) p := by rw [List.getD_eq_getElem?_getD, List.getElem?_eq_getElem hi]; exact List.getElem_mem hi
   have hs := hSt _ hx (List.all_eq_true.1 hall _ (List.mem_map_of_mem hx))
   rw [e1, show ((m : Int) + 1) = ((m + 1 : Nat) : Int) by omega]
   exact (hs (m + 1) (by have := hK _ hx; omega)).at_ hb
end
end Go.Proofs.YtoaplbljflhheaaGreat
namespace Go.Proofs.YtoaplbljflhheaaGreat
open Go.RowKit Go.Sort
def Gi (ks : List Tx) : List UInt8 := ks.flatMap fun x => x.2 ++ [10]
theorem Vh (ks : List Tx) (i : Nat) (hi : i < ks.length) : Gi (ks.take (i + 1)) = Gi (ks.take i) ++ ((kth ks i).2 ++ [10]) := by
 have e : ks.take (i + 1) = ks.take i ++ [kth ks i] := by
  rw [List.take_add_one, kth, List.getD_eq_getElem?_getD, List.getElem?_eq_getElem hi]; rfl
 rw [e]
 simp [Gi, List.flatMap_append]
theorem Lo (ks : List Tx) (i : Nat) : (Gi (ks.take i)).length ≤ Er ks + ks.length := by
 have h1 := S6 (ks.take i)
 have h2 := H5 ks i
 have h3 : (ks.take i).length ≤ ks.length := by rw [List.length_take]; omega
 unfold Gi
 omega
theorem Hg {ps : List Nat} {f : Nat → Tx} {i : Nat} (hi : i < ps.length) : kth (ps.map f) i = f (ps.getD i 0) := by simp [kth, List.getD_eq_getElem?_getD, List.getElem?_map, List.getElem?_eq_getElem hi]
theorem Na {ps : List Nat} {i : Nat} (hi : i < ps.length) : ps.getD i 0 ∈ ps := by rw [List.getD_eq_getElem?_getD, List.getElem?_eq_getElem hi]; exact List.getElem_mem hi
section
variable {w : World} {g o n : Nat} {l : List Nd} (C : Ctx w g o n l)
include C
theorem Ctx.named (cap : Nat) {q : Nat} (hq : q < n) (k : Nat) (hk : (nd l q).kind = k) (hk2 : k = 3 ∨ k = 5) {m : Nat} (hm : m ≤ 4100) :
  q + 1 < n ∧ TC 16 w g o n cap l (q + 1) ∧ (TxF l (q + 1) m).2.length ≤ 99000000 ∧ (TxF l q m).2 = (nd l q).text.data.toList ++ [58, 32] ++ (TxF l (q + 1) m).2 ++ (if k = 3 then [59] else []) := by
 have hM := C.may q hq
 have hK := fun x (hx : x ∈ Ai (sz l) q) => C.kid hq hx
 have hL := fun x (hx : x ∈ Ai (sz l) q) => C.kth_len hq hm hx
 have T := C.at_ hq m
 have ok := C.right.ok q hq
 unfold Qb at hM
 have hask : A3 [Cv] ((Ai (sz l) q).map (Ag l)) = true := by
  have := hM.2.2
  rw [hk] at this
  rcases hk2 with rfl | rfl <;> exact this
 obtain ⟨x, hx, ex⟩ := a44 hask
 obtain rfl := Ml ok hx
 rw [Cv, decide_eq_true_eq] at ex
 have h1 := hK (q + 1) (by rw [hx]; simp)
 refine ⟨h1.2, Ia C cap n (q + 1) (by omega) h1.2 ex.1 ex.2, hL (q + 1) (by rw [hx]; simp), ?_⟩
 rw [show (TxF l q m) = Go.Proofs.YtoaplbljflhheaaGreat.txt (Ey l) q m from rfl, T, hx]
 obtain ⟨kd, ln, cl, s, num, tx, hN⟩ : ∃ kd ln cl s num tx, nd l q = ⟨kd, ln, cl, s, num, tx⟩ := ⟨_, _, _, _, _, _, rfl⟩
 rw [hN] at hk ⊢
 have hk : kd = k := hk
 subst hk
 rcases hk2 with rfl | rfl
 ·rfl
 ·show _ = tx.data.toList ++ [58, 32] ++ (TxF l (q + 1) m).2 ++ []
  rw [List.append_nil]
  rfl
def b4y (W : World) (A : List UInt8) (ks : List Tx) (n : Nat) (s i : Value) (wr : World) : Prop := ∃ k : Nat, k ≤ n ∧ s = .string (bs (A ++ Gx 0 (ks.take k))) ∧ i = .int .i64 k ∧ Below W.heap.size W wr
def b4u (W : World) (A : List UInt8) (ks : List Tx) (n : Nat) (s i : Value) (wr : World) : Prop := ∃ k : Nat, k ≤ n ∧ s = .string (bs (A ++ Ba (ks.take k))) ∧ i = .int .i64 k ∧ Below W.heap.size W wr
def b4v (W : World) (ks : List Tx) (n : Nat) (s i : Value) (wr : World) : Prop := ∃ k : Nat, k ≤ n ∧ s = .string (bs (Gi (ks.take k))) ∧ i = .int .i64 k ∧ Below W.heap.size W wr
theorem Ctx.nodeS4 {p : Nat} (hp : p < n) (hk : (nd l p).kind = 4) (m : Nat) : ∃ ps r b, Ai (sz l) p = ps ++ [r, b] ∧ (nd l p).num.toNat = ps.length ∧ (∀ q ∈ ps, Ag l q = 5) ∧ D3 (Ag l r) = true ∧ Ag l b = 6 ∧
  (TxF l p m).2 = [102, 110, 32] ++ (nd l p).text.data.toList ++ [40] ++ Ba (ps.map fun q => TxF l q m) ++ [41] ++ (if Ag l r = 14 then [] else [58, 32] ++ (TxF l r m).2) ++ [32] ++ (TxF l b m).2 := by
 have hM := C.may p hp
 have T := C.at_ hp m
 unfold Qb at hM
 rw [hk] at hM
 have hA : Gz (nd l p).num [5].contains (A3 [D3, [6].contains]) ((Ai (sz l) p).map (Ag l)) = true := hM.2.2
 rw [Gz, Bool.and_eq_true, Bool.and_eq_true, decide_eq_true_eq] at hA
 obtain ⟨h1, h2, h3⟩ := hA
 obtain ⟨N, hN⟩ : ∃ N, (nd l p).num.toNat = N := ⟨_, rfl⟩
 rw [hN] at h2 h3
 rw [← List.map_take] at h2
 rw [← List.map_drop] at h3
 obtain ⟨r, b, hrb, er, eb⟩ := a43 h3
 have hps : Ai (sz l) p = (Ai (sz l) p).take N ++ [r, b] := by rw [← hrb, List.take_append_drop]
 have hlen : ((Ai (sz l) p).take N).length = N := by
  have h4 : ((Ai (sz l) p).drop N).length = 2 := by rw [hrb]; rfl
  rw [List.length_drop] at h4
  rw [List.length_take]; omega
 obtain ⟨ps, hps2⟩ : ∃ ps, (Ai (sz l) p).take N = ps := ⟨_, rfl⟩
 rw [hps2] at hps hlen h2
 subst hlen
 have eb' : Ag l b = 6 := by simpa using eb
 refine ⟨ps, r, b, hps, hN, fun q hq => ?_, er, eb', ?_⟩
 ·have := List.all_eq_true.1 h2 _ (List.mem_map_of_mem hq)
  simpa using this
 ·have e1 : kth ((ps ++ [r, b]).map fun q => TxF l q m) ps.length = TxF l r m := by
   rw [Hg (by simp)]
   simp [List.getD_eq_getElem?_getD]
  have e2 : kth ((ps ++ [r, b]).map fun q => TxF l q m) (ps.length + 1) = TxF l b m := by
   rw [Hg (by simp)]
   simp [List.getD_eq_getElem?_getD]
  have e3 : ((ps ++ [r, b]).map fun q => TxF l q m).take ps.length = ps.map fun q => TxF l q m := by
   rw [List.map_append, List.take_append_of_le_length (by simp), List.take_of_length_le (by simp)]
  have er1 : (TxF l r m).1.kind = Ag l r := by
   have hr := C.kid hp (q := r) (by rw [hps]; simp)
   rw [show (TxF l r m) = Go.Proofs.YtoaplbljflhheaaGreat.txt (Ey l) r m from rfl, C.at_ hr.2 m]
   rfl
  rw [show (TxF l p m) = Go.Proofs.YtoaplbljflhheaaGreat.txt (Ey l) p m from rfl, T, hps]
  obtain ⟨kd, ln, cl, s, num, tx, hN4⟩ : ∃ kd ln cl s num tx, nd l p = ⟨kd, ln, cl, s, num, tx⟩ := ⟨_, _, _, _, _, _, rfl⟩
  rw [hN4] at hk hN ⊢
  have hk : kd = 4 := hk
  subst hk
  have hN : num.toNat = ps.length := hN
  show [102, 110, 32] ++ tx.data.toList ++ [40] ++ Ba (((ps ++ [r, b]).map fun q => TxF l q m).take num.toNat) ++ [41] ++ (if (kth ((ps ++ [r, b]).map fun q => TxF l q m) num.toNat).1.kind = 14 then [] else [58, 32] ++ (kth ((ps ++ [r, b]).map fun q => TxF l q m) num.toNat).2) ++ [32] ++ (kth ((ps ++ [r, b]).map fun q => TxF l q m) (num.toNat + 1)).2 = _
  rw [hN, e1, e2, e3, er1]
end
end Go.Proofs.YtoaplbljflhheaaGreat
namespace Go.Proofs.YtoaplbljflhheaaGreat
open Go.RowKit Go.Sort
theorem Sa (ps : List Nat) (f : Nat → Tx) {q : Nat} (hq : q ∈ ps) : (f q).2.length ≤ Er (ps.map f) := by
 obtain ⟨j, hj, e⟩ := List.getElem_of_mem hq
 have h2 := Nf (ps.map f) j
 rw [Hg hj, List.getD_eq_getElem?_getD, List.getElem?_eq_getElem hj] at h2
 simp only [Option.getD_some] at h2
 rw [e] at h2
 exact h2
section
variable {w : World} {g o n : Nat} {l : List Nd} (C : Ctx w g o n l)
include C
theorem Oo (cap : Nat) (h0 : 0 < n) (h1 : (nd l 0).kind = 1) (R : ByteArray) (hR : Hid (bs (TxF l 0 0).2 = R)) : A0 12 #[Cp g o n cap] R w := by
 have few := C.few
 have hM0 := C.may 0 h0
 have HK0 := zz (C.kids h0 cap)
 have hsum := C.sum h0 (m := 0) (by omega)
 have hK0 := fun x (hx : x ∈ Ai (sz l) 0) => C.kid h0 hx
 have hkl := Fz (C.right.ok 0 h0)
 obtain ⟨ps, hps⟩ : ∃ ps, Ai (sz l) 0 = ps := ⟨_, rfl⟩
 have hE0 : (TxF l 0 0).2 = Gi (ps.map fun q => TxF l q 0) := by
  have T := C.at_ h0 0
  rw [show (TxF l 0 0) = Go.Proofs.YtoaplbljflhheaaGreat.txt (Ey l) 0 0 from rfl, T, hps]
  obtain ⟨kd, ln, cl, s, num, tx, hN⟩ : ∃ kd ln cl s num tx, nd l 0 = ⟨kd, ln, cl, s, num, tx⟩ := ⟨_, _, _, _, _, _, rfl⟩
  rw [hN] at h1 ⊢
  have h1 : kd = 1 := h1
  subst h1
  rfl
 have hk24 : ∀ q ∈ ps, Ag l q = 2 ∨ Ag l q = 4 := fun q hq => by
  have hA := hM0.2.2
  rw [h1] at hA
  have hA : ((Ai (sz l) 0).map (Ag l)).all [2, 4].contains = true := hA
  have := List.all_eq_true.1 hA (Ag l q) (List.mem_map_of_mem (by rw [hps]; exact hq))
  simpa using this
 rw [hps] at HK0 hsum hK0 hkl
 obtain ⟨ks, hks⟩ : ∃ ks, (ps.map fun q => TxF l q 0) = ks := ⟨_, rfl⟩
 rw [hks] at hE0 hsum
 have hkm : ks.length = ps.length := by rw [← hks, List.length_map]
 replace hR := zz (show bs (Gi ks) = R by rw [← hE0]; exact hR.out)
 obtain ⟨m, hm⟩ : ∃ m, ps.length = m := ⟨_, rfl⟩
 rw [hm] at hkm
 have hm4 : m ≤ 4000 := by omega
 clear hM0 hE0 hkl h1
 have HM := zz hm
 have HKM := zz hkm
 clear hm hkm
 go_enter Tryz.func12, Tryz.ntmps12
 go_wp2_with fail
 refine (HK0.out _ (Below.refl _ _)).mono ?_
 rintro e W ⟨v, rfl, ho, hb1⟩
 obtain ⟨a', cap', rfl, hcell⟩ := Aq ho
 have HI := zz (show Lk W a' ps from fun i hi => by
  obtain ⟨q, h1, -, h2⟩ := hcell i hi
  exact ⟨q, 0, h1, by rw [Nat.zero_add]; exact h2⟩)
 have hbW := zz hb1
 rw [HM.out]
 clear hb1 hcell ho HK0
 go_wp2_with fail
 go_loopw [3, 15] (fun s i wr => b4v W ks m s i wr) (fun _ i _ => m - (intOf i).toNat)
 case atStart => exact ⟨0, Nat.zero_le _, rfl, rfl, Below.refl _ _⟩
 case round =>
  obtain ⟨k, hkm, rfl, rfl, hB⟩ := hrel
  by_cases hlt : k < m
  ·have hlt' : k < ps.length := by rw [HM.out]; exact hlt
   obtain ⟨b', o', rfl, hc⟩ := (HI.out.carry hB) k hlt'
   have hqm := Na hlt'
   have hT : (kth ks k) = TxF l (ps.getD k 0) 0 := by rw [← hks, Hg hlt']
   have hfm := Vh ks k (by rw [HKM.out]; exact hlt)
   have hTl : (bs (Gi (ks.take k))).size ≤ 100000000 := by
    rw [An]
    have := Lo ks k
    have := HKM.out
    omega
   obtain ⟨q, hq⟩ : ∃ q, ps.getD k 0 = q := ⟨_, rfl⟩
   rw [hq] at hc hqm hT
   have hqn := (hK0 q hqm).2
   rw [hT] at hfm
   have hat := C.node hqn
   have HK := zz (C.kids hqn cap)
   have hkq := hk24 q hqm
   obtain ⟨T, hTT⟩ : ∃ T, bs (Gi (ks.take k)) = T := ⟨_, rfl⟩
   rw [hTT] at hTl
   have hbr := Ab hbW.out hB
   rw [hTT]
   have hBr := zz hbr
   have hB' := zz hB
   have hsub := C.sum hqn (m := 1) (by omega)
   have hsub0 := C.sum hqn (m := 0) (by omega)
   have hKq := fun x (hx : x ∈ Ai (sz l) q) => C.kid hqn hx
   have hrl := Fz (C.right.ok q hqn)
   have htx := C.txs hqn
   have hMq := C.may q hqn
   have N4 := C.nodeS4 hqn
   have Tq := C.at_ hqn 0
   have hatr := hat.carry hbr
   unfold Qb at hMq
   unfold Ag at hkq
   obtain ⟨kd, ln, cl, s, num, tx, hN⟩ : ∃ kd ln cl s num tx, nd l q = ⟨kd, ln, cl, s, num, tx⟩ := ⟨_, _, _, _, _, _, rfl⟩
   rw [hN] at hatr hMq hkq htx N4 Tq
   simp only at hMq hkq htx N4
   obtain ⟨c0, c1, c2, c3, c4, c5⟩ := hatr
   simp only at c0 c1 c2 c3 c4 c5
   have HcA := zz (fun O => Ah hc O)
   have HAA := zz (fun O => Ab hbr (Aa wr O))
   have HAB := zz (fun O => Ab hB (Aa wr O))
   clear hB hbr hat hN
   rcases hkq with rfl | rfl
   ·have hall : ((Ai (sz l) q).map (Ag l)).all [3].contains = true := hMq.2.2
    have hk3 : ∀ x ∈ Ai (sz l) q, (nd l x).kind = 3 := fun x hx => by
     have := List.all_eq_true.1 hall _ (List.mem_map_of_mem hx)
     simpa [Ag] using this
    have e0 : (TxF l q 0).2 = [114, 101, 99, 32] ++ tx.data.toList ++ [32] ++ lines 0 ((Ai (sz l) q).map fun x => TxF l x 1) := by
     rw [show (TxF l q 0) = Go.Proofs.YtoaplbljflhheaaGreat.txt (Ey l) q 0 from rfl, Tq]
     rfl
    obtain ⟨rs, hrs⟩ : ∃ rs, Ai (sz l) q = rs := ⟨_, rfl⟩
    rw [hrs] at HK hsub hKq hrl hk3 e0
    obtain ⟨ls, hls⟩ : ∃ ls, (rs.map fun x => TxF l x 1) = ls := ⟨_, rfl⟩
    rw [hls] at e0
    have hsub : Er (rs.map fun x => TxF l x 1) ≤ 99000000 := hsub
    rw [hls] at hsub
    obtain ⟨m1, hm1⟩ : ∃ m1, rs.length = m1 := ⟨_, rfl⟩
    have hlm : ls.length = m1 := by rw [← hls, List.length_map, hm1]
    have hm14 : m1 ≤ 4000 := by omega
    obtain ⟨A, hA⟩ : ∃ A, Gi (ks.take k) ++ [114, 101, 99, 32] ++ tx.data.toList ++ [32] = A := ⟨_, rfl⟩
    have hAl : A.length ≤ 100200000 := by
     rw [← hA]
     rw [← hTT, An] at hTl
     simp only [List.length_append, List.length_cons, List.length_nil]
     have : tx.data.toList.length = tx.size := Array.length_toList
     omega
    have HE0 : Hid (T ++ ({ data := #[114, 101, 99, 32] } ++ tx ++ { data := #[32, 123] }) = bs (A ++ Gx 0 (ls.take 0))) := zz (by
     rw [← hA, ← hTT, ← Ak (Gi _ ++ _ ++ _ ++ _), ← Ak, ← Ak, ← Ak, Ei]
     rw [show ({ data := #[32, 123] } : ByteArray) = bs [32] ++ bs [123] from rfl]
     simp only [ByteArray.append_assoc]
     rfl)
    have HE9 : Hid (bs (A ++ Gx 0 ls) ++ { data := #[10, 125, 10] } = bs (Gi (ks.take (k + 1)))) := zz (by
     rw [hfm, e0, ← hA, ← Kw, show ({ data := #[10, 125, 10] } : ByteArray) = bs [10, 125, 10] from rfl, Ak]
     simp [nl])
    have HMl := zz hm1
    have HLm := zz hlm
    have HLs := zz hls
    clear hall e0 hfm hTT hA hrs hls hm1 hlm Tq N4 hMq hsub0 hT hq
    have hcA := HcA.out (.cells #[.int .u8 2, .int .i64 ln, .int .i64 cl, .int .i64 s, .int .i64 num, .string tx] 37)
    have HBA := zz (HAA.out (.cells #[.int .u8 2, .int .i64 ln, .int .i64 cl, .int .i64 s, .int .i64 num, .string tx] 37))
    have HBB := zz (HAB.out (.cells #[.int .u8 2, .int .i64 ln, .int .i64 cl, .int .i64 s, .int .i64 num, .string tx] 37))
    clear HcA HAA HAB
    go_wp2_with fail
    refine (HK.out _ HBA.out).mono ?_
    rintro e W1 ⟨v1, rfl, ho, hb1⟩
    obtain ⟨a1, cap1, rfl, hcell⟩ := Aq ho
    obtain ⟨g0, g1, g2, g3, g4, g5⟩ := Dg hb1
    have HI1 := zz (show Lk W1 a1 rs from fun i hi => by
     obtain ⟨x, h1, -, h2⟩ := hcell i hi
     exact ⟨x, 0, h1, by rw [Nat.zero_add]; exact h2⟩)
    have hbW1 := zz (Ab HBA.out hb1)
    have hbV1 := zz (Ab HBB.out hb1)
    rw [HMl.out]
    clear hb1 hcell ho HK c0 c1 c2 c3 c4 c5 hc hcA
    go_wp2_with fail
    clear g0 g1 g2 g3 g4 g5
    go_loopw [3, 42] (fun s i wr => b4y W1 A ls m1 s i wr) (fun _ i _ => m1 - (intOf i).toNat)
    case atStart => exact ⟨0, Nat.zero_le _, by rw [HE0.out], rfl, Below.refl _ _⟩
    case round =>
     obtain ⟨j, hjm, rfl, rfl, hB1⟩ := hrel
     have hSl : (bs (A ++ Gx 0 (ls.take j))).size ≤ 300000000 := by
      rw [An, List.length_append]
      have h3 := Pp 0 ls j
      have := HLm.out
      omega
     obtain ⟨S, hS⟩ : ∃ S, bs (A ++ Gx 0 (ls.take j)) = S := ⟨_, rfl⟩
     rw [hS] at hSl ⊢
     by_cases hjl : j < m1
     ·have hjl' : j < rs.length := by rw [HMl.out]; exact hjl
      obtain ⟨b2, o2, rfl, hc2⟩ := (HI1.out.carry hB1) j hjl'
      have hxm := Na hjl'
      have hTx : kth ls j = TxF l (rs.getD j 0) 1 := by rw [← HLs.out, Hg hjl']
      obtain ⟨x, hx⟩ : ∃ x, rs.getD j 0 = x := ⟨_, rfl⟩
      rw [hx] at hc2 hxm hTx
      have hxn := (hKq x hxm).2
      obtain ⟨y1, y2, y3, y4⟩ := C.named cap hxn 3 (hk3 x hxm) (.inl rfl) (m := 1) (by omega)
      have hft := (C.node hxn).c5
      have hftl := C.txs hxn
      have hbr1 := zz (Ab hbW1.out hB1)
      replace hft := Ad hbr1.out hft
      obtain ⟨ftx, hftx⟩ : ∃ ftx, (nd l x).text = ftx := ⟨_, rfl⟩
      rw [hftx] at hft hftl y4
      have HC := zz (y2 1 (by omega))
      rw [show ((x + 1 : Nat) : Int) = (x : Int) + 1 by omega] at HC
      obtain ⟨K, hK⟩ : ∃ K, bs (TxF l (x + 1) 1).2 = K := ⟨_, rfl⟩
      have sK : K.size ≤ 99000000 := by rw [← hK, An]; exact y3
      rw [hK] at HC
      obtain ⟨U1, u1⟩ : ∃ U, ({ data := #[10, 9] } : ByteArray) ++ ftx = U := ⟨_, rfl⟩
      obtain ⟨U2, u2⟩ : ∃ U, U1 ++ { data := #[58, 32] } = U := ⟨_, rfl⟩
      obtain ⟨U3, u3⟩ : ∃ U, U2 ++ K = U := ⟨_, rfl⟩
      obtain ⟨U4, u4⟩ : ∃ U, U3 ++ { data := #[59] } = U := ⟨_, rfl⟩
      obtain ⟨U5, u5⟩ : ∃ U, S ++ U4 = U := ⟨_, rfl⟩
      have s1 : U1.size ≤ 100002 := by rw [← u1, ByteArray.size_append]; show 2 + ftx.size ≤ _; omega
      have s2 : U2.size ≤ 100004 := by rw [← u2, ByteArray.size_append]; show U1.size + 2 ≤ _; omega
      have s3 : U3.size ≤ 99200000 := by rw [← u3, ByteArray.size_append]; omega
      have s4 : U4.size ≤ 99200001 := by rw [← u4, ByteArray.size_append]; show U3.size + 1 ≤ _; omega
      have r1 := Aj u1 (by show 2 + ftx.size ≤ _; omega)
      have r2 := Aj u2 (by show U1.size + 2 ≤ _; omega)
      have r3 := Aj u3 (by omega)
      have r4 := Aj u4 (by show U3.size + 1 ≤ _; omega)
      have r5 := Aj u5 (by omega)
      have HE : Hid (U5 = bs (A ++ Gx 0 (ls.take (j + 1)))) := zz (by
       rw [Mk 0 ls j (by rw [HLm.out]; exact hjl), hTx, y4, ← u5, ← u4, ← u3, ← u2, ← u1, ← hS, ← hK, ← Ei ftx, show ({ data := #[10, 9] } : ByteArray) = bs [10, 9] from rfl, show ({ data := #[58, 32] } : ByteArray) = bs [58, 32] from rfl, show ({ data := #[59] } : ByteArray) = bs [59] from rfl, Ak, Ak, Ak, Ak, Ak, Bk]
       congr 1
       simp [nl])
      have e5 : IntKind.i64.wrap ((x : Int) + 1) = (x : Int) + 1 := by rw [IntKind.wrap_i64]; omega
      have k0 := fun D os => cell_regrown hc2 D os
      have k1 := fun D os => cell_regrown hft D os
      have d0 := Al HC.out hbr1.out
      have hB1' := zz hB1
      clear hB1 u1 u2 u3 u4 u5 s1 s2 s3 s4 hTx hx y2 y3 y4 hftx hK hS hxm
      go_wp2_with fail
      refine wp_region_quiet_below (by kernel_rfl) (by kernel_rfl) ?_
      repeat (quiet_step (with_reducible exact d0 _ _))
      refine wpQuiet_nil ?_
      rintro _ ⟨⟨dq, osq⟩, rfl⟩
      have hb := zz (Ab hB1'.out (below_regrown wr dq osq))
      clear k0 k1 d0 e5
      generalize grow (redrawn wr dq) osq = w' at *
      go_wp2_with fail
      go_roundw
      case rel => exact ⟨j + 1, hjl, by rw [HE.out], by go_num, hb.out⟩
      case measure => simp [intOf]; omega
     ·obtain rfl : j = m1 := by omega
      have HS : Hid (S ++ { data := #[10, 125, 10] } = bs (Gi (ks.take (k + 1)))) := zz (by rw [← hS, List.take_of_length_le (by rw [HLm.out]; omega)]; exact HE9.out)
      have hb := zz (Ab hbV1.out hB1)
      clear hS hB1
      go_wp2_with fail
      go_roundw
      case rel => exact ⟨k + 1, hlt, by rw [HS.out], by go_num, hb.out⟩
      case measure => simp [intOf]; omega
   ·obtain ⟨rs, r, b, hrs, -, hr5, hrr, hb6, e0⟩ := N4 rfl 0
    have hr := hKq r (by rw [hrs]; simp)
    have hbk := hKq b (by rw [hrs]; simp)
    have hrk : 14 ≤ (nd l r).kind ∧ (nd l r).kind ≤ 20 := by
     unfold D3 Ag at hrr
     simp at hrr
     omega
    have HKr := zz (fun (h : (nd l r).kind ≠ 14) => Ia C cap n r (by omega) hr.2 (by omega) hrk.2 0 (by omega))
    have HBk := zz (((Xz C cap n b (by omega) hbk.2).2 hb6) 0 (by omega))
    have hsub0 : Er ((Ai (sz l) q).map fun x => TxF l x 0) ≤ 99000000 := hsub0
    have sKr := Nat.le_trans (Sa _ (fun x => TxF l x 0) (show r ∈ Ai (sz l) q by rw [hrs]; simp)) hsub0
    have sBk := Nat.le_trans (Sa _ (fun x => TxF l x 0) (show b ∈ Ai (sz l) q by rw [hrs]; simp)) hsub0
    have hcr := (C.node hr.2).c0
    have hrl2 : (Ai (sz l) q).length = rs.length + 2 := by rw [hrs]; simp
    rw [hrs] at HK
    obtain ⟨ls, hls⟩ : ∃ ls, (rs.map fun x => TxF l x 0) = ls := ⟨_, rfl⟩
    have hsl : Er ls ≤ 99000000 := by
     have : Er ((Ai (sz l) q).map fun x => TxF l x 0) = Er ls + Er ([r, b].map fun x => TxF l x 0) := by
      rw [hrs, List.map_append, ← hls]; simp [Er]
     omega
    have hr5' : ∀ x ∈ rs, x < n ∧ (nd l x).kind = 5 := fun x hx => ⟨(hKq x (by rw [hrs]; simp [hx])).2, hr5 x hx⟩
    rw [hls] at e0
    obtain ⟨m1, hm1⟩ : ∃ m1, rs.length = m1 := ⟨_, rfl⟩
    rw [hm1] at hrl2
    have hlm : ls.length = m1 := by rw [← hls, List.length_map, hm1]
    have hm14 : m1 ≤ 4000 := by omega
    obtain ⟨A, hA⟩ : ∃ A, Gi (ks.take k) ++ [102, 110, 32] ++ tx.data.toList ++ [40] = A := ⟨_, rfl⟩
    have hAl : A.length ≤ 100200000 := by
     rw [← hA]
     rw [← hTT, An] at hTl
     simp only [List.length_append, List.length_cons, List.length_nil]
     have : tx.data.toList.length = tx.size := Array.length_toList
     omega
    have HE0 : Hid (T ++ ({ data := #[102, 110, 32] } ++ tx ++ { data := #[40] }) = bs (A ++ Ba (ls.take 0))) := zz (by
     rw [← hA, ← hTT, List.take_zero, Ba, List.append_nil, ← Ak, ← Ak, ← Ak, Ei]
     simp only [ByteArray.append_assoc]
     rfl)
    have HF : Hid (bs (Gi (ks.take (k + 1))) = bs (A ++ Ba ls ++ [41] ++ (if Ag l r = 14 then [] else [58, 32] ++ (TxF l r 0).2) ++ [32] ++ (TxF l b 0).2 ++ [10])) := zz (by
     rw [hfm, e0, ← hA]
     congr 1
     simp only [List.append_assoc])
    obtain ⟨kr, hkr⟩ : ∃ kr, (nd l r).kind = kr := ⟨_, rfl⟩
    have hkr2 : Ag l r = kr := hkr
    rw [hkr] at hrk hcr HKr
    rw [hkr2] at HF
    obtain ⟨BB, hBB⟩ : ∃ BB, bs (TxF l b 0).2 = BB := ⟨_, rfl⟩
    obtain ⟨KR, hKR⟩ : ∃ KR, bs (TxF l r 0).2 = KR := ⟨_, rfl⟩
    have sBB : BB.size ≤ 99000000 := by rw [← hBB, An]; exact sBk
    have sKR : KR.size ≤ 99000000 := by rw [← hKR, An]; exact sKr
    rw [hBB] at HBk
    rw [hKR] at HKr
    have HMl := zz hm1
    have HLm := zz hlm
    have HLs := zz hls
    have HBR := zz hBB
    have HKRr := zz hKR
    have HCR := zz (show ∀ w2, Below w.heap.size w w2 → w2.cell? ⟨g, o + r * 6, none⟩ = some (.int .u8 (kr : Nat)) from fun w2 h => Ad h hcr)
    have hrn := hr.2
    clear e0 hfm hTT hA hrs hls hm1 hlm Tq N4 hMq hsub0 hsub hT hq hkr hkr2 hBB hKR hcr hr hbk hrr hb6 sKr sBk hr5 hKq hrl
    have hcA := HcA.out (.cells #[.int .u8 4, .int .i64 ln, .int .i64 cl, .int .i64 s, .int .i64 num, .string tx] 37)
    have HBA := zz (HAA.out (.cells #[.int .u8 4, .int .i64 ln, .int .i64 cl, .int .i64 s, .int .i64 num, .string tx] 37))
    have HBB := zz (HAB.out (.cells #[.int .u8 4, .int .i64 ln, .int .i64 cl, .int .i64 s, .int .i64 num, .string tx] 37))
    clear HcA HAA HAB
    go_wp2_with fail
    refine (HK.out _ HBA.out).mono ?_
    rintro e W1 ⟨v1, rfl, ho, hb1⟩
    obtain ⟨a1, cap1, rfl, hcell⟩ := Aq ho
    obtain ⟨g0, g1, g2, g3, g4, g5⟩ := Dg hb1
    have HI1 := zz (show Lk W1 a1 (rs ++ [r, b]) from fun i hi => by
     obtain ⟨x, h1, -, h2⟩ := hcell i hi
     exact ⟨x, 0, h1, by rw [Nat.zero_add]; exact h2⟩)
    have hbW1 := zz (Ab HBA.out hb1)
    have hbV1 := zz (Ab HBB.out hb1)
    obtain ⟨m2, hm2⟩ : ∃ m2, m1 + 2 = m2 := ⟨_, rfl⟩
    rw [show (rs ++ [r, b]).length = m2 by rw [List.length_append, HMl.out, ← hm2]; rfl]
    have e9 : (m2 : Int) - 2 = m1 := by omega
    have hm25 : m2 ≤ 4002 := by omega
    have HM2 := zz hm2
    clear hm2
    clear hb1 hcell ho HK c0 c1 c2 c3 c4 c5 hc hcA hrl2
    go_wp2_with fail
    clear g0 g1 g2 g3 g4 g5 e9
    go_loopw [3, 10] (fun s i wr => b4u W1 A ls m1 s i wr) (fun _ i _ => m1 - (intOf i).toNat)
    case atStart => exact ⟨0, Nat.zero_le _, by rw [HE0.out], rfl, Below.refl _ _⟩
    case round =>
     obtain ⟨j, hjm, rfl, rfl, hB1⟩ := hrel
     have hSl : (bs (A ++ Ba (ls.take j))).size ≤ 300000000 := by
      rw [An, List.length_append]
      have h3 := D6 (ls.take j)
      have h4 := H5 ls j
      have h5 : (ls.take j).length ≤ ls.length := by rw [List.length_take]; omega
      have := HLm.out
      omega
     obtain ⟨S, hS⟩ : ∃ S, bs (A ++ Ba (ls.take j)) = S := ⟨_, rfl⟩
     rw [hS] at hSl ⊢
     by_cases hjl : j < m1
     ·have hj2 : j < m2 := by have := HM2.out; omega
      have hjl' : j < (rs ++ [r, b]).length := by rw [List.length_append, HMl.out]; omega
      have hjr : j < rs.length := by rw [HMl.out]; exact hjl
      obtain ⟨b2, o2, rfl, hc2⟩ := (HI1.out.carry hB1) j hjl'
      have hgd : (rs ++ [r, b]).getD j 0 = rs.getD j 0 := by rw [List.getD_eq_getElem?_getD, List.getElem?_append_left hjr, ← List.getD_eq_getElem?_getD]
      rw [hgd] at hc2
      have hxm := Na hjr
      have hTx : kth ls j = TxF l (rs.getD j 0) 0 := by rw [← HLs.out, Hg hjr]
      obtain ⟨x, hx⟩ : ∃ x, rs.getD j 0 = x := ⟨_, rfl⟩
      rw [hx] at hc2 hxm hTx
      obtain ⟨hxn, hxk⟩ := hr5' x hxm
      obtain ⟨y1, y2, y3, y4⟩ := C.named cap hxn 5 hxk (.inr rfl) (m := 0) (by omega)
      have hft := (C.node hxn).c5
      have hftl := C.txs hxn
      have hbr1 := zz (Ab hbW1.out hB1)
      replace hft := Ad hbr1.out hft
      obtain ⟨ftx, hftx⟩ : ∃ ftx, (nd l x).text = ftx := ⟨_, rfl⟩
      rw [hftx] at hft hftl y4
      have HC := zz (y2 0 (by omega))
      rw [show ((x + 1 : Nat) : Int) = (x : Int) + 1 by omega] at HC
      obtain ⟨K, hK⟩ : ∃ K, bs (TxF l (x + 1) 0).2 = K := ⟨_, rfl⟩
      have sK : K.size ≤ 99000000 := by rw [← hK, An]; exact y3
      rw [hK] at HC
      have hcm := K8 ls j (by rw [HLm.out]; exact hjl)
      rw [if_neg (show ¬ (5 : Nat) = 3 by decide), List.append_nil] at y4
      rw [hTx, y4] at hcm
      obtain ⟨S0, hS0⟩ : ∃ S0, (if j = 0 then S else S ++ { data := #[44, 32] }) = S0 := ⟨_, rfl⟩
      have sS0 : S0.size ≤ 300000002 := by
       rw [← hS0]
       split
       ·omega
       ·rw [ByteArray.size_append]; show S.size + 2 ≤ _; omega
      obtain ⟨U2, u2⟩ : ∃ U, ftx ++ { data := #[58, 32] } = U := ⟨_, rfl⟩
      obtain ⟨U3, u3⟩ : ∃ U, U2 ++ K = U := ⟨_, rfl⟩
      obtain ⟨U5, u5⟩ : ∃ U, S0 ++ U3 = U := ⟨_, rfl⟩
      have s2 : U2.size ≤ 100004 := by rw [← u2, ByteArray.size_append]; show ftx.size + 2 ≤ _; omega
      have s3 : U3.size ≤ 99200000 := by rw [← u3, ByteArray.size_append]; omega
      have r2 := Aj u2 (by show ftx.size + 2 ≤ _; omega)
      have r3 := Aj u3 (by omega)
      have r5 := Aj u5 (by omega)
      have HE : Hid (U5 = bs (A ++ Ba (ls.take (j + 1)))) := zz (by
       rw [hcm, ← u5, ← u3, ← u2, ← hS0, ← hK, ← Ei ftx, show ({ data := #[58, 32] } : ByteArray) = bs [58, 32] from rfl, Ak, Ak, Bk]
       by_cases h0 : j = 0
       ·subst h0
        rw [if_pos rfl, if_pos rfl, ← hS, List.take_zero, Ba, Ak]
        simp
       ·rw [if_neg h0, if_neg h0, ← hS, show ({ data := #[44, 32] } : ByteArray) = bs [44, 32] from rfl, Ak, Ak]
        congr 1
        simp)
      have e5 : IntKind.i64.wrap ((x : Int) + 1) = (x : Int) + 1 := by rw [IntKind.wrap_i64]; omega
      have k0 := fun D os => cell_regrown hc2 D os
      have k1 := fun D os => cell_regrown hft D os
      have d0 := Al HC.out hbr1.out
      have hB1' := zz hB1
      clear hB1 u2 u3 u5 s2 s3 hTx hx y2 y3 y4 hftx hK hS hxm hcm hgd
      by_cases hj0 : j = 0
      ·subst hj0
       rw [if_pos rfl] at hS0
       subst hS0
       rw [Nat.add_zero] at hc2
       simp only [Nat.add_zero] at k0
       go_wp2_with fail
       refine wp_region_quiet_below (by kernel_rfl) (by kernel_rfl) ?_
       repeat (quiet_step (with_reducible exact d0 _ _))
       refine wpQuiet_nil ?_
       rintro _ ⟨⟨dq, osq⟩, rfl⟩
       have hb := zz (Ab hB1'.out (below_regrown wr dq osq))
       clear k0 k1 d0 e5
       generalize grow (redrawn wr dq) osq = w' at *
       go_wp2_with fail
       go_roundw
       case rel => exact ⟨0 + 1, hjl, by rw [HE.out], by go_num, hb.out⟩
       case measure => simp [intOf]; omega
      ·have hj1 : (0 : Int) < j := by omega
       rw [if_neg hj0] at hS0
       subst hS0
       clear hj0
       go_wp2_with fail
       refine wp_region_quiet_below (by kernel_rfl) (by kernel_rfl) ?_
       repeat (quiet_step (with_reducible exact d0 _ _))
       refine wpQuiet_nil ?_
       rintro _ ⟨⟨dq, osq⟩, rfl⟩
       have hb := zz (Ab hB1'.out (below_regrown wr dq osq))
       clear k0 k1 d0 e5
       generalize grow (redrawn wr dq) osq = w' at *
       go_wp2_with fail
       go_roundw
       case rel => exact ⟨j + 1, hjl, by rw [HE.out], by go_num, hb.out⟩
       case measure => simp [intOf]; omega
     ·obtain rfl : j = m1 := by omega
      obtain ⟨b2, o2, rfl, hc2⟩ := (HI1.out.carry hB1) j (by rw [List.length_append, HMl.out]; simp)
      obtain ⟨b3, o3, e3, hc3⟩ := (HI1.out.carry hB1) (j + 1) (by rw [List.length_append, HMl.out]; simp)
      cases e3
      rw [show (rs ++ [r, b]).getD j 0 = r by rw [List.getD_eq_getElem?_getD, ← HMl.out]; simp] at hc2
      rw [show (rs ++ [r, b]).getD (j + 1) 0 = b by rw [List.getD_eq_getElem?_getD, ← HMl.out]; simp] at hc3
      have hbr1 := zz (Ab hbW1.out hB1)
      have hcr := HCR.out _ hbr1.out
      have hb := zz (Ab hbV1.out hB1)
      have hj2 : j < m2 := by have := HM2.out; omega
      have hj3 : j + 1 < m2 := by have := HM2.out; omega
      by_cases h14 : kr = 14
      ·subst h14
       have HS : Hid (S ++ { data := #[41] } ++ ({ data := #[32] } ++ BB ++ { data := #[10] }) = bs (Gi (ks.take (k + 1)))) := zz (by
        rw [HF.out, if_pos rfl, ← hS, ← HBR.out, List.take_of_length_le (by rw [HLm.out]; omega), show ({ data := #[41] } : ByteArray) = bs [41] from rfl, show ({ data := #[32] } : ByteArray) = bs [32] from rfl, show ({ data := #[10] } : ByteArray) = bs [10] from rfl, Ak, Ak, Ak, Ak]
        congr 1
        simp)
       clear hS hB1 HKr
       go_wp2_with fail
       refine (HBk.out _ hbr1.out).mono ?_
       rintro e w4 ⟨rfl, hb4⟩
       replace hb := zz (Ab hb.out hb4)
       clear hc2 hc3 hcr
       go_wp2_with fail
       go_roundw
       case rel => exact ⟨k + 1, hlt, by rw [HS.out], by go_num, hb.out⟩
       case measure => simp [intOf]; omega
      ·have h14' : ((kr : Int) != 14) = true := by rw [bne_iff_ne]; omega
       have HS : Hid (S ++ { data := #[41] } ++ ({ data := #[58, 32] } ++ KR) ++ ({ data := #[32] } ++ BB ++ { data := #[10] }) = bs (Gi (ks.take (k + 1)))) := zz (by
        rw [HF.out, if_neg h14, ← hS, ← HBR.out, ← HKRr.out, List.take_of_length_le (by rw [HLm.out]; omega), show ({ data := #[41] } : ByteArray) = bs [41] from rfl, show ({ data := #[32] } : ByteArray) = bs [32] from rfl, show ({ data := #[10] } : ByteArray) = bs [10] from rfl, show ({ data := #[58, 32] } : ByteArray) = bs [58, 32] from rfl, Ak, Ak, Ak, Ak, Ak, Ak]
        congr 1
        simp)
       have HKr2 := zz (HKr.out h14)
       clear hS hB1 HKr h14
       go_wp2_with fail
       refine (HKr2.out _ hbr1.out).mono ?_
       rintro e w4 ⟨rfl, hb4⟩
       replace hc3 := Ad hb4 hc3
       replace hb := zz (Ab hb.out hb4)
       replace hbr1 := zz (Ab hbr1.out hb4)
       clear hc2 hcr
       go_wp2_with fail
       refine (HBk.out _ hbr1.out).mono ?_
       rintro e w5 ⟨rfl, hb5⟩
       replace hb := zz (Ab hb.out hb5)
       clear hc3
       go_wp2_with fail
       go_roundw
       case rel => exact ⟨k + 1, hlt, by rw [HS.out], by go_num, hb.out⟩
       case measure => simp [intOf]; omega
  ·obtain rfl : k = m := by omega
   have hE := hR.out
   rw [List.take_of_length_le (by rw [HKM.out]; omega), hE]
   have hbr := zz (Ab hbW.out hB)
   clear hB hE hR
   go_wp2_with fail
   go_ret
   exact ⟨rfl, hbr.out⟩
end
end Go.Proofs.YtoaplbljflhheaaGreat
namespace Go.Proofs.YtoaplbljflhheaaGreat
open Go.RowKit Go.Sort
theorem a2v {l : List Nd} (h : ¬ ∃ k, k ≤ l.length ∧ 4000 < Ck l k) : (l.map fun x => x.text.size).sum ≤ 100000 := by
 have hall : Ck l l.length ≤ 4000 := Nat.le_of_not_lt fun hh => h ⟨_, Nat.le_refl _, hh⟩
 have ht := (Mh h).2
 have : ∀ k, k ≤ l.length → ((l.take k).map fun x => x.text.size).sum ≤ Ck l k := by
  intro k
  induction k with
  | zero => intro _; simp [Ck]
  | succ k ih =>
   intro hk
   have h1 := ih (by omega)
   have h2 := ht k (by omega)
   have e : l.take (k + 1) = l.take k ++ [nd l k] := by
    rw [List.take_add_one, nd, List.getD_eq_getElem?_getD, List.getElem?_eq_getElem (by omega)]; rfl
   rw [e, List.map_append, List.sum_append, Ck]
   simp only [List.map_cons, List.map_nil, List.sum_cons, List.sum_nil]
   omega
 have := this l.length (Nat.le_refl _)
 rw [List.take_length] at this
 omega
theorem a1v {w : World} {a : Option Addr} {l : List Nd} (h : Row w a l) (hl : 0 < l.length) : a0r w a := fun g o e => by
 obtain ⟨g', o', h1, h2, -⟩ := h 0 hl
 rw [e] at h1
 cases h1
 exact block_lt_of_cell h2.c0
theorem b2s {w : World} {g o n : Nat} {l : List Nd} (hn : l.length = n) (h4 : n ≤ 4000) (hr : Li w g o l) (hR : Right (sz l) n) (h0 : 1 ≤ (nd l 0).kind ∧ (nd l 0).kind ≤ 32) (A : ∀ p, p < l.length → Qb l p) (hb : (l.map fun x => x.text.size).sum ≤ 100000) : Ctx w g o n l :=
 ⟨hn, h4, hr, hR, fun p hp => A p (by rw [hn]; exact hp), h0, hb⟩
end Go.Proofs.YtoaplbljflhheaaGreat
namespace Go.Proofs.YtoaplbljflhheaaGreat
open Go.RowKit Go.Sort
theorem Qg (a : Option Addr) (n cap : Nat) (l : List Nd) (w : World) (hn : l.length = n) (hl : n ≤ 9223372036854775807) (hr : Row w a l) (hm : ∃ k, k ≤ n ∧ 4000 < Ck l k) : Calls Tryz.prog 3 #[.slice a n cap] w fun e w' => e = .returned (.bool true) ∧ Below w.heap.size w w' := by
 have HM := zz (Su a n cap l w (zz hn) hl (zz hr) true (zz (by simpa using hm)))
 have HA := zz Lc
 clear hn hr hm
 go_enter Tryz.func3, Tryz.ntmps3
 go_wp2_with fail
 refine HM.out.mono ?_
 rintro e w1 ⟨rfl, rfl⟩
 go_wp2_with fail
 refine (HA.out _).mono ?_
 rintro e w2 ⟨rfl, hb2⟩
 replace hb2 := zz hb2
 go_wp2_with fail
 go_ret
 exact ⟨rfl, hb2.out⟩
theorem Wc (a : Option Addr) (n cap : Nat) (l : List Nd) (w : World) (hl : n ≤ 4000)
  (HM : Hid (Calls Tryz.prog 8 #[.slice a n cap] w fun e w' => e = .returned (.bool false) ∧ w = w'))
  (HP : Hid (Calls Tryz.prog 10 #[.slice a n cap] w fun e w' => e = .returned (.tuple #[.string (bs []), .int .i64 1]) ∧ Below w.heap.size w w'))
  (HR : Hid (Gg w fun w' => Calls Tryz.prog 11 #[.slice a n cap] w' fun e w2 => e = .returned (.bool false) ∧ Below w'.heap.size w' w2)) : Calls Tryz.prog 3 #[.slice a n cap] w fun e w' => e = .returned (.bool true) ∧ Below w.heap.size w w' := by
 have HA := zz Lc
 simp only [bs] at HP
 go_enter Tryz.func3, Tryz.ntmps3
 go_wp2_with fail
 refine HM.out.mono ?_
 rintro e w1 ⟨rfl, rfl⟩
 go_wp2_with fail
 refine HP.out.mono ?_
 rintro e w2 ⟨rfl, hb2⟩
 replace hb2 := zz hb2
 go_wp2_with fail
 refine (HR.out _ hb2.out).mono ?_
 rintro e w3 ⟨rfl, hb3⟩
 replace hb3 := zz (Ab hb2.out hb3)
 go_wp2_with fail
 refine (HA.out _).mono ?_
 rintro e w4 ⟨rfl, hb4⟩
 replace hb4 := zz (Ab hb3.out hb4)
 go_wp2_with fail
 go_ret
 exact ⟨rfl, hb4.out⟩
theorem Tf (a : Option Addr) (n cap : Nat) (l : List Nd) (w : World) (hl : n ≤ 4000) (S : ByteArray)
  (HM : Hid (Calls Tryz.prog 8 #[.slice a n cap] w fun e w' => e = .returned (.bool false) ∧ w = w'))
  (HP : Hid (Calls Tryz.prog 10 #[.slice a n cap] w fun e w' => e = .returned (.tuple #[.string S, .int .i64 0]) ∧ Below w.heap.size w w'))
  (HR : Hid (Gg w fun w' => Calls Tryz.prog 11 #[.slice a n cap] w' fun e w2 => e = .returned (.bool true) ∧ Below w'.heap.size w' w2))
  (HD : Hid (Gg w (A0 12 #[.slice a n cap] S))) : Calls Tryz.prog 3 #[.slice a n cap] w fun e w' => e = .returned (.bool true) ∧ Below w.heap.size w w' := by
 have HA := zz Lc
 go_enter Tryz.func3, Tryz.ntmps3
 go_wp2_with fail
 refine HM.out.mono ?_
 rintro e w1 ⟨rfl, rfl⟩
 go_wp2_with fail
 refine HP.out.mono ?_
 rintro e w2 ⟨rfl, hb2⟩
 replace hb2 := zz hb2
 go_wp2_with fail
 refine (HR.out _ hb2.out).mono ?_
 rintro e w3 ⟨rfl, hb3⟩
 replace hb3 := zz (Ab hb2.out hb3)
 go_wp2_with fail
 refine (HD.out _ hb3.out).mono ?_
 rintro e w4 ⟨rfl, hb4⟩
 replace hb4 := zz (Ab hb3.out hb4)
 go_wp2_with fail
 refine (HA.out _).mono ?_
 rintro e w5 ⟨rfl, hb5⟩
 replace hb5 := zz (Ab hb4.out hb5)
 go_wp2_with fail
 go_ret
 exact ⟨rfl, hb5.out⟩
theorem Iy (a : Option Addr) (n cap : Nat) (l : List Nd) (w : World) (hn : l.length = n) (hl : n ≤ maxLen) (hr : Row w a l) (hz : a = none → n = 0 ∧ cap = 0) : Calls Tryz.prog 3 #[.slice a n cap] w fun e w' => e = .returned (.bool true) ∧ Below w.heap.size w w' := by
 unfold maxLen at hl
 by_cases hm : ∃ k, k ≤ n ∧ 4000 < Ck l k
 ·exact Qg a n cap l w hn (by omega) hr hm
 ·have HM := Su a n cap l w (zz hn) (by omega) (zz hr) false (zz (by simpa using hm))
  rw [← hn] at hm
  have h4 := Mh hm
  have hs := a2v hm
  have hn4 : n ≤ 4000 := by omega
  have ht : ∀ i, i < n → (nd l i).text.size ≤ 100000 := fun i hi => by have := h4.2 i (by omega); omega
  have HR := fun (p : Bool) (hp : N1 l = p) w2 (h2 : Below w.heap.size w w2) => a10 a n cap l w2 hn (by omega) (hr.carry h2) ht p hp
  cases hmb : N1 l with
  | false => exact Wc a n cap l w hn4 (zz HM) (zz (L7 hn (by omega) hr hmb)) (zz fun w2 h2 => HR false hmb w2 h2)
  | true =>
   obtain ⟨hR, h1, A⟩ := Rn hmb
   have hp := hR.pos
   have hlow := a1v hr hp
   obtain ⟨g, o, rfl, hb⟩ := hr.block (by intro h; rw [h] at hp; simp at hp)
   have HP := Q5 (w := w) (a := some ⟨g, o, none⟩) (cap := cap) hn hn4 hr hlow hs hmb
   rw [if_pos rfl] at HP
   refine Tf (some ⟨g, o, none⟩) n cap l w hn4 (bs (Ec l)) (zz HM) (zz HP) (zz fun w2 h2 => HR true hmb w2 h2) (zz fun w2 h2 => ?_)
   have C : Ctx w2 g o n l := b2s hn hn4 (hb.carry h2) (by rw [← hn]; exact hR) (by omega) A hs
   exact Oo C cap (by omega) h1 _ (zz rfl)
end Go.Proofs.YtoaplbljflhheaaGreat
