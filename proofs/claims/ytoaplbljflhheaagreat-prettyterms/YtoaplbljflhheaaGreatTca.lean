/-
 Contracts and plain facts on the way to PrettyTerms. Conditions: as each says.
-/
import Derived.Test.YtoaplbljflhheaaGreatTbz
import Derived.Test.YtoaplbljflhheaaGreatTby
import Derived.Test.YtoaplbljflhheaaGreatTbn
import Derived.Test.YtoaplbljflhheaaGreatTas
import Derived.Test.YtoaplbljflhheaaGreatTai
import Derived.Test.YtoaplbljflhheaaGreatTbx
import Derived.Test.YtoaplbljflhheaaGreatTap
import Derived.Test.YtoaplbljflhheaaGreatTbk
import Derived.Test.YtoaplbljflhheaaGreatTbm
set_option maxHeartbeats 40000000
set_option maxRecDepth 100000
set_option linter.unusedVariables false
set_option linter.unusedSimpArgs false
namespace Go.Proofs.YtoaplbljflhheaaGreat
def Bc : Fo → List Nat
 | .nil => []
 | .cons i _ r => i.kind :: Bc r
def De (i : Inf) (K : Fo) : Bool := D1 i.kind i.text && Cs i.kind i.num && Fk i.kind i.num (Bc K)
def Bd : Fo → Bool
 | .nil => true
 | .cons i K r => De i K && Bd K && Bd r
def Dw (i : Inf) : Inf := ⟨i.kind, 0, 0, i.num, i.text⟩
def Bk : Fo → Fo
 | .nil => .nil
 | .cons i k r => .cons (Dw i) (Bk k) (Bk r)
theorem a4c {F : Fo} (h : Bd F = true) : ∀ x ∈ Cx F, De x.1 x.2 = true := by
 induction F with
 | nil => intro x hx; cases hx
 | cons i k r ihk ihr =>
  rw [Bd, Bool.and_eq_true, Bool.and_eq_true] at h
  intro x hx
  simp only [Cx, List.mem_cons, List.mem_append] at hx
  rcases hx with rfl | hx | hx
  ·exact h.1.1
  ·exact ihk h.1.2 x hx
  ·exact ihr h.2 x hx
def b0r (l : List Nd) (p : Nat) (G : Fo) : Prop := ∀ j, j < G.cnt → l[p + j]? = G.pre[j]?
theorem Pj {l : List Nd} {p : Nat} {i : Inf} {k r : Fo} (h : b0r l p (.cons i k r)) : nd l p = i.nd k.cnt ∧ b0r l (p + 1) k ∧ b0r l (p + 1 + k.cnt) r := by
 refine ⟨?_, fun j hj => ?_, fun j hj => ?_⟩
 ·have := h 0 (by simp [Fo.cnt]; omega)
  rw [Nat.add_zero] at this
  unfold nd
  rw [List.getD_eq_getElem?_getD, this]
  rfl
 ·have := h (j + 1) (by simp [Fo.cnt]; omega)
  rw [show p + (j + 1) = p + 1 + j by omega] at this
  rw [this, Fo.pre, List.getElem?_cons_succ, List.getElem?_append_left (by rw [Cg]; exact hj)]
 ·have := h (k.cnt + j + 1) (by simp [Fo.cnt]; omega)
  rw [show p + (k.cnt + j + 1) = p + 1 + k.cnt + j by omega] at this
  rw [this, Fo.pre, List.getElem?_cons_succ, List.getElem?_append_right (by rw [Cg]; omega), Cg, Nat.add_sub_cancel_left]
theorem a03 {l : List Nd} : ∀ (G : Fo) (p : Nat), b0r l p G → Ch (sz l) (p + G.cnt) p = some (C5 G p) := by
 intro G
 induction G with
 | nil => intro p _; rw [Fo.cnt, Bj (by omega)]; rfl
 | cons i k r _ ihr =>
  intro p h
  obtain ⟨h1, h2, h3⟩ := Pj h
  have hs : sz l p = k.cnt := by unfold sz; rw [h1]; rfl
  rw [Fo.cnt, Bx (by omega) (by rw [hs]; omega), hs, Int.toNat_natCast, show p + (k.cnt + 1 + r.cnt) = p + 1 + k.cnt + r.cnt by omega, ihr _ h3]
  rfl
theorem b3m {l : List Nd} : ∀ (G : Fo) (f p : Nat), b0r l p G → G.cnt ≤ f → fo l f p (p + G.cnt) = Bk G := by
 intro G
 induction G with
 | nil => intro f p _ _; rw [Fo.cnt, Nat.add_zero, b3n]; rfl
 | cons i k r ihk ihr =>
  intro f p h hf
  rw [Fo.cnt] at hf
  obtain ⟨f, rfl⟩ : ∃ f', f = f' + 1 := ⟨f - 1, by omega⟩
  obtain ⟨h1, h2, h3⟩ := Pj h
  have hs : sz l p = k.cnt := by unfold sz; rw [h1]; rfl
  rw [Fo.cnt, fo, if_pos (by omega), hs, Int.toNat_natCast, ihk f (p + 1) h2 (by omega), show p + (k.cnt + 1 + r.cnt) = p + 1 + k.cnt + r.cnt by omega, ihr f _ h3 (by omega), h1, Bk]
  congr 1
theorem X1 (F : Fo) : b0r F.pre 0 F := fun j _ => by rw [Nat.zero_add]
theorem a2o {F G : Fo} {p : Nat} (h : Seg F p G) : b0r F.pre p G := fun j hj => by
 rw [I5, I5, List.getElem?_map, List.getElem?_map, h j hj]
theorem a2u (F : Fo) : Na F.pre = Bk F := by
 have := b3m F F.pre.length 0 (X1 F) (by rw [Cg]; omega)
 rw [Nat.zero_add] at this
 rw [Na, Cg]
 rw [Cg] at this
 exact this
theorem I6 {F : Fo} {p : Nat} (hp : p < F.cnt) : nd F.pre p = (Ag F p).1.nd (Ag F p).2.cnt := by
 unfold nd Ag
 rw [List.getD_eq_getElem?_getD, I5, List.getElem?_map, List.getD_eq_getElem?_getD, List.getElem?_eq_getElem (by rw [Ba]; exact hp)]
 rfl
theorem Pu {F : Fo} {p : Nat} (hp : p < F.cnt) : Ch (sz F.pre) (p + 1 + (sz F.pre p).toNat) (p + 1) = some (C5 (Ag F p).2 (p + 1)) := by
 have hs : sz F.pre p = (Ag F p).2.cnt := by unfold sz; rw [I6 hp]; rfl
 rw [hs, Int.toNat_natCast]
 exact a03 _ _ (a2o (Js hp))
theorem Yg (i : Inf) (K : Fo) : Right (sz (Fo.cons i K .nil).pre) (Fo.cons i K .nil).cnt := by
 refine ⟨by simp [Fo.cnt], ?_, fun j hj => ?_⟩
 ·unfold sz
  rw [I6 (by simp [Fo.cnt])]
  simp [Ag, Cx, Inf.nd, Fo.cnt]
 ·have hs : sz (Fo.cons i K .nil).pre j = (Ag (Fo.cons i K .nil) j).2.cnt := by unfold sz; rw [I6 hj]; rfl
  have := Ju hj
  exact ⟨by omega, by omega, by rw [Pu hj]; rfl⟩
theorem X0 {F G : Fo} : ∀ {p : Nat}, Seg F p G → (C5 G p).map (B7 F.pre) = Bc G := by
 induction G with
 | nil => intro p _; rfl
 | cons i k r _ ihr =>
  intro p h
  obtain ⟨h1, h2, h3⟩ := Ku h
  have hp : p < F.cnt := by
   have := (List.getElem?_eq_some_iff.1 h1).1
   rwa [Ba] at this
  rw [C5, List.map_cons, ihr h3, Bc, B7, I6 hp]
  simp [Ag, List.getD_eq_getElem?_getD, h1, Inf.nd]
theorem b24 {F : Fo} (h : Bd F = true) {p : Nat} (hp : p < F.cnt) : a5x F.pre p := by
 have hk : Bn (sz F.pre) p = C5 (Ag F p).2 (p + 1) := by unfold Bn; rw [Pu hp]; rfl
 have hg := a4c h (Ag F p) (by
  unfold Ag
  rw [List.getD_eq_getElem?_getD, List.getElem?_eq_getElem (by rw [Ba]; exact hp)]
  exact List.getElem_mem _)
 unfold De at hg
 rw [Bool.and_eq_true, Bool.and_eq_true] at hg
 unfold a5x
 rw [hk, X0 (Js hp), I6 hp]
 refine ⟨?_, hg.1.2, hg.2⟩
 show D1 (Ag F p).1.kind (bs (Ag F p).1.text).data.toList = true
 rw [D4]
 exact hg.1.1
theorem a8t {i : Inf} {K : Fo} (hi : i.kind = 1) (h : Bd (.cons i K .nil) = true) : a3u (Fo.cons i K .nil).pre = true := by
 unfold a3u
 rw [Bool.and_eq_true, Bool.and_eq_true, decide_eq_true_eq]
 refine ⟨⟨Gg (by rw [Cg]; exact Yg i K), ?_⟩, List.all_eq_true.2 fun j hj => ?_⟩
 ·rw [B7, I6 (by simp [Fo.cnt])]
  simpa [Ag, Cx, Inf.nd] using hi
 ·rw [List.mem_range, Cg] at hj
  obtain ⟨a, b, c⟩ := b24 h hj
  rw [Bool.and_eq_true, Fh, Bool.and_eq_true, Ic]
  exact ⟨⟨a, b⟩, c⟩
def a87 (k : Nat) (t : List UInt8) : Inf := ⟨k, 0, 0, 0, t⟩
theorem K8 {i : Inf} {K : Fo} (h1 : 21 ≤ i.kind) (h2 : i.kind ≤ 32) (h : Bd (.cons i K .nil) = true) : Ou (Fo.cons i K .nil).pre = true := by
 unfold Ou
 have e : Kp (Fo.cons i K .nil).pre.length ++ (Fo.cons i K .nil).pre = (Fo.cons (a87 1 []) (.cons (a87 4 [102]) (.cons (a87 14 []) .nil (.cons (a87 6 []) (.cons (a87 12 []) (.cons i K .nil) .nil) .nil)) .nil) .nil).pre := by
  rw [Cg]
  simp only [Fo.pre, List.append_nil, List.nil_append, List.cons_append, Fo.cnt, Nat.add_zero, Kp, Inf.nd, a87]
  simp only [List.cons.injEq, Nd.mk.injEq, true_and, and_true]
  and_intros <;> first | rfl | omega
 rw [e]
 refine a8t rfl ?_
 have h' := h
 simp only [Bd, Bool.and_true, De] at h'
 simp only [Bd, Bool.and_true, De, Bc, a87, h']
 have hk : Fk 12 0 [i.kind] = true := by
  show Al [Ak] [i.kind] = true
  simp [Al, Ak, List.range, List.range.loop, h1, h2]
 rw [hk]
 rfl
theorem I4 (F : Fo) : D9 F.pre = (txt (Bk F) 0 0).2 := by rw [D9, a2u]
end Go.Proofs.YtoaplbljflhheaaGreat
namespace Go.Proofs.YtoaplbljflhheaaGreat
open Go.RowKit Go.Sort
theorem a67 {H l : List Nd} (hH : ∀ x ∈ H, x.wf) (hl : ∀ i, i < l.length → (nd l i).wf) : ∀ i, i < (H ++ l).length → (nd (H ++ l) i).wf := fun i hi => by
 by_cases h : i < H.length
 ·rw [Ry h]; exact Wt hH i h
 ·obtain ⟨j, rfl⟩ : ∃ j, i = j + H.length := ⟨i - H.length, by omega⟩
  rw [P2]
  rw [List.length_append] at hi
  exact hl j (by omega)
theorem a55 {w : World} {a : Option Addr} {l : List Nd} (h : Row w a l) : ∀ i, i < l.length → (nd l i).wf := fun i hi => by
 obtain ⟨_, _, _, _, h⟩ := h i hi
 exact h
theorem a8u {w : World} {B : Nat} {v : Value} {H l : List Nd} (h : Lg w B v (H ++ l)) (hp : 0 < H.length) (hH : ∀ x ∈ H, x.wf) (hl : ∀ i, i < l.length → (nd l i).wf) (hn : (H ++ l).length ≤ 1000000) (p : Bool) (hm : a3u (H ++ l) = p) :
  ∃ g N cap, v = .slice (some ⟨g, 0, none⟩) N cap ∧ Calls Tryz.prog 23 #[.slice (some ⟨g, 0, none⟩) N cap] w fun e w' => e = .returned (.bool p) ∧ Below w.heap.size w w' := by
 obtain ⟨g, cap, rfl, hr, -⟩ := a8e h (by rw [List.length_append]; omega) (a67 hH hl)
 exact ⟨g, _, cap, rfl, a8w _ _ _ _ _ rfl hn hr p hm⟩
theorem Ro {w : World} {a : Option Addr} {n cap : Nat} {l : List Nd} (hlen : l.length = n) (hn : n ≤ 4000) (hrow : Row w a l) (hlow : a6y w a) (hb : (l.map fun x => x.text.size).sum ≤ 100000)
  (hR : Right (sz l) l.length) (h0 : 15 ≤ (nd l 0).kind ∧ (nd l 0).kind ≤ 32) (A : ∀ p, p < l.length → a5x l p) :
  Calls Tryz.prog 24 #[.slice a n cap] w fun e w' => e = .returned (.string (bs (D9 l))) ∧ Below w.heap.size w w' := by
 subst hlen
 have hwf := a55 hrow
 obtain ⟨hc, hall⟩ := N4 hR
 have hp := hR.pos
 have hL := Yw hR hwf hn hb
 refine Vm (F := Na l) (S := D9 l) (fun mb => b3p hR (by omega) A hwf (fun i hi => Nat.le_trans (b1s hi) hb) a cap mb) hrow rfl (by omega) (by omega) hlow ?_ rfl (by rw [hc]; exact hL)
 rw [(hall 0 hp).1]
 show (nd l 0).kind ≠ 14
 omega
theorem Tq {w : World} {a : Option Addr} {n cap : Nat} {l : List Nd} {p : Bool} (hz : a = none → n = 0 ∧ cap = 0) (hlen : l.length = n) (hn : n ≤ 4000) (hrow : Row w a l) (hlow : p = true → a6y w a) (hb : (l.map fun x => x.text.size).sum ≤ 100000) (hm : Ou l = p) :
  Calls Tryz.prog 13 #[.slice a n cap] w fun e w' => e = .returned (if p then .tuple #[.string (bs (D9 l)), .int .i64 0] else .tuple #[.string (bs []), .int .i64 1]) ∧ Below w.heap.size w w' := by
 have hwf := a55 hrow
 have HA := zz (Wg (w := w) (cap := cap) hz hlen (by omega) hrow)
 have HM := zz (fun (w1 : World) (B : Nat) (v : Value) (h : Lg w1 B v (Kp n ++ l)) => a8u h (by simp [Kp]) (Sm (by omega)) hwf (by rw [List.length_append, hlen]; simp [Kp]; omega) p (by rw [← hlen]; exact hm))
 have HP := zz (fun (h : p = true) (w1 : World) (hb1 : Below w.heap.size w w1) => by
  obtain ⟨q1, q2, q3⟩ := a4q (hm.trans h)
  rw [Ak, decide_eq_true_eq] at q2
  exact Ro (w := w1) (a := a) (cap := cap) hlen hn (hrow.carry hb1) ((hlow h).carry hb1) hb q1 (by omega) q3)
 clear hz hlen hn hrow hlow hb hm hwf
 go_enter Tryz.func13, Tryz.ntmps13
 go_wp2_with fail
 refine HA.out.mono ?_
 rintro e w1 ⟨v, rfl, ho, hb1⟩
 obtain ⟨g, N, c, rfl, hcall⟩ := HM.out _ _ _ ho
 replace hcall := zz hcall
 replace hb1 := zz hb1
 clear ho HM HA
 cases p with
 | false =>
  clear HP
  go_wp2_with fail
  refine hcall.out.mono ?_
  rintro e w2 ⟨rfl, hb2⟩
  replace hb2 := zz (Ab hb1.out hb2)
  go_wp2_with fail
  exact bodyPost_ret (v := .tuple #[.string (bs []), .int .i64 1]) (by simp [results, Tryz.results13, go_sem, bs]) rfl ⟨rfl, hb2.out⟩
 | true =>
  go_wp2_with fail
  refine hcall.out.mono ?_
  rintro e w2 ⟨rfl, hb2⟩
  replace hb2 := zz (Ab hb1.out hb2)
  go_wp2_with fail
  refine (HP.out True.intro _ hb2.out).mono ?_
  rintro e w3 ⟨rfl, hb3⟩
  replace hb3 := zz (Ab hb2.out hb3)
  go_wp2_with fail
  exact bodyPost_ret (v := .tuple #[.string (bs (D9 l)), .int .i64 0]) (by simp [results, Tryz.results13, go_sem]) rfl ⟨rfl, hb3.out⟩
end Go.Proofs.YtoaplbljflhheaaGreat
namespace Go.Proofs.YtoaplbljflhheaaGreat
open Go.RowKit Go.Sort
def Ui : Nat → List UInt8 → Nat → Nat → Res
 | 0, _, _, _ => .error (0, 0, 0)
 | n + 1, l, line, col =>
  if l.isEmpty then .ok [⟨8, line, col, 0, []⟩]
  else if l.headD 0 = 10 then Ui n l.tail (line + 1) 1
  else if l.headD 0 = 32 ∨ l.headD 0 = 9 ∨ l.headD 0 = 13 then Ui n l.tail line (col + 1)
  else if l.headD 0 = 35 then Ui n (l.tail.drop (Cb nlf l.tail)) line (col + (Cb nlf l.tail + 1))
  else if (one l).err = 0 then (Ui n (l.drop (one l).size) line (col + (one l).size)).map (⟨(one l).kind, line, col, (one l).num, (one l).text⟩ :: ·)
  else .error ((one l).err, line, col)
theorem Nz (n : Nat) : ∀ (l : List UInt8) (a b : Nat), l.length < n → Ui n l a b = D7 l a b := by
 induction n with
 | zero => intro l a b h; omega
 | succ n ih =>
  intro l a b h
  rw [Ui, D7]
  by_cases hl : l = []
  ·subst hl; rfl
  ·have hp : 0 < l.length := List.length_pos_iff.2 hl
   rw [if_neg (by simpa using hl), dif_neg hl]
   split
   ·exact ih _ _ _ (by simp; omega)
   ·split
    ·exact ih _ _ _ (by simp; omega)
    ·split
     ·exact ih _ _ _ (by simp; omega)
     ·split
      ·rename_i h4
       have := Lz l hl h4
       rw [ih _ _ _ (by simp; omega)]
      ·rfl
def b4t : Fo := .cons ⟨31, 1, 6, 3, []⟩ (.cons ⟨31, 1, 3, 1, []⟩ (.cons ⟨26, 1, 2, 0, [97]⟩ .nil (.cons ⟨26, 1, 4, 0, [98]⟩ .nil .nil)) (.cons ⟨26, 1, 8, 0, [99]⟩ .nil .nil)) .nil
def b4s : Fo := .cons ⟨31, 1, 8, 2, []⟩ (.cons ⟨31, 1, 2, 2, []⟩ (.cons ⟨26, 1, 1, 0, [97]⟩ .nil (.cons ⟨31, 1, 5, 2, []⟩ (.cons ⟨26, 1, 4, 0, [98]⟩ .nil (.cons ⟨26, 1, 6, 0, [99]⟩ .nil .nil)) .nil)) (.cons ⟨26, 1, 9, 0, [100]⟩ .nil .nil)) .nil
def b4r : Fo := .cons ⟨30, 1, 1, 12, []⟩ (.cons ⟨30, 1, 3, 12, []⟩ (.cons ⟨26, 1, 4, 0, [120]⟩ .nil .nil) .nil) .nil
theorem b61 : Gw Aw [40, 97, 43, 98, 41, 42, 40, 99, 41] = (b4t.pre, (0, 0, 0)) := by
 unfold Gw
 rw [if_neg (by decide), ← Nz 20 _ _ _ (by decide)]
 rfl
theorem b60 : Gw Aw [97, 45, 40, 98, 45, 99, 41, 45, 100] = (b4s.pre, (0, 0, 0)) := by
 unfold Gw
 rw [if_neg (by decide), ← Nz 20 _ _ _ (by decide)]
 rfl
theorem b6z : Gw Aw [45, 40, 45, 120, 41] = (b4r.pre, (0, 0, 0)) := by
 unfold Gw
 rw [if_neg (by decide), ← Nz 20 _ _ _ (by decide)]
 rfl
theorem b64 : D9 b4t.pre = [40, 97, 32, 43, 32, 98, 41, 32, 42, 32, 99] := by rw [I4]; rfl
theorem b63 : D9 b4s.pre = [97, 32, 45, 32, 40, 98, 32, 45, 32, 99, 41, 32, 45, 32, 100] := by rw [I4]; rfl
theorem b62 : D9 b4r.pre = [45, 45, 120] := by rw [I4]; rfl
theorem b67 : Ou b4t.pre = true := K8 (by decide) (by decide) (by rfl)
theorem b66 : Ou b4s.pre = true := K8 (by decide) (by decide) (by rfl)
theorem b65 : Ou b4r.pre = true := K8 (by decide) (by decide) (by rfl)
def wfB (x : Nd) : Bool := decide (x.kind < 256) && decide (-9223372036854775808 ≤ x.line ∧ x.line ≤ 9223372036854775807) && decide (-9223372036854775808 ≤ x.col ∧ x.col ≤ 9223372036854775807) && decide (-9223372036854775808 ≤ x.size ∧ x.size ≤ 9223372036854775807) && decide (-9223372036854775808 ≤ x.num ∧ x.num ≤ 9223372036854775807) && decide (x.text.size ≤ 100000)
theorem Wv {l : List Nd} (h : l.all wfB = true) : ∀ i, i < l.length → (nd l i).wf := fun i hi => by
 have e : nd l i = l[i] := by simp [nd, List.getD_eq_getElem?_getD, List.getElem?_eq_getElem hi]
 have := List.all_eq_true.1 h _ (List.getElem_mem hi)
 rw [e]
 simp only [wfB, Bool.and_eq_true, decide_eq_true_eq] at this
 obtain ⟨⟨⟨⟨⟨h1, h2⟩, h3⟩, h4⟩, h5⟩, h6⟩ := this
 exact ⟨h1, h2, h3, h4, h5, by unfold maxLen; omega⟩
theorem Kz {w : World} {a : Option Addr} {l : List Nd} (h : Wl w a l) (hwf : ∀ i, i < l.length → (nd l i).wf) : Row w a l := fun i hi => by
 obtain ⟨g, o, h1, h2⟩ := h i hi
 exact ⟨g, o, h1, h2, hwf i hi⟩
theorem Ta {w : World} {a : Option Addr} {l : List Nd} (h : Wl w a l) (hl : 0 < l.length) : a6y w a := fun g o e => by
 obtain ⟨g', o', h1, h2⟩ := h 0 hl
 rw [e] at h1
 cases h1
 exact block_lt_of_cell h2.c0
theorem Ms (s : ByteArray) (L : List Nd) (T : List UInt8) (hread : Gw Aw s.data.toList = (L, (0, 0, 0))) (hp : 0 < L.length) (hn : L.length ≤ 4000) (hwf : ∀ i, i < L.length → (nd L i).wf) (ht : (L.map fun x => x.text.size).sum ≤ 100000) (he : Ou L = true) (hT : D9 L = T) (w : World) :
  Calls Tryz.prog 22 #[.string s] w fun e w' => e = .returned (.string (bs T)) ∧ Below w.heap.size w w' := by
 have H := zz (fun w => K9 s w)
 rw [hread] at H
 have HE := zz (fun (w : World) (a : Option Addr) (n cap : Nat) (hz : a = none → n = 0 ∧ cap = 0) (hlen : L.length = n) (hr : Row w a L) (hlow : a6y w a) => by
  have := Tq (cap := cap) hz hlen (by omega) hr (fun _ => hlow) ht he
  rw [if_pos rfl, hT] at this
  exact this)
 replace hwf := zz hwf
 replace hp := zz hp
 clear hread ht he hT hn
 go_enter Tryz.func22, Tryz.ntmps22
 go_wp2_with fail
 refine (H.out _).mono ?_
 rintro e w1 ⟨a, n, cap, rfl, hn, hn2, hr, -, hb1⟩
 have hz : a = none → n = 0 ∧ cap = 0 := fun ea => by
  obtain ⟨g, o, h1, -⟩ := hr 0 hp.out
  rw [ea] at h1; cases h1
 have HX := zz (fun w2 (h : Below w1.heap.size w1 w2) => HE.out w2 a n cap hz hn (Kz (hr.carry h) hwf.out) (Ta (hr.carry h) hp.out))
 replace hb1 := zz hb1
 clear hn hr hz H HE hwf hp
 go_wp2_with fail
 refine (HX.out _ (Aa _ _)).mono ?_
 rintro e w2 ⟨rfl, hb2⟩
 replace hb2 := zz (Ab (Ab hb1.out (Aa _ _)) hb2)
 go_wp2_with fail
 go_ret
 exact ⟨rfl, hb2.out⟩
theorem Mp (w : World) : Calls Tryz.prog 9 #[] w fun e w' => e = .returned (.bool true) ∧ Below w.heap.size w w' := by
 have H1 := zz (fun w => Ms { data := #[40, 97, 43, 98, 41, 42, 40, 99, 41] } b4t.pre _ b61 (by decide) (by decide) (Wv (by decide)) (by decide) b67 b64 w)
 have H2 := zz (fun w => Ms { data := #[97, 45, 40, 98, 45, 99, 41, 45, 100] } b4s.pre _ b60 (by decide) (by decide) (Wv (by decide)) (by decide) b66 b63 w)
 have H3 := zz (fun w => Ms { data := #[45, 40, 45, 120, 41] } b4r.pre _ b6z (by decide) (by decide) (Wv (by decide)) (by decide) b65 b62 w)
 go_enter Tryz.func9, Tryz.ntmps9
 go_wp2_with fail
 refine (H1.out _).mono ?_
 rintro e w1 ⟨rfl, hb1⟩
 replace hb1 := zz hb1
 simp only [bs]
 go_wp2_with fail
 refine (H2.out _).mono ?_
 rintro e w2 ⟨rfl, hb2⟩
 replace hb2 := zz (Ab hb1.out hb2)
 simp only [bs]
 go_wp2_with fail
 refine (H3.out _).mono ?_
 rintro e w3 ⟨rfl, hb3⟩
 replace hb3 := zz (Ab hb2.out hb3)
 simp only [bs]
 go_wp2_with fail
 go_ret
 exact ⟨rfl, hb3.out⟩
end Go.Proofs.YtoaplbljflhheaaGreat
namespace Go.Proofs.YtoaplbljflhheaaGreat
def tkB (t : Tok) : Tok := ⟨t.kind, 0, 0, t.num, t.text⟩
def NB (m : List UInt8) : Prop := ∀ c, m.head? = some c → nam c = false
def NE (m : List UInt8) : Prop := ∀ c, m.head? = some c → c ≠ 61
def Lx (b : Bool) (s : List UInt8) (T : List Tok) : Prop := ∀ m line col, (b = true → NB m) → NE m → ∃ l' c' T', T'.map tkB = T ∧ D7 (s ++ m) line col = (D7 m l' c').map (T' ++ ·)
theorem Lx.weak {s : List UInt8} {T : List Tok} (h : Lx false s T) (b : Bool) : Lx b s T := fun m line col _ h2 => h m line col (by intro h; cases h) h2
theorem b27 (b : Bool) : Lx b [] [] := fun m line col _ _ => ⟨line, col, [], rfl, by cases h : D7 m line col <;> simp [Except.map, h]⟩
theorem R0 {x : Res} {A B : List Tok} : ((x.map (B ++ ·)).map (A ++ ·) : Res) = x.map ((A ++ B) ++ ·) := by
 cases x <;> simp [Except.map]
theorem Lx.app {b c : Bool} {s u : List UInt8} {T U : List Tok} (h : Lx b s T) (k : Lx c u U) (hu : u ≠ []) (hb : b = true → NB u) (he : NE u) : Lx c (s ++ u) (T ++ U) := fun m line col h1 h2 => by
 have hd : ∀ x, (u ++ m).head? = some x → u.head? = some x := fun x hx => by
  cases u with
  | nil => exact absurd rfl hu
  | cons y r => simpa using hx
 obtain ⟨l1, c1, T1, e1, f1⟩ := h (u ++ m) line col (fun q x hx => hb q x (hd x hx)) (fun x hx => he x (hd x hx))
 obtain ⟨l2, c2, T2, e2, f2⟩ := k m l1 c1 h1 h2
 exact ⟨l2, c2, T1 ++ T2, by rw [List.map_append, e1, e2], by rw [List.append_assoc, f1, f2, R0]⟩
theorem Gj {c : UInt8} (hc : c = 32 ∨ c = 9 ∨ c = 13 ∨ c = 10) {b : Bool} {s : List UInt8} {T : List Tok} (h : Lx b s T) : Lx b (c :: s) T := fun m line col h1 h2 => by
 rw [List.cons_append]
 rcases hc with rfl | rfl | rfl | rfl
 ·rw [Eg _ _ _ _ (by simp)]; exact h m _ _ h1 h2
 ·rw [Eg _ _ _ _ (by simp)]; exact h m _ _ h1 h2
 ·rw [Eg _ _ _ _ (by simp)]; exact h m _ _ h1 h2
 ·rw [Nx]; exact h m _ _ h1 h2
theorem Nj {b : Bool} {c : UInt8} {s : List UInt8} {t : Tok} (hg : ¬ F6 c) (h : ∀ m, (b = true → NB m) → NE m → one (c :: s ++ m) = ⟨0, s.length + 1, t.kind, t.num, t.text⟩) : Lx b (c :: s) [tkB t] := fun m line col h1 h2 => by
 have e := h m h1 h2
 refine ⟨line, col + (s.length + 1), [⟨t.kind, line, col, t.num, t.text⟩], rfl, ?_⟩
 rw [List.cons_append] at e ⊢
 rw [Kr _ _ _ _ hg (by rw [e]), e]
 simp only
 rw [List.drop_succ_cons, List.drop_left]
 rfl
abbrev sg (x : List UInt8) : Tok := ⟨7, 0, 0, 0, x⟩
abbrev wd (x : List UInt8) : Tok := ⟨6, 0, 0, 0, x⟩
abbrev nmT (x : List UInt8) : Tok := ⟨1, 0, 0, 0, x⟩
abbrev bgT (x : List UInt8) : Tok := ⟨2, 0, 0, 0, x⟩
theorem Bb {c : UInt8} (hc : c ∈ a8q) : Lx false [c] [sg [c]] := by
 have hk : ¬ F6 c ∧ (sml c || grt c) = false ∧ dgt c = false ∧ c ≠ 34 ∧ ∀ d : UInt8, d ≠ 61 → [c, d] ∉ O5 := by
  simp only [a8q, List.mem_cons, List.not_mem_nil, or_false] at hc
  refine ⟨by rcases hc with rfl | rfl | rfl | rfl | rfl | rfl | rfl | rfl | rfl | rfl | rfl | rfl | rfl | rfl | rfl | rfl | rfl | rfl | rfl <;> unfold F6 <;> decide, by rcases hc with rfl | rfl | rfl | rfl | rfl | rfl | rfl | rfl | rfl | rfl | rfl | rfl | rfl | rfl | rfl | rfl | rfl | rfl | rfl <;> decide, by rcases hc with rfl | rfl | rfl | rfl | rfl | rfl | rfl | rfl | rfl | rfl | rfl | rfl | rfl | rfl | rfl | rfl | rfl | rfl | rfl <;> decide, by rcases hc with rfl | rfl | rfl | rfl | rfl | rfl | rfl | rfl | rfl | rfl | rfl | rfl | rfl | rfl | rfl | rfl | rfl | rfl | rfl <;> decide, fun d hd hm => ?_⟩
  simp only [O5, List.mem_cons, List.not_mem_nil, or_false, List.cons.injEq, and_true] at hm
  rcases hm with ⟨rfl, rfl⟩ | ⟨rfl, rfl⟩ | ⟨rfl, rfl⟩ | ⟨rfl, rfl⟩ | ⟨rfl, rfl⟩ | ⟨rfl, rfl⟩
  ·revert hc; decide
  ·revert hc; decide
  all_goals exact hd rfl
 obtain ⟨g1, g2, g3, g4, g5⟩ := hk
 refine Nj (t := sg [c]) g1 fun m _ h2 => ?_
 show one (c :: m) = _
 unfold one
 rw [List.headD_cons, g2, g3, if_neg (by simp), if_neg (by simp), if_neg g4]
 unfold Lp
 have ht : ¬ (c :: m).take 2 ∈ O5 := by
  cases m with
  | nil =>
   intro hm
   have h6 : ∀ x ∈ O5, x.length = 2 := by decide
   have := h6 _ hm
   simp at this
  | cons d r => exact g5 d (h2 d rfl)
 have hs : sgn (c :: m) = 1 := by rw [sgn, if_neg ht, List.headD_cons, if_pos hc]
 rw [hs]
 rfl
theorem Ht {c d : UInt8} (hc : [c, d] ∈ O5) : Lx false [c, d] [sg [c, d]] := by
 have hk : ¬ F6 c ∧ (sml c || grt c) = false ∧ dgt c = false ∧ c ≠ 34 := by
  simp only [O5, List.mem_cons, List.not_mem_nil, or_false, List.cons.injEq, and_true] at hc
  rcases hc with ⟨rfl, rfl⟩ | ⟨rfl, rfl⟩ | ⟨rfl, rfl⟩ | ⟨rfl, rfl⟩ | ⟨rfl, rfl⟩ | ⟨rfl, rfl⟩ <;> exact ⟨by unfold F6; decide, by decide, by decide, by decide⟩
 obtain ⟨g1, g2, g3, g4⟩ := hk
 refine Nj (t := sg [c, d]) g1 fun m _ h2 => ?_
 show one (c :: d :: m) = _
 unfold one
 rw [List.headD_cons, g2, g3, if_neg (by simp), if_neg (by simp), if_neg g4]
 unfold Lp
 have hs : sgn (c :: d :: m) = 2 := by rw [sgn, if_pos (show List.take 2 (c :: d :: m) ∈ O5 from hc)]
 rw [hs]
 rfl
theorem I1 {t m : List UInt8} (h : t.all nam = true) (hm : NB m) : Cb nam (t ++ m) = t.length := by
 rw [N3 (by simpa using h), G7 hm]; rfl
theorem Od {c : UInt8} {s : List UInt8} (hc : (sml c || grt c) = true) (ha : (c :: s).all nam = true) : Lx true (c :: s) [⟨Mu (c :: s), 0, 0, 0, c :: s⟩] := by
 have hg : ¬ F6 c := by
  intro hg
  unfold F6 at hg
  rcases hg with rfl | rfl | rfl | rfl | rfl <;> revert hc <;> decide
 refine Nj (t := ⟨Mu (c :: s), 0, 0, 0, c :: s⟩) hg fun m h1 _ => ?_
 have hr := I1 ha (h1 rfl)
 unfold one
 rw [show (c :: s ++ m).headD 0 = c from rfl, if_pos hc, hr, List.take_left]
 have hn : Mu (c :: s ++ m) = Mu (c :: s) := by
  unfold Mu
  rw [hr, List.take_left, show Cb nam (c :: s) = (c :: s).length by
   have := I1 (m := []) ha (fun x hx => by cases hx)
   rwa [List.append_nil] at this, List.take_length]
  rfl
 rw [hn]
 rfl
theorem R1 {w : List UInt8} (h : w ∈ Qx) : Lx true w [wd w] := by
 have hk : ∃ c s, w = c :: s ∧ (sml c || grt c) = true ∧ w.all nam = true := by
  simp only [Qx, List.mem_cons, List.not_mem_nil, or_false] at h
  rcases h with rfl | rfl | rfl | rfl | rfl | rfl | rfl | rfl | rfl | rfl | rfl | rfl | rfl | rfl | rfl | rfl <;> exact ⟨_, _, rfl, by decide, by decide⟩
 obtain ⟨c, s, rfl, h1, h2⟩ := hk
 have := Od h1 h2
 have e : Mu (c :: s) = 6 := by
  unfold Mu
  rw [show Cb nam (c :: s) = (c :: s).length by
   have := I1 (m := []) h2 (fun x hx => by cases hx)
   rwa [List.append_nil] at this, List.take_length, F4, decide_eq_true h, if_pos rfl]
 rw [e] at this
 exact this
theorem Hr {q : Int → Bool} {l : List UInt8} (h : Ii q l = true) : ∃ c s, l = c :: s ∧ q c.toNat = true ∧ l.all nam = true := by
 unfold Ii at h
 rw [Bool.and_eq_true, Bool.and_eq_true] at h
 cases l with
 | nil => simp at h
 | cons c s => exact ⟨c, s, rfl, h.1.2, h.2⟩
theorem b1x (c : UInt8) : N1 (c.toNat : Int) = sml c := by
 unfold N1 sml
 rw [Bool.eq_iff_iff]
 simp only [Bool.or_eq_true, Bool.and_eq_true, decide_eq_true_eq]
 have : c = 95 ↔ (c.toNat : Int) = 95 := ⟨fun h => by rw [h]; rfl, fun h => UInt8.toNat_inj.1 (by show c.toNat = 95; omega)⟩
 rw [this]
 omega
theorem b3e (c : UInt8) : Qu (c.toNat : Int) = grt c := by
 unfold Qu grt
 rw [Bool.eq_iff_iff]
 simp only [Bool.and_eq_true, decide_eq_true_eq]
 omega
theorem Oe {t : List UInt8} (h : Dv t = true) : Lx true t [nmT t] := by
 unfold Dv at h
 rw [Bool.and_eq_true, Bool.not_eq_true'] at h
 obtain ⟨c, s, rfl, h1, h2⟩ := Hr h.1
 rw [b1x] at h1
 have hg : grt c = false := by
  cases hh : grt c with
  | false => rfl
  | true =>
   simp [sml, grt] at h1 hh
   rcases h1 with h1 | h1
   ·omega
   ·subst h1; revert hh; decide
 have := Od (c := c) (s := s) (by rw [h1]; rfl) h2
 have e : Mu (c :: s) = 1 := by
  unfold Mu
  rw [show Cb nam (c :: s) = (c :: s).length by
   have := I1 (m := []) h2 (fun x hx => by cases hx)
   rwa [List.append_nil] at this, List.take_length, h.2, List.headD_cons, hg]
  rfl
 rw [e] at this
 exact this
theorem a3x {t : List UInt8} (h : Eu t = true) : Lx true t [bgT t] := by
 unfold Eu at h
 obtain ⟨c, s, rfl, h1, h2⟩ := Hr h
 rw [b3e] at h1
 have := Od (c := c) (s := s) (by rw [h1]; simp) h2
 have hw : F4 (c :: s) = false := by
  cases hh : F4 (c :: s) with
  | false => rfl
  | true =>
   rw [F4, decide_eq_true_eq] at hh
   have : ∀ w ∈ Qx, grt (w.headD 0) = false := by decide
   have := this _ hh
   rw [List.headD_cons, h1] at this
   cases this
 have e : Mu (c :: s) = 2 := by
  unfold Mu
  rw [show Cb nam (c :: s) = (c :: s).length by
   have := I1 (m := []) h2 (fun x hx => by cases hx)
   rwa [List.append_nil] at this, List.take_length, hw, List.headD_cons, h1]
  rfl
 rw [e] at this
 exact this
theorem b28 (t : List UInt8) : Lx false (lit t) [⟨5, 0, 0, 0, t⟩] := by
 obtain ⟨r, hr⟩ : ∃ r, lit t = 34 :: r := ⟨_, rfl⟩
 rw [hr]
 refine Nj (t := ⟨5, 0, 0, 0, t⟩) (by unfold F6; decide) fun m _ _ => ?_
 have := a2y t m
 rw [hr] at this
 unfold one
 rw [show (34 :: r ++ m).headD 0 = (34 : UInt8) from rfl, if_neg (by decide), if_neg (by decide), if_pos rfl, L3, this]
 rfl
theorem Ov (n : Nat) : ∀ c ∈ Nm.dec n, dgt c = true := fun c hc => List.all_eq_true.1 (Nm.dec_all n) c hc
theorem a9v {c : UInt8} (h : dgt c = true) : nam c = true := by unfold nam; rw [h]; simp
theorem Sc {c : UInt8} (h : dgt c = true) : (sml c || grt c) = false ∧ ¬ F6 c ∧ c ≠ 105 ∧ c ≠ 45 := by
 simp only [dgt, Bool.and_eq_true, decide_eq_true_eq] at h
 refine ⟨?_, ?_, ?_, ?_⟩
 ·rw [Bool.or_eq_false_iff]
  constructor
  ·unfold sml
   rw [Bool.or_eq_false_iff]
   constructor
   ·simp; omega
   ·rw [decide_eq_false_iff_not]; rintro rfl; revert h; decide
  ·unfold grt; simp; omega
 ·unfold F6
  rintro (rfl | rfl | rfl | rfl | rfl) <;> revert h <;> decide
 ·rintro rfl; revert h; decide
 ·rintro rfl; revert h; decide
theorem Sp (n : Nat) : a52 (Nm.dec n) = Nm.dec n := by
 unfold a52
 have : Cb nou (Nm.dec n).dropLast = 0 := by
  cases hd : (Nm.dec n).dropLast with
  | nil => rfl
  | cons c r =>
   have h1 : (Nm.dec n).headD 0 = c := by
    cases he : Nm.dec n with
    | nil => rw [he] at hd; simp at hd
    | cons x y =>
     rw [he] at hd
     cases y with
     | nil => simp at hd
     | cons z w => simp at hd; rw [List.headD_cons]; exact hd.1
   have h2 : 0 < n := by
    by_cases h0 : n = 0
    ·subst h0
     rw [Nm.dec_small (by omega)] at hd
     simp at hd
    ·omega
   have h3 := Nm.dec_head n h2
   rw [h1] at h3
   unfold Cb nou
   rw [if_neg (by simpa using h3)]
 rw [this, List.drop_zero]
theorem Pw (n : Nat) (h : n ≤ 9223372036854775807) : Nm.parseE (Nm.dec n) = 0 ∧ Nm.parseN (Nm.dec n) = n := by
 have hn : Nm.negB (Nm.dec n) = false := by
  unfold Nm.negB
  cases he : Nm.dec n with
  | nil => exact absurd he (Nm.dec_ne n)
  | cons x y =>
   have := Ov n x (by rw [he]; simp)
   have := (Sc this).2.2.2
   simpa using this
 have hb : Nm.body (Nm.dec n) = Nm.dec n := by unfold Nm.body; rw [hn]; rfl
 have hg : Nm.good (Nm.dec n) = true := by unfold Nm.good; rw [hb, Nm.isDec_dec, hn]; rfl
 have hm : ¬ Nm.mostOf false < Nm.valL (Nm.dec n) := by rw [Nm.valL_dec]; show ¬ 9223372036854775807 < n; omega
 unfold Nm.parseE Nm.parseN
 rw [hg, hb, hn, if_neg hm, Nm.valL_dec]
 simp only [if_true, if_neg (show ¬ Nm.mostOf false < n by rw [Nm.valL_dec] at hm; exact hm)]
 exact ⟨trivial, by simp⟩
theorem b3a (n : Nat) (h : n ≤ 9223372036854775807) : Lx true (Nm.dec n) [⟨3, 0, 0, n, []⟩] := by
 obtain ⟨c, s, hcs⟩ : ∃ c s, Nm.dec n = c :: s := by
  cases he : Nm.dec n with
  | nil => exact absurd he (Nm.dec_ne n)
  | cons x y => exact ⟨x, y, rfl⟩
 have ha := Ov n
 have ht := Sp n
 have hp := Pw n h
 rw [hcs] at ha ht hp ⊢
 obtain ⟨g1, g2, g3, _⟩ := Sc (ha c (by simp))
 refine Nj (t := ⟨3, 0, 0, n, []⟩) g2 fun m h1 _ => ?_
 have hnb := h1 rfl
 have hr : Cb dgt (c :: s ++ m) = (c :: s).length := by
  rw [N3 ha, G7 fun x hx => by
   cases hd : dgt x with
   | false => rfl
   | true => have := hnb x hx; rw [a9v hd] at this; cases this]
  rfl
 have hC : isC (c :: s ++ m) = false := by
  unfold isC
  rw [hr, List.drop_left, decide_eq_false_iff_not]
  intro hm
  have := hnb 105 hm
  revert this; decide
 have hK : Wj (c :: s ++ m) = (c :: s).length := by unfold Wj; rw [hC, hr]; rfl
 have hD : Rw (c :: s ++ m) = c :: s := by unfold Rw; rw [hr, List.take_left, ht]
 have hM : Zb (c :: s ++ m) = 9223372036854775807 := by unfold Zb; rw [hC]; rfl
 unfold one
 rw [show (c :: s ++ m).headD 0 = c from rfl, g1, if_neg (by simp), if_pos (ha c (by simp))]
 unfold Ke
 rw [hK, List.drop_left, G7 hnb, if_neg (by simp), hD, hM, hp.1, hp.2, if_neg (by omega), hC]
 rfl
theorem a81 (n : Nat) (h : n ≤ 8388607) : Lx true (Nm.dec n ++ [105]) [⟨4, 0, 0, n, []⟩] := by
 obtain ⟨c, s, hcs⟩ : ∃ c s, Nm.dec n = c :: s := by
  cases he : Nm.dec n with
  | nil => exact absurd he (Nm.dec_ne n)
  | cons x y => exact ⟨x, y, rfl⟩
 have ha := Ov n
 have ht := Sp n
 have hp := Pw n (by omega)
 rw [hcs] at ha ht hp ⊢
 obtain ⟨g1, g2, g3, _⟩ := Sc (ha c (by simp))
 rw [List.cons_append]
 refine Nj (t := ⟨4, 0, 0, n, []⟩) g2 fun m h1 _ => ?_
 have hnb := h1 rfl
 have e : c :: (s ++ [105]) ++ m = c :: s ++ (105 :: m) := by simp
 rw [e]
 have hr : Cb dgt (c :: s ++ (105 :: m)) = (c :: s).length := by
  rw [N3 ha, G7 fun x hx => by
   simp at hx; subst hx; decide]
  rfl
 have hC : isC (c :: s ++ (105 :: m)) = true := by
  unfold isC
  rw [hr, List.drop_left]
  rfl
 have hK : Wj (c :: s ++ (105 :: m)) = (c :: s).length + 1 := by unfold Wj; rw [hC, hr]; rfl
 have hD : Rw (c :: s ++ (105 :: m)) = c :: s := by unfold Rw; rw [hr, List.take_left, ht]
 have hM : Zb (c :: s ++ (105 :: m)) = 8388607 := by unfold Zb; rw [hC]; rfl
 have hdr : (c :: s ++ (105 :: m)).drop ((c :: s).length + 1) = m := by
  rw [← List.drop_drop, List.drop_left]; rfl
 unfold one
 rw [show (c :: s ++ (105 :: m)).headD 0 = c from rfl, g1, if_neg (by simp), if_pos (ha c (by simp))]
 unfold Ke
 rw [hK, hdr, G7 hnb, if_neg (by simp), hD, hM, hp.1, hp.2, if_neg (by omega), hC]
 simp
end Go.Proofs.YtoaplbljflhheaaGreat
namespace Go.Proofs.YtoaplbljflhheaaGreat
abbrev TT := Inf × List Tok
def G1 (ts : List TT) (j : Nat) : TT := ts.getD j (b4q, [])
def Mv (m : Nat) (x : TT) : List Tok := if lvl x.1 < m then sg [40] :: (x.2 ++ [sg [41]]) else x.2
def Av : List TT → List Tok
 | [] => []
 | x :: l => x.2 ++ l.flatMap fun y => sg [44] :: y.2
def P6 (ts : List TT) : List Tok := [sg [123]] ++ (ts.flatMap fun x => x.2) ++ [sg [125]]
def b5n (i : Inf) : Tok :=
 if i.kind = 21 then ⟨3, 0, 0, i.num, []⟩ else if i.kind = 22 then ⟨4, 0, 0, i.num, []⟩ else if i.kind = 23 then ⟨5, 0, 0, 0, i.text⟩
 else if i.kind = 24 then (if i.num = 0 then wd [102, 97, 108, 115, 101] else wd [116, 114, 117, 101]) else if i.kind = 25 then wd [110, 105, 108] else nmT i.text
def b40 (i : Inf) (ts : List TT) : List Tok :=
 if i.kind = 15 then [wd [105, 110, 116]] else if i.kind = 16 then [wd [98, 111, 111, 108]] else if i.kind = 17 then [wd [115, 116, 114]] else if i.kind = 18 then [wd [99, 111, 109, 112]]
 else if i.kind = 19 then [bgT i.text] else [sg [91]] ++ (G1 ts 0).2 ++ [sg [93]]
def tkN (i : Inf) (ts : List TT) : List Tok := match i.kind with
 | 1 => ts.flatMap fun x => x.2
 | 2 => [wd [114, 101, 99], bgT i.text] ++ P6 ts
 | 3 => [nmT i.text, sg [58]] ++ (G1 ts 0).2 ++ [sg [59]]
 | 4 => [wd [102, 110], nmT i.text, sg [40]] ++ Av (ts.take i.num.toNat) ++ [sg [41]] ++ (if (G1 ts i.num.toNat).1.kind = 14 then [] else [sg [58]] ++ (G1 ts i.num.toNat).2) ++ (G1 ts (i.num.toNat + 1)).2
 | 5 => [nmT i.text, sg [58]] ++ (G1 ts 0).2
 | 6 => P6 ts
 | 7 => [wd [118, 97, 114], nmT i.text, sg [58]] ++ (G1 ts 0).2 ++ [sg [61]] ++ (G1 ts 1).2 ++ [sg [59]]
 | 8 => (G1 ts 0).2 ++ [sg [61]] ++ (G1 ts 1).2 ++ [sg [59]]
 | 9 => [wd [105, 102]] ++ (G1 ts 0).2 ++ (G1 ts 1).2 ++ (if ts.length = 3 then [wd [101, 108, 115, 101]] ++ (G1 ts 2).2 else [])
 | 10 => [wd [119, 104, 105, 108, 101]] ++ (G1 ts 0).2 ++ (G1 ts 1).2
 | 11 => [wd [114, 101, 116, 117, 114, 110]] ++ (if ts.length = 1 then (G1 ts 0).2 else []) ++ [sg [59]]
 | 12 => [wd [112, 114, 105, 110, 116]] ++ (G1 ts 0).2 ++ [sg [59]]
 | 13 => (G1 ts 0).2 ++ [sg [59]]
 | 14 => []
 | 15 | 16 | 17 | 18 | 19 | 20 => b40 i ts
 | 21 | 22 | 23 | 24 | 25 | 26 => [b5n i]
 | 27 => [nmT i.text, sg [40]] ++ Av ts ++ [sg [41]]
 | 28 => Mv 8 (G1 ts 0) ++ [sg [91]] ++ (G1 ts 1).2 ++ [sg [93]]
 | 29 => Mv 8 (G1 ts 0) ++ [sg [46], nmT i.text]
 | 30 => [sg (opS i.num).1] ++ Mv 7 (G1 ts 0)
 | 31 => Mv (C6 (opS i.num).2) (G1 ts 0) ++ [sg (opS i.num).1] ++ Mv ((opS i.num).2 + 1) (G1 ts 1)
 | 32 => [wd [109, 97, 107, 101]] ++ (G1 ts 0).2 ++ [sg [40]] ++ Av ts.tail ++ [sg [41]]
 | _ => []
def tkF : Fo → List TT
 | .nil => []
 | .cons i k r => (i, tkN i (tkF k)) :: tkF r
def Hd (s : List UInt8) : Prop := ∃ c r, s = c :: r ∧ c ≠ 61
theorem Hd.app {s : List UInt8} (h : Hd s) (u : List UInt8) : Hd (s ++ u) := by
 obtain ⟨c, r, rfl, h2⟩ := h
 exact ⟨c, r ++ u, rfl, h2⟩
def Sub (s : List UInt8) (T : List Tok) : Prop := Lx true s T ∧ Hd s
theorem Lx.sub {s u : List UInt8} {T U : List Tok} (h : Lx false s T) (k : Sub u U) : Lx true (s ++ u) (T ++ U) := by
 obtain ⟨k1, c, r, rfl, k2⟩ := k
 exact h.app k1 (by simp) (fun h => by cases h) (fun x hx => by simp at hx; subst hx; exact k2)
theorem Lx.lit {b d : Bool} {s r : List UInt8} {T U : List Tok} {c : UInt8} (h : Lx b s T) (k : Lx d (c :: r) U) (hc : nam c = false ∧ c ≠ 61) : Lx d (s ++ c :: r) (T ++ U) :=
 h.app k (by simp) (fun _ x hx => by simp at hx; subst hx; exact hc.1) (fun x hx => by simp at hx; subst hx; exact hc.2)
theorem bl (b : Bool) : Lx b [32] [] := Gj (by simp) (b27 b)
theorem b29 : Lx false [32, 61, 32] [sg [61]] := Gj (by simp) ((Bb (c := 61) (by decide)).lit (bl false) (by decide))
theorem K3 : Lx false [58, 32] [sg [58]] := (Bb (c := 58) (by decide)).lit (bl false) (by decide)
theorem a3y : Lx false [44, 32] [sg [44]] := (Bb (c := 44) (by decide)).lit (bl false) (by decide)
theorem Il : Lx false [59] [sg [59]] := Bb (by decide)
theorem R3 : Lx false [40] [sg [40]] := Bb (by decide)
theorem R2 : Lx false [41] [sg [41]] := Bb (by decide)
theorem Cn {w : List UInt8} (h : w ∈ Qx) : Lx false (w ++ [32]) [wd w] := by
 have := (R1 h).lit (bl false) (by decide)
 rwa [List.append_nil] at this
theorem a80 : Lx false [32, 101, 108, 115, 101, 32] [wd [101, 108, 115, 101]] := Gj (by simp) (Cn (w := [101, 108, 115, 101]) (by decide))
theorem b26 (n : Nat) {b : Bool} {s : List UInt8} {T : List Tok} (h : Lx b s T) : Lx b (nl n ++ s) T := by
 have : Lx b (List.replicate n 9 ++ s) T := by
  induction n with
  | zero => simpa using h
  | succ n ih =>
   rw [List.replicate_succ, List.cons_append]
   exact Gj (by simp) ih
 exact Gj (by simp) this
def Pr (x : Tx) (y : TT) : Prop := x.1 = y.1 ∧ (x.1.kind ≠ 14 → Sub x.2 y.2)
def PrL : List Tx → List TT → Prop
 | [], [] => True
 | x :: l, y :: t => Pr x y ∧ PrL l t
 | _, _ => False
theorem Yy : ∀ {ks : List Tx} {ts : List TT}, PrL ks ts → ks.length = ts.length
 | [], [], _ => rfl
 | _ :: l, _ :: t, h => by rw [List.length_cons, List.length_cons, Yy h.2]
theorem Gh {x : Tx} {ts : List TT} (h : PrL [x] ts) : ∃ x', ts = [x'] ∧ Pr x x' := by
 match ts, h with
 | [x'], h => exact ⟨x', rfl, h.1⟩
theorem Hc {x y : Tx} {ts : List TT} (h : PrL [x, y] ts) : ∃ x' y', ts = [x', y'] ∧ Pr x x' ∧ Pr y y' := by
 match ts, h with
 | [x', y'], h => exact ⟨x', y', rfl, h.1, h.2.1⟩
theorem Yx {x y z : Tx} {ts : List TT} (h : PrL [x, y, z] ts) : ∃ x' y' z', ts = [x', y', z'] ∧ Pr x x' ∧ Pr y y' ∧ Pr z z' := by
 match ts, h with
 | [x', y', z'], h => exact ⟨x', y', z', rfl, h.1, h.2.1, h.2.2.1⟩
theorem Yz : ∀ {ks ls : List Tx} {ts : List TT}, PrL (ks ++ ls) ts → ∃ us vs, ts = us ++ vs ∧ PrL ks us ∧ PrL ls vs
 | [], ls, ts, h => ⟨[], ts, rfl, trivial, h⟩
 | x :: l, ls, y :: t, h => by
  obtain ⟨us, vs, rfl, h1, h2⟩ := Yz (ks := l) h.2
  exact ⟨y :: us, vs, rfl, ⟨h.1, h1⟩, h2⟩
theorem Pr.brk {x : Tx} {y : TT} (h : Pr x y) (hk : x.1.kind ≠ 14) (m : Nat) : Sub (brk m x) (Mv m y) := by
 have hs := h.2 hk
 unfold YtoaplbljflhheaaGreat.brk Mv
 rw [← h.1]
 split
 ·exact ⟨((R3.sub hs).lit R2 (by decide)).weak true, 40, _, rfl, by decide⟩
 ·exact hs
def a5w (ks : List Tx) : Prop := ∀ x ∈ ks, x.1.kind ≠ 14
theorem Zq : ∀ {l : List Tx} {t : List TT}, PrL l t → a5w l → ∀ {s : List UInt8} {T : List Tok}, Lx true s T → Lx true (s ++ l.flatMap fun y => [44, 32] ++ y.2) (T ++ t.flatMap fun y => sg [44] :: y.2)
 | [], [], _, _, s, T, h => by simpa using h
 | x :: l, y :: t, hp, hn, s, T, h => by
  have h1 := (h.lit a3y (by decide)).sub (hp.1.2 (hn x (by simp)))
  have h2 := Zq hp.2 (fun z hz => hn z (by simp [hz])) h1
  simp only [List.flatMap_cons]
  simpa using h2
theorem Of {ks : List Tx} {ts : List TT} (hp : PrL ks ts) (hn : a5w ks) : Lx false ([40] ++ Cm ks ++ [41]) ([sg [40]] ++ Av ts ++ [sg [41]]) := by
 match ks, ts, hp with
 | [], [], _ => exact R3.lit R2 (by decide)
 | x :: l, y :: t, hp =>
  have h1 := R3.sub (hp.1.2 (hn x (by simp)))
  have h2 := Zq hp.2 (fun z hz => hn z (by simp [hz])) h1
  have h3 := h2.lit R2 (by decide)
  simp only [Cm, Av]
  simpa using h3
theorem Zp (n : Nat) : ∀ {l : List Tx} {t : List TT}, PrL l t → a5w l → ∀ {b : Bool} {s : List UInt8} {T : List Tok}, Lx b s T → Lx true (s ++ l.flatMap fun x => nl n ++ x.2) (T ++ t.flatMap fun y => y.2)
 | [], [], _, _, b, s, T, h => by
  cases b
  ·simpa using h.weak true
  ·simpa using h
 | x :: l, y :: t, hp, hn, b, s, T, h => by
  obtain ⟨k1, c, r, k2, k3⟩ := hp.1.2 (hn x (by simp))
  have h0 : Lx true (10 :: (List.replicate n 9 ++ x.2)) y.2 := b26 n k1
  have h1 := h.lit h0 (by decide)
  have h2 := Zp n hp.2 (fun z hz => hn z (by simp [hz])) h1
  simp only [List.flatMap_cons]
  simpa [nl] using h2
theorem Tg (n : Nat) {ks : List Tx} {ts : List TT} (hp : PrL ks ts) (hn : a5w ks) : Lx false (lines n ks) (P6 ts) := by
 have h1 := Zp (n + 1) hp hn (Bb (c := 123) (by decide))
 have h0 : Lx false (10 :: (List.replicate n 9 ++ [125])) [sg [125]] := b26 n (Bb (c := 125) (by decide))
 have h2 := h1.lit h0 (by decide)
 unfold lines P6
 simpa [nl] using h2
theorem jx1 {P : Nat → Bool} {xs : List Tx} (h : Al [P] (xs.map fun x => x.1.kind) = true) : ∃ x, xs = [x] ∧ P x.1.kind = true := by
 have hl := C9 h
 rw [List.length_map] at hl
 match xs, hl with
 | [x], _ => exact ⟨x, rfl, Cc h (i := 0) (by simp)⟩
theorem jx2 {P Q : Nat → Bool} {xs : List Tx} (h : Al [P, Q] (xs.map fun x => x.1.kind) = true) : ∃ x y, xs = [x, y] ∧ P x.1.kind = true ∧ Q y.1.kind = true := by
 have hl := C9 h
 rw [List.length_map] at hl
 match xs, hl with
 | [x, y], _ => exact ⟨x, y, rfl, Cc h (i := 0) (by simp), Cc h (i := 1) (by simp)⟩
theorem jx3 {P Q R : Nat → Bool} {xs : List Tx} (h : Al [P, Q, R] (xs.map fun x => x.1.kind) = true) : ∃ x y z, xs = [x, y, z] ∧ P x.1.kind = true ∧ Q y.1.kind = true ∧ R z.1.kind = true := by
 have hl := C9 h
 rw [List.length_map] at hl
 match xs, hl with
 | [x, y, z], _ => exact ⟨x, y, z, rfl, Cc h (i := 0) (by simp), Cc h (i := 1) (by simp), Cc h (i := 2) (by simp)⟩
theorem e14 {k : Nat} (h : Ak k = true) : k ≠ 14 := by rw [Ak, decide_eq_true_eq] at h; omega
theorem t14 {k : Nat} (h : Dd k = true) : k ≠ 14 := by rw [Dd, decide_eq_true_eq] at h; omega
theorem c14 {k : Nat} {l : List Nat} (hl : l.contains 14 = false) (h : l.contains k = true) : k ≠ 14 := by
 rintro rfl
 rw [hl] at h; cases h
end Go.Proofs.YtoaplbljflhheaaGreat
namespace Go.Proofs.YtoaplbljflhheaaGreat
theorem Ob {t : List UInt8} (h : Dv t = true) : Hd t := by
 unfold Dv at h
 rw [Bool.and_eq_true] at h
 obtain ⟨c, s, rfl, h1, h2⟩ := Hr h.1
 refine ⟨c, s, rfl, ?_⟩
 rintro rfl
 revert h1; decide
theorem a4a {t : List UInt8} (h : Eu t = true) : Hd t := by
 unfold Eu at h
 obtain ⟨c, s, rfl, h1, h2⟩ := Hr h
 refine ⟨c, s, rfl, ?_⟩
 rintro rfl
 revert h1; decide
theorem Ks {t : List UInt8} (h : Dv t = true) : Sub t [nmT t] := ⟨Oe h, Ob h⟩
theorem Pf {t : List UInt8} (h : Eu t = true) : Sub t [bgT t] := ⟨a3x h, a4a h⟩
theorem Gf {w : List UInt8} (h : w ∈ Qx) (hd : Hd w) : Sub w [wd w] := ⟨R1 h, hd⟩
theorem Cz {c : UInt8} {r : List UInt8} (h : c ≠ 61) : Hd (c :: r) := ⟨c, r, rfl, h⟩
theorem a6p (n : Nat) : Hd (Nm.dec n) := by
 cases he : Nm.dec n with
 | nil => exact absurd he (Nm.dec_ne n)
 | cons x y =>
  refine ⟨x, y, rfl, ?_⟩
  rintro rfl
  have := Ov n 61 (by rw [he]; simp)
  revert this; decide
theorem b18 {n : Int} (h : n ∈ sgE.map (·.1)) : Lx false (opS n).1 [sg (opS n).1] ∧ ∃ c r, (opS n).1 = c :: r := by
 simp only [sgE, List.map_cons, List.map_nil, List.mem_cons, List.not_mem_nil, or_false] at h
 rcases h with rfl | rfl | rfl | rfl | rfl | rfl | rfl | rfl | rfl | rfl | rfl | rfl | rfl | rfl | rfl
 ·exact ⟨Ht (c := 124) (d := 124) (by decide), _, _, rfl⟩
 ·exact ⟨Ht (c := 38) (d := 38) (by decide), _, _, rfl⟩
 ·exact ⟨Ht (c := 61) (d := 61) (by decide), _, _, rfl⟩
 ·exact ⟨Ht (c := 33) (d := 61) (by decide), _, _, rfl⟩
 ·exact ⟨Bb (c := 60) (by decide), _, _, rfl⟩
 ·exact ⟨Ht (c := 60) (d := 61) (by decide), _, _, rfl⟩
 ·exact ⟨Bb (c := 62) (by decide), _, _, rfl⟩
 ·exact ⟨Ht (c := 62) (d := 61) (by decide), _, _, rfl⟩
 ·exact ⟨Bb (c := 43) (by decide), _, _, rfl⟩
 ·exact ⟨Bb (c := 45) (by decide), _, _, rfl⟩
 ·exact ⟨Bb (c := 42) (by decide), _, _, rfl⟩
 ·exact ⟨Bb (c := 47) (by decide), _, _, rfl⟩
 ·exact ⟨Bb (c := 37) (by decide), _, _, rfl⟩
 ·exact ⟨Bb (c := 45) (by decide), _, _, rfl⟩
 ·exact ⟨Bb (c := 33) (by decide), _, _, rfl⟩
theorem b45 {n : Int} (h : n ∈ sgE.map (·.1)) : Lx false ([32] ++ (opS n).1 ++ [32]) [sg (opS n).1] := by
 obtain ⟨h1, c, r, h2⟩ := b18 h
 rw [List.append_assoc]
 have := h1.lit (bl false) (by decide)
 rw [List.append_nil] at this
 exact Gj (by simp) this
theorem b16 {n : Int} {k : Nat} (h : Cs k n = true) (hk : k = 30 ∨ k = 31) : n ∈ sgE.map (·.1) := by
 rcases hk with rfl | rfl
 ·simp [Cs] at h
  rcases h with e | e <;> rw [e] <;> simp [sgE]
 ·simp [Cs] at h
  have : n = 1 ∨ n = 2 ∨ n = 3 ∨ n = 4 ∨ n = 5 ∨ n = 6 ∨ n = 7 ∨ n = 8 ∨ n = 9 ∨ n = 10 ∨ n = 11 ∨ n = 14 ∨ n = 15 := by omega
  rcases this with rfl | rfl | rfl | rfl | rfl | rfl | rfl | rfl | rfl | rfl | rfl | rfl | rfl <;> simp [sgE]
theorem a5t {P : Nat → Bool} {ks : List Tx} (hP : ∀ k, P k = true → k ≠ 14) (h : (ks.map fun x => x.1.kind).all P = true) : a5w ks := fun x hx =>
 hP _ (List.all_eq_true.1 h _ (List.mem_map_of_mem (f := fun x : Tx => x.1.kind) hx))
theorem a8z (n : Nat) (i : Inf) (ks : List Tx) (ts : List TT) (hk1 : 2 ≤ i.kind) (hk2 : i.kind ≤ 32) (hk14 : i.kind ≠ 14) (ht : D1 i.kind i.text = true) (hn : Cs i.kind i.num = true) (hmx : i.num ≤ 9223372036854775807) (ha : Fk i.kind i.num (ks.map fun x => x.1.kind) = true) (hp : PrL ks ts) : Sub (Ee n i ks) (tkN i ts) := by
 obtain ⟨kd, ln, cl, num, tx⟩ := i
 simp only at hk1 hk2 hk14 ht hn ha hmx
 have hk : kd = 2 ∨ kd = 3 ∨ kd = 4 ∨ kd = 5 ∨ kd = 6 ∨ kd = 7 ∨ kd = 8 ∨ kd = 9 ∨ kd = 10 ∨ kd = 11 ∨ kd = 12 ∨ kd = 13 ∨ kd = 15 ∨ kd = 16 ∨ kd = 17 ∨ kd = 18 ∨ kd = 19 ∨ kd = 20 ∨ kd = 21 ∨ kd = 22 ∨ kd = 23 ∨ kd = 24 ∨ kd = 25 ∨ kd = 26 ∨ kd = 27 ∨ kd = 28 ∨ kd = 29 ∨ kd = 30 ∨ kd = 31 ∨ kd = 32 := by omega
 rcases hk with rfl | rfl | rfl | rfl | rfl | rfl | rfl | rfl | rfl | rfl | rfl | rfl | rfl | rfl | rfl | rfl | rfl | rfl | rfl | rfl | rfl | rfl | rfl | rfl | rfl | rfl | rfl | rfl | rfl | rfl
 ·
  have hg : Eu tx = true := ht
  have h14 : a5w ks := a5t (P := [3].contains) (fun k => c14 (by decide)) ha
  have h1 := (Cn (w := [114, 101, 99]) (by decide)).sub (Pf hg)
  have h2 := (h1.lit (Gj (c := 32) (by simp) (Tg n hp h14)) (by decide)).weak true
  refine ⟨?_, Cz (c := 114) (by decide)⟩
  show Lx true ([114, 101, 99, 32] ++ tx ++ [32] ++ lines n ks) ([wd [114, 101, 99], bgT tx] ++ P6 ts)
  simpa using h2
 ·
  have hg : Dv tx = true := ht
  obtain ⟨x, rfl, hx⟩ := jx1 (P := Dd) ha
  obtain ⟨x', rfl, px⟩ := Gh hp
  have h1 := ((((Oe hg).lit K3 (by decide)).sub (px.2 (t14 hx))).lit Il (by decide)).weak true
  refine ⟨?_, ((Ob hg).app _).app _ |>.app _⟩
  show Lx true (tx ++ [58, 32] ++ x.2 ++ [59]) ([nmT tx, sg [58]] ++ x'.2 ++ [sg [59]])
  simpa using h1
 ·
  have hg : Dv tx = true := ht
  have hA : Jd num [5].contains (Al [Ip, [6].contains]) (ks.map fun x => x.1.kind) = true := ha
  rw [Jd, Bool.and_eq_true, Bool.and_eq_true, decide_eq_true_eq] at hA
  obtain ⟨h1, h2, h3⟩ := hA
  rw [← List.map_take] at h2
  rw [← List.map_drop] at h3
  obtain ⟨r, b, hrb, er, eb⟩ := jx2 h3
  have hps : ks = ks.take num.toNat ++ [r, b] := by rw [← hrb, List.take_append_drop]
  have hlen : (ks.take num.toNat).length = num.toNat := by
   have h4 : (ks.drop num.toNat).length = 2 := by rw [hrb]; rfl
   rw [List.length_drop] at h4
   rw [List.length_take]; omega
  obtain ⟨ps, hps2⟩ : ∃ ps, ks.take num.toNat = ps := ⟨_, rfl⟩
  rw [hps2] at hps hlen h2
  obtain ⟨us, vs, rfl, q1, q2⟩ := Yz (by rw [← hps]; exact hp)
  obtain ⟨r', b', rfl, pr, pb⟩ := Hc q2
  have hul : us.length = num.toNat := by rw [← Yy q1, hlen]
  have eb' : b.1.kind ≠ 14 := by
   have : b.1.kind = 6 := by simpa using eb
   omega
  have k1 : kth (ps ++ [r, b]) num.toNat = r := by rw [kth, ← hlen, List.getD_eq_getElem?_getD, List.getElem?_append_right (Nat.le_refl _)]; simp
  have k2 : kth (ps ++ [r, b]) (num.toNat + 1) = b := by rw [kth, ← hlen, List.getD_eq_getElem?_getD, List.getElem?_append_right (by omega)]; simp
  have k3 : G1 (us ++ [r', b']) num.toNat = r' := by rw [G1, ← hul, List.getD_eq_getElem?_getD, List.getElem?_append_right (Nat.le_refl _)]; simp
  have k4 : G1 (us ++ [r', b']) (num.toNat + 1) = b' := by rw [G1, ← hul, List.getD_eq_getElem?_getD, List.getElem?_append_right (by omega)]; simp
  have k5 : (us ++ [r', b']).take num.toNat = us := by rw [← hul, List.take_left]
  have h14 : a5w ps := a5t (P := [5].contains) (fun k => c14 (by decide)) h2
  have g1 := (Cn (w := [102, 110]) (by decide)).sub (Ks hg)
  have g2 := g1.lit (Of q1 h14) (by decide)
  refine ⟨?_, Cz (c := 102) (by decide)⟩
  show Lx true ([102, 110, 32] ++ tx ++ [40] ++ Cm (ks.take num.toNat) ++ [41] ++ (if (kth ks num.toNat).1.kind = 14 then [] else [58, 32] ++ (kth ks num.toNat).2) ++ [32] ++ (kth ks (num.toNat + 1)).2)
   ([wd [102, 110], nmT tx, sg [40]] ++ Av ((us ++ [r', b']).take num.toNat) ++ [sg [41]] ++ (if (G1 (us ++ [r', b']) num.toNat).1.kind = 14 then [] else [sg [58]] ++ (G1 (us ++ [r', b']) num.toNat).2) ++ (G1 (us ++ [r', b']) (num.toNat + 1)).2)
  rw [hps2, hps, k1, k2, k3, k4, k5, ← pr.1]
  by_cases hr : r.1.kind = 14
  ·rw [if_pos hr, if_pos hr]
   have g3 := (g2.lit (bl false) (by decide)).sub (pb.2 eb')
   simpa using g3
  ·rw [if_neg hr, if_neg hr]
   have g3 := (((g2.lit K3 (by decide)).sub (pr.2 hr)).lit (bl false) (by decide)).sub (pb.2 eb')
   simpa using g3
 ·
  have hg : Dv tx = true := ht
  obtain ⟨x, rfl, hx⟩ := jx1 (P := Dd) ha
  obtain ⟨x', rfl, px⟩ := Gh hp
  have h1 := ((Oe hg).lit K3 (by decide)).sub (px.2 (t14 hx))
  refine ⟨?_, ((Ob hg).app _).app _⟩
  show Lx true (tx ++ [58, 32] ++ x.2) ([nmT tx, sg [58]] ++ x'.2)
  simpa using h1
 ·
  have h14 : a5w ks := a5t (P := F5) (fun k h => by rw [F5, decide_eq_true_eq] at h; omega) ha
  exact ⟨(Tg n hp h14).weak true, Cz (c := 123) (by decide)⟩
 ·
  have hg : Dv tx = true := ht
  obtain ⟨x, y, rfl, hx, hy⟩ := jx2 (P := Dd) (Q := Ak) ha
  obtain ⟨x', y', rfl, px, py⟩ := Hc hp
  have h1 := (Cn (w := [118, 97, 114]) (by decide)).sub (Ks hg)
  have h2 := (h1.lit K3 (by decide)).sub (px.2 (t14 hx))
  have h3 := ((h2.lit b29 (by decide)).sub (py.2 (e14 hy))).lit Il (by decide)
  refine ⟨?_, Cz (c := 118) (by decide)⟩
  show Lx true ([118, 97, 114, 32] ++ tx ++ [58, 32] ++ x.2 ++ [32, 61, 32] ++ y.2 ++ [59]) ([wd [118, 97, 114], nmT tx, sg [58]] ++ x'.2 ++ [sg [61]] ++ y'.2 ++ [sg [59]])
  simpa using h3.weak true
 ·
  obtain ⟨x, y, rfl, hx, hy⟩ := jx2 (P := [26, 28, 29].contains) (Q := Ak) ha
  obtain ⟨x', y', rfl, px, py⟩ := Hc hp
  have sx := px.2 (c14 (by decide) hx)
  have h3 := ((sx.1.lit b29 (by decide)).sub (py.2 (e14 hy))).lit Il (by decide)
  refine ⟨?_, ((sx.2.app _).app _).app _⟩
  show Lx true (x.2 ++ [32, 61, 32] ++ y.2 ++ [59]) (x'.2 ++ [sg [61]] ++ y'.2 ++ [sg [59]])
  simpa using h3.weak true
 ·
  have hA : (Al [Ak, [6].contains] (ks.map fun x => x.1.kind) || Al [Ak, [6].contains, [6].contains] (ks.map fun x => x.1.kind)) = true := ha
  rw [Bool.or_eq_true] at hA
  rcases hA with hA | hA
  ·obtain ⟨x, y, rfl, hx, hy⟩ := jx2 hA
   obtain ⟨x', y', rfl, px, py⟩ := Hc hp
   have h1 := (Cn (w := [105, 102]) (by decide)).sub (px.2 (e14 hx))
   have h2 := (h1.lit (bl false) (by decide)).sub (py.2 (c14 (by decide) hy))
   refine ⟨?_, Cz (c := 105) (by decide)⟩
   show Lx true ([105, 102, 32] ++ x.2 ++ [32] ++ y.2 ++ []) ([wd [105, 102]] ++ x'.2 ++ y'.2 ++ [])
   simpa using h2
  ·obtain ⟨x, y, z, rfl, hx, hy, hz⟩ := jx3 hA
   obtain ⟨x', y', z', rfl, px, py, pz⟩ := Yx hp
   have h1 := (Cn (w := [105, 102]) (by decide)).sub (px.2 (e14 hx))
   have h2 := (h1.lit (bl false) (by decide)).sub (py.2 (c14 (by decide) hy))
   have h3 := (h2.lit a80 (by decide)).sub (pz.2 (c14 (by decide) hz))
   refine ⟨?_, Cz (c := 105) (by decide)⟩
   show Lx true ([105, 102, 32] ++ x.2 ++ [32] ++ y.2 ++ ([32, 101, 108, 115, 101, 32] ++ z.2)) ([wd [105, 102]] ++ x'.2 ++ y'.2 ++ ([wd [101, 108, 115, 101]] ++ z'.2))
   simpa using h3
 ·
  obtain ⟨x, y, rfl, hx, hy⟩ := jx2 (P := Ak) (Q := [6].contains) ha
  obtain ⟨x', y', rfl, px, py⟩ := Hc hp
  have h1 := (Cn (w := [119, 104, 105, 108, 101]) (by decide)).sub (px.2 (e14 hx))
  have h2 := (h1.lit (bl false) (by decide)).sub (py.2 (c14 (by decide) hy))
  refine ⟨?_, Cz (c := 119) (by decide)⟩
  show Lx true ([119, 104, 105, 108, 101, 32] ++ x.2 ++ [32] ++ y.2) ([wd [119, 104, 105, 108, 101]] ++ x'.2 ++ y'.2)
  simpa using h2
 ·
  have hA : (Al [] (ks.map fun x => x.1.kind) || Al [Ak] (ks.map fun x => x.1.kind)) = true := ha
  rw [Bool.or_eq_true] at hA
  rcases hA with hA | hA
  ·have hl := C9 hA
   rw [List.length_map] at hl
   obtain rfl := List.eq_nil_of_length_eq_zero hl
   match ts, hp with
   | [], _ =>
    have h1 := ((R1 (w := [114, 101, 116, 117, 114, 110]) (by decide)).lit Il (by decide)).weak true
    exact ⟨h1, Cz (c := 114) (by decide)⟩
  ·obtain ⟨x, rfl, hx⟩ := jx1 hA
   obtain ⟨x', rfl, px⟩ := Gh hp
   have h1 := ((Cn (w := [114, 101, 116, 117, 114, 110]) (by decide)).sub (px.2 (e14 hx))).lit Il (by decide)
   refine ⟨?_, Cz (c := 114) (by decide)⟩
   show Lx true ([114, 101, 116, 117, 114, 110] ++ ([32] ++ x.2) ++ [59]) ([wd [114, 101, 116, 117, 114, 110]] ++ x'.2 ++ [sg [59]])
   simpa using h1.weak true
 ·
  obtain ⟨x, rfl, hx⟩ := jx1 (P := Ak) ha
  obtain ⟨x', rfl, px⟩ := Gh hp
  have h1 := ((Cn (w := [112, 114, 105, 110, 116]) (by decide)).sub (px.2 (e14 hx))).lit Il (by decide)
  refine ⟨?_, Cz (c := 112) (by decide)⟩
  show Lx true ([112, 114, 105, 110, 116, 32] ++ x.2 ++ [59]) ([wd [112, 114, 105, 110, 116]] ++ x'.2 ++ [sg [59]])
  simpa using h1.weak true
 ·
  obtain ⟨x, rfl, hx⟩ := jx1 (P := [27].contains) ha
  obtain ⟨x', rfl, px⟩ := Gh hp
  have sx := px.2 (c14 (by decide) hx)
  have h1 := sx.1.lit Il (by decide)
  exact ⟨h1.weak true, sx.2.app _⟩
 ·exact Gf (w := [105, 110, 116]) (by decide) (Cz (c := 105) (by decide))
 ·exact Gf (w := [98, 111, 111, 108]) (by decide) (Cz (c := 98) (by decide))
 ·exact Gf (w := [115, 116, 114]) (by decide) (Cz (c := 115) (by decide))
 ·exact Gf (w := [99, 111, 109, 112]) (by decide) (Cz (c := 99) (by decide))
 ·exact Pf ht
 ·
  obtain ⟨x, rfl, hx⟩ := jx1 (P := Dd) ha
  obtain ⟨x', rfl, px⟩ := Gh hp
  have h1 := ((Bb (c := 91) (by decide)).sub (px.2 (t14 hx))).lit (Bb (c := 93) (by decide)) (by decide)
  exact ⟨h1.weak true, Cz (c := 91) (by decide)⟩
 ·
  have h0 : 0 ≤ num := by simpa [Cs] using hn
  have := b3a num.toNat (by omega)
  rw [show ((num.toNat : Nat) : Int) = num by omega] at this
  exact ⟨this, a6p _⟩
 ·
  have h0 : 0 ≤ num ∧ num < 8388608 := by simpa [Cs] using hn
  have := a81 num.toNat (by omega)
  rw [show ((num.toNat : Nat) : Int) = num by omega] at this
  exact ⟨this, (a6p _).app _⟩
 ·exact ⟨(b28 tx).weak true, Cz (c := 34) (by decide)⟩
 ·
  have h01 : num = 0 ∨ num = 1 := by simpa [Cs] using hn
  rcases h01 with rfl | rfl
  ·exact Gf (w := [102, 97, 108, 115, 101]) (by decide) (Cz (c := 102) (by decide))
  ·exact Gf (w := [116, 114, 117, 101]) (by decide) (Cz (c := 116) (by decide))
 ·exact Gf (w := [110, 105, 108]) (by decide) (Cz (c := 110) (by decide))
 ·exact Ks ht
 ·
  have hg : Dv tx = true := ht
  have h14 : a5w ks := a5t (P := Ak) (fun k => e14) ha
  have h1 := (Oe hg).lit (Of hp h14) (by decide)
  refine ⟨?_, ((Ob hg).app _).app _ |>.app _⟩
  show Lx true (tx ++ [40] ++ Cm ks ++ [41]) ([nmT tx, sg [40]] ++ Av ts ++ [sg [41]])
  simpa using h1.weak true
 ·
  obtain ⟨x, y, rfl, hx, hy⟩ := jx2 (P := Ak) (Q := Ak) ha
  obtain ⟨x', y', rfl, px, py⟩ := Hc hp
  have sx := px.brk (e14 hx) 8
  have h1 := ((sx.1.lit (Bb (c := 91) (by decide)) (by decide)).sub (py.2 (e14 hy))).lit (Bb (c := 93) (by decide)) (by decide)
  exact ⟨h1.weak true, ((sx.2.app _).app _).app _⟩
 ·
  have hg : Dv tx = true := ht
  obtain ⟨x, rfl, hx⟩ := jx1 (P := Ak) ha
  obtain ⟨x', rfl, px⟩ := Gh hp
  have sx := px.brk (e14 hx) 8
  have h1 := (sx.1.lit (Bb (c := 46) (by decide)) (by decide)).sub (Ks hg)
  refine ⟨?_, (sx.2.app _).app _⟩
  show Lx true (brk 8 x ++ [46] ++ tx) (Mv 8 x' ++ [sg [46], nmT tx])
  simpa using h1
 ·
  obtain ⟨x, rfl, hx⟩ := jx1 (P := Ak) ha
  obtain ⟨x', rfl, px⟩ := Gh hp
  obtain ⟨h1, c, r, h2⟩ := b18 (b16 hn (.inl rfl))
  have h3 := h1.sub (px.brk (e14 hx) 7)
  refine ⟨h3, Hd.app ?_ _⟩
  have h12 : num = 12 ∨ num = 13 := by simpa [Cs] using hn
  rcases h12 with rfl | rfl
  ·exact Cz (c := 45) (by decide)
  ·exact Cz (c := 33) (by decide)
 ·
  obtain ⟨x, y, rfl, hx, hy⟩ := jx2 (P := Ak) (Q := Ak) ha
  obtain ⟨x', y', rfl, px, py⟩ := Hc hp
  have sx := px.brk (e14 hx) (C6 (opS num).2)
  have sy := py.brk (e14 hy) ((opS num).2 + 1)
  have h0 : Lx false (32 :: ((opS num).1 ++ [32])) [sg (opS num).1] := b45 (b16 hn (.inr rfl))
  have h1 := (sx.1.lit h0 (by decide)).sub sy
  refine ⟨?_, (((sx.2.app _).app _).app _).app _⟩
  show Lx true (brk (C6 (opS num).2) x ++ [32] ++ (opS num).1 ++ [32] ++ brk ((opS num).2 + 1) y) (Mv (C6 (opS num).2) x' ++ [sg (opS num).1] ++ Mv ((opS num).2 + 1) y')
  simpa using h1
 ·
  have hA : (Al [[19].contains] (ks.map fun x => x.1.kind) || Al [[20].contains, Ak] (ks.map fun x => x.1.kind)) = true := ha
  have hw := Cn (w := [109, 97, 107, 101]) (by decide)
  rw [Bool.or_eq_true] at hA
  rcases hA with hA | hA
  ·obtain ⟨x, rfl, hx⟩ := jx1 hA
   obtain ⟨x', rfl, px⟩ := Gh hp
   have h1 := (hw.sub (px.2 (c14 (by decide) hx))).lit (Of (ks := []) (ts := []) trivial (fun z hz => by cases hz)) (by decide)
   refine ⟨?_, Cz (c := 109) (by decide)⟩
   show Lx true ([109, 97, 107, 101, 32] ++ x.2 ++ [40] ++ Cm [] ++ [41]) ([wd [109, 97, 107, 101]] ++ x'.2 ++ [sg [40]] ++ Av [] ++ [sg [41]])
   simpa using h1.weak true
  ·obtain ⟨x, y, rfl, hx, hy⟩ := jx2 hA
   obtain ⟨x', y', rfl, px, py⟩ := Hc hp
   have h1 := (hw.sub (px.2 (c14 (by decide) hx))).lit (Of (ks := [y]) (ts := [y']) ⟨py, trivial⟩ (fun z hz => by simp at hz; subst hz; exact e14 hy)) (by decide)
   refine ⟨?_, Cz (c := 109) (by decide)⟩
   show Lx true ([109, 97, 107, 101, 32] ++ x.2 ++ [40] ++ Cm [y] ++ [41]) ([wd [109, 97, 107, 101]] ++ x'.2 ++ [sg [40]] ++ Av [y'] ++ [sg [41]])
   simpa using h1.weak true
theorem Ri (n : Nat) (F : Fo) : (Ci n F).map (fun x => x.1.kind) = Bc F := by
 induction F with
 | nil => rfl
 | cons i k r _ ihr => simp [Ci, Bc, ihr]
theorem Zr {F : Fo} : ∀ n, Bd F = true → Kd F → (∀ x ∈ Cx F, 2 ≤ x.1.kind ∧ x.1.kind ≤ 32) → PrL (Ci n F) (tkF F) := by
 induction F with
 | nil => intro n _ _ _; trivial
 | cons i k r ihk ihr =>
  intro n h hn hk
  rw [Bd, Bool.and_eq_true, Bool.and_eq_true] at h
  have hg := h.1.1
  unfold De at hg
  rw [Bool.and_eq_true, Bool.and_eq_true] at hg
  have h1 := ihk (Cv n i) h.1.2 (fun x hx => hn x (by simp [Cx, hx])) (fun x hx => hk x (by simp [Cx, hx]))
  have h2 := ihr n h.2 (fun x hx => hn x (by simp [Cx, hx])) (fun x hx => hk x (by simp [Cx, hx]))
  have hki := hk (i, k) (by simp [Cx])
  exact ⟨⟨rfl, fun h14 => a8z n i _ _ hki.1 hki.2 h14 hg.1.1 hg.1.2 (hn (i, k) (by simp [Cx])) (by rw [Ri]; exact hg.2) h1⟩, h2⟩
end Go.Proofs.YtoaplbljflhheaaGreat
namespace Go.Proofs.YtoaplbljflhheaaGreat
def CG (o X : Out) (b : Prop) : Prop := (b ∧ o = X) ∨ (¬ b ∧ ∃ l k, o = .bad 6 l k)
theorem CG.bind {o X : Out} {F : Fo} {r : List Tok} {b c : Prop} {f : Fo → List Tok → Out} (h : CG o (.ok F r) b) (k : CG (f F r) X c) : CG (o.bind f) X (b ∧ c) := by
 rcases h with ⟨hb, rfl⟩ | ⟨hb, l, m, rfl⟩
 ·rcases k with ⟨hc, e⟩ | ⟨hc, l, m, e⟩
  ·exact .inl ⟨⟨hb, hc⟩, e⟩
  ·exact .inr ⟨fun h => hc h.2, l, m, e⟩
 ·exact .inr ⟨fun h => hb h.1, l, m, rfl⟩
theorem CG.imp {o X : Out} {b c : Prop} (h : CG o X b) (e : b ↔ c) : CG o X c := by rw [← e]; exact h
theorem CG.ok {X : Out} {b : Prop} (h : b) : CG X X b := .inl ⟨h, rfl⟩
theorem CG.to {o X Y : Out} {b : Prop} (h : CG o X b) (e : X = Y) : CG o Y b := e ▸ h
def dpB (m : Nat) (x : Inf × Nat) : Nat := if lvl x.1 < m then x.2 + 1 else x.2
def Km (ds : List (Inf × Nat)) (j : Nat) : Inf × Nat := ds.getD j (b4q, 0)
def Ni : List (Inf × Nat) → Nat
 | [] => 0
 | x :: l => max x.2 (Ni l)
def dpN (i : Inf) (ds : List (Inf × Nat)) : Nat := match i.kind with
 | 1 => Ni ds
 | 2 => 1 + Ni ds
 | 3 => (Km ds 0).2
 | 4 => max (1 + Ni (ds.take i.num.toNat)) (max (Km ds i.num.toNat).2 (Km ds (i.num.toNat + 1)).2)
 | 5 => (Km ds 0).2
 | 6 => 1 + Ni ds
 | 7 => max (Km ds 0).2 (Km ds 1).2
 | 8 => max (Km ds 0).2 (Km ds 1).2
 | 9 => max (Km ds 0).2 (max (Km ds 1).2 (Km ds 2).2)
 | 10 => max (Km ds 0).2 (Km ds 1).2
 | 11 => (Km ds 0).2
 | 12 => (Km ds 0).2
 | 13 => (Km ds 0).2
 | 20 => 1 + (Km ds 0).2
 | 27 => 1 + Ni ds
 | 28 => max (dpB 8 (Km ds 0)) (1 + (Km ds 1).2)
 | 29 => dpB 8 (Km ds 0)
 | 30 => 1 + dpB 7 (Km ds 0)
 | 31 => max (dpB (C6 (opS i.num).2) (Km ds 0)) (dpB ((opS i.num).2 + 1) (Km ds 1))
 | 32 => max (Km ds 0).2 (1 + (Km ds 1).2)
 | _ => 0
def dpF : Fo → List (Inf × Nat)
 | .nil => []
 | .cons i k r => (i, dpN i (dpF k)) :: dpF r
theorem fx1 {P : Nat → Bool} {k : Fo} (h : Al [P] (Bc k) = true) : ∃ i1 k1, k = .cons i1 k1 .nil ∧ P i1.kind = true := by
 have hl := C9 h
 match k, h, hl with
 | .cons i1 k1 .nil, h, _ => exact ⟨i1, k1, rfl, Cc h (i := 0) (by simp)⟩
theorem fx2 {P Q : Nat → Bool} {k : Fo} (h : Al [P, Q] (Bc k) = true) : ∃ i1 k1 i2 k2, k = .cons i1 k1 (.cons i2 k2 .nil) ∧ P i1.kind = true ∧ Q i2.kind = true := by
 have hl := C9 h
 match k, h, hl with
 | .cons i1 k1 (.cons i2 k2 .nil), h, _ => exact ⟨i1, k1, i2, k2, rfl, Cc h (i := 0) (by simp), Cc h (i := 1) (by simp)⟩
theorem fx0 {k : Fo} (h : Al [] (Bc k) = true) : k = .nil := by
 have hl := C9 h
 match k, hl with
 | .nil, _ => rfl
abbrev TK (i : Inf) (k : Fo) : List Tok := tkN i (tkF k)
abbrev BT (L : Nat) (i : Inf) (k : Fo) : List Tok := Mv L (i, TK i k)
abbrev DP (i : Inf) (k : Fo) : Nat := dpN i (dpF k)
abbrev BD (L : Nat) (i : Inf) (k : Fo) : Nat := dpB L (i, DP i k)
abbrev BE (i : Inf) (k : Fo) : Fo := .cons (Dw i) (Bk k) .nil
theorem Br (x y : List UInt8) (r : List Tok) : sees x (sg y :: r) = decide (y = x) := by simp [sees, H8, hd]
theorem X3 (x y : List UInt8) (r : List Tok) : sees x (wd y :: r) = decide (y = x) := by simp [sees, H8, hd]
theorem Ed {x : List UInt8} {t : Tok} {r : List Tok} (h : t.kind ≠ 6 ∧ t.kind ≠ 7) : sees x (t :: r) = false := by
 have h1 := h.1
 have h2 := h.2
 simp [sees, H8, hd, h1, h2]
theorem a7o (x : List UInt8) (d : Nat) (F : Fo) (r : List Tok) : ((take x d (sg x :: r)).bind fun G r' => .ok (F.app G) r') = .ok F r := by
 unfold take Gx
 rw [Br, decide_eq_true rfl, if_pos rfl]
 show Out.ok (F.app .nil) r = _
 rw [a1j]
theorem Mf {p : Pt} {d : Nat} {t : Tok} {T : List Tok} {X : Out} {D : Nat} (hd : d ≤ 40) (h : d < 40 → CG (p (d + 1) T) X (d + 1 + D ≤ 40)) : CG (By p d (t :: T)) X (d + 1 + D ≤ 40) := by
 unfold By
 by_cases h40 : d = 40
 ·rw [if_pos h40]
  exact .inr ⟨by omega, _, _, rfl⟩
 ·rw [if_neg h40]
  exact h (by omega)
theorem Fm {o c : List UInt8} {p : Pt} {d : Nat} {T r : List Tok} {F : Fo} {D : Nat} (hd : d ≤ 40) (h : d < 40 → CG (p (d + 1) (T ++ sg c :: r)) (.ok F (sg c :: r)) (d + 1 + D ≤ 40)) : CG (Ax o c p d (sg o :: (T ++ sg c :: r))) (.ok F r) (d + 1 + D ≤ 40) := by
 unfold Ax
 rw [Br, decide_eq_true rfl, if_pos rfl]
 unfold Lr
 have h1 : CG ((take c d (sg c :: r)).bind fun G r' => .ok (F.app G) r') (.ok F r) True := by
  rw [a7o]; exact CG.ok trivial
 exact ((Mf hd h).bind h1).imp (by simp)
theorem F8 {i : Inf} {k : Fo} (h : De i k = true) : D1 i.kind i.text = true ∧ Cs i.kind i.num = true ∧ Fk i.kind i.num (Bc k) = true := by
 unfold De at h
 rw [Bool.and_eq_true, Bool.and_eq_true] at h
 exact ⟨h.1.1, h.1.2, h.2⟩
theorem b3h : ∀ s i k, k.cnt < s → De i k = true → Bd k = true → 15 ≤ i.kind → i.kind ≤ 20 → ∀ n d r, (TK i k).length < n → d ≤ 40 → CG (Fd n d (TK i k ++ r)) (.ok (BE i k) r) (d + DP i k ≤ 40) := by
 intro s
 induction s with
 | zero => intro i k h; omega
 | succ s ih =>
  intro i k hs hg hG k1 k2 n d r hn hd
  obtain ⟨ht, hm, ha⟩ := F8 hg
  obtain ⟨n, rfl⟩ : ∃ m, n = m + 1 := ⟨n - 1, by omega⟩
  obtain ⟨kd, ln, cl, num, tx⟩ := i
  simp only at ht hm ha k1 k2
  have hk : kd = 15 ∨ kd = 16 ∨ kd = 17 ∨ kd = 18 ∨ kd = 19 ∨ kd = 20 := by omega
  rcases hk with rfl | rfl | rfl | rfl | rfl | rfl
  ·obtain rfl := fx0 (show Al [] (Bc k) = true from ha)
   obtain rfl : tx = [] := by simpa [D1] using ht
   obtain rfl : num = 0 := by simpa [Cs] using hm
   exact .inl ⟨by show d + 0 ≤ 40; omega, rfl⟩
  ·obtain rfl := fx0 (show Al [] (Bc k) = true from ha)
   obtain rfl : tx = [] := by simpa [D1] using ht
   obtain rfl : num = 0 := by simpa [Cs] using hm
   exact .inl ⟨by show d + 0 ≤ 40; omega, rfl⟩
  ·obtain rfl := fx0 (show Al [] (Bc k) = true from ha)
   obtain rfl : tx = [] := by simpa [D1] using ht
   obtain rfl : num = 0 := by simpa [Cs] using hm
   exact .inl ⟨by show d + 0 ≤ 40; omega, rfl⟩
  ·obtain rfl := fx0 (show Al [] (Bc k) = true from ha)
   obtain rfl : tx = [] := by simpa [D1] using ht
   obtain rfl : num = 0 := by simpa [Cs] using hm
   exact .inl ⟨by show d + 0 ≤ 40; omega, rfl⟩
  ·obtain rfl := fx0 (show Al [] (Bc k) = true from ha)
   obtain rfl : num = 0 := by simpa [Cs] using hm
   refine .inl ⟨by show d + 0 ≤ 40; omega, ?_⟩
   show L5 [91] (Az (Fd n)) Am d (bgT tx :: r) = _
   unfold L5
   rw [Ed ⟨by show (2 : Nat) ≠ 6; decide, by show (2 : Nat) ≠ 7; decide⟩, if_neg (by simp)]
   rfl
  ·obtain ⟨i1, k1', rfl, hx⟩ := fx1 (P := Dd) ha
   obtain rfl : tx = [] := by simpa [D1] using ht
   obtain rfl : num = 0 := by simpa [Cs] using hm
   rw [Dd, decide_eq_true_eq] at hx
   rw [Bd, Bool.and_eq_true, Bool.and_eq_true] at hG
   have e : TK ⟨20, ln, cl, 0, []⟩ (.cons i1 k1' .nil) ++ r = sg [91] :: (TK i1 k1' ++ sg [93] :: r) := by
    show [sg [91]] ++ TK i1 k1' ++ [sg [93]] ++ r = _
    simp
   have hl : (TK ⟨20, ln, cl, 0, []⟩ (.cons i1 k1' .nil)).length = (TK i1 k1').length + 2 := by
    show ([sg [91]] ++ TK i1 k1' ++ [sg [93]]).length = _
    simp
   rw [hl] at hn
   rw [e]
   have hw := Fm (o := [91]) (c := [93]) (p := Fd n) (d := d) (T := TK i1 k1') (r := r) (F := BE i1 k1') (D := DP i1 k1') hd (fun hlt => ih i1 k1' (by simp [Fo.cnt] at hs; omega) hG.1.1 hG.1.2 hx.1 hx.2 n (d + 1) _ (by omega) (by omega))
   show CG (L5 [91] (Az (Fd n)) Am d _) _ _
   unfold L5
   rw [Br, decide_eq_true rfl, if_pos rfl]
   unfold Az Dm
   refine ((hw.bind (X := .ok (BE ⟨20, ln, cl, 0, []⟩ (.cons i1 k1' .nil)) r) (c := True) (CG.ok trivial))).imp ?_
   show d + 1 + DP i1 k1' ≤ 40 ∧ True ↔ d + (1 + DP i1 k1') ≤ 40
   rw [and_true]
   omega
end Go.Proofs.YtoaplbljflhheaaGreat
namespace Go.Proofs.YtoaplbljflhheaaGreat
def Sg (L : Nat) : List (List UInt8) := match L with
 | 1 => [[124, 124]]
 | 2 => [[38, 38]]
 | 3 => [[61, 61], [33, 61]]
 | 4 => [[60], [60, 61], [62], [62, 61]]
 | 5 => [[43], [45]]
 | 6 => [[42], [47], [37]]
 | _ => []
def PL (n L : Nat) : Pt := match L with
 | 1 => orP (unP n) n
 | 2 => b4v (unP n) n
 | 3 => Tr (unP n) n
 | 4 => a31 (unP n) n
 | 5 => b4n (unP n) n
 | 6 => a2b (unP n) n
 | 7 => unP n
 | _ => Fv (Aw (n - 1)) n
def Stp (L : Nat) (r : List Tok) : Prop := ∀ l, L ≤ l → l ≤ 6 → anyS (Sg l) r = false
def Po (r : List Tok) : Prop := sees [91] r = false ∧ sees [46] r = false ∧ sees [40] r = false
theorem Stp.mono {L L' : Nat} {r : List Tok} (h : Stp L r) (hl : L ≤ L') : Stp L' r := fun l h1 h2 => h l (by omega) h2
theorem Ub (S : List (List UInt8)) (x : List UInt8) (r : List Tok) : anyS S (sg x :: r) = decide (x ∈ S) := by
 unfold anyS
 rw [Bool.eq_iff_iff]
 simp [Br]
theorem Lo {x : List UInt8} (h : (List.range 7).all (fun l => decide (x ∉ Sg l)) = true) (r : List Tok) (L : Nat) : Stp L (sg x :: r) := fun l _ h2 => by
 rw [Ub, decide_eq_false_iff_not]
 have := List.all_eq_true.1 h l (List.mem_range.2 (by omega))
 simpa using this
theorem Rr {x : List UInt8} (h : x ≠ [91] ∧ x ≠ [46] ∧ x ≠ [40]) (r : List Tok) : Po (sg x :: r) := by
 refine ⟨?_, ?_, ?_⟩ <;> rw [Br, decide_eq_false_iff_not]
 ·exact h.1
 ·exact h.2.1
 ·exact h.2.2
theorem a3b {n : Int} (h : Cs 31 n = true) : 1 ≤ (opS n).2 ∧ (opS n).2 ≤ 6 ∧ (opS n).1 ∈ Sg (opS n).2 ∧ Hh (opS n).1 = n ∧ ((opS n).1 ≠ [91] ∧ (opS n).1 ≠ [46] ∧ (opS n).1 ≠ [40]) ∧ ∀ r, Stp ((opS n).2 + 1) (sg (opS n).1 :: r) := by
 simp [Cs] at h
 have : n = 1 ∨ n = 2 ∨ n = 3 ∨ n = 4 ∨ n = 5 ∨ n = 6 ∨ n = 7 ∨ n = 8 ∨ n = 9 ∨ n = 10 ∨ n = 11 ∨ n = 14 ∨ n = 15 := by omega
 have K : ∀ (x : List UInt8) (L : Nat), (List.range 7).all (fun l => decide (l ≤ L) || decide (x ∉ Sg l)) = true → ∀ r, Stp (L + 1) (sg x :: r) := fun x L hh r l h1 h2 => by
  rw [Ub, decide_eq_false_iff_not]
  have := List.all_eq_true.1 hh l (List.mem_range.2 (by omega))
  rw [Bool.or_eq_true, decide_eq_true_eq, decide_eq_true_eq] at this
  rcases this with h | h
  ·omega
  ·exact h
 rcases this with rfl | rfl | rfl | rfl | rfl | rfl | rfl | rfl | rfl | rfl | rfl | rfl | rfl <;> exact ⟨by decide, by decide, by decide, by decide, by decide, K _ _ (by decide)⟩
theorem Ml {p : Pt} {S : List (List UInt8)} {n d : Nat} {F : Fo} {r : List Tok} (hn : 1 ≤ n) (h : anyS S r = false) : B9 p S n F d r = .ok F r := by
 obtain ⟨m, rfl⟩ : ∃ m, n = m + 1 := ⟨n - 1, by omega⟩
 unfold B9
 rw [h]; rfl
theorem b5e {n L d : Nat} {ts r : List Tok} {F : Fo} {b : Prop} (hn : 1 ≤ n) (h1 : 1 ≤ L) (h6 : L ≤ 6) (h : CG (PL n (L + 1) d ts) (.ok F r) b) (hs : anyS (Sg L) r = false) : CG (PL n L d ts) (.ok F r) b := by
 have hc : L = 1 ∨ L = 2 ∨ L = 3 ∨ L = 4 ∨ L = 5 ∨ L = 6 := by omega
 have K : ∀ p, CG (p d ts) (.ok F r) b → CG (Ce p (Sg L) n d ts) (.ok F r) b := fun p hp => by
  unfold Ce
  exact (hp.bind (X := .ok F r) (c := True) (by rw [Ml hn hs]; exact CG.ok trivial)).imp (by simp)
 have K2 : ∀ p, CG (p d ts) (.ok F r) b → CG (Hf p (Sg L) d ts) (.ok F r) b := fun p hp => by
  unfold Hf
  exact (hp.bind (X := .ok F r) (c := True) (by rw [hs]; exact CG.ok trivial)).imp (by simp)
 rcases hc with rfl | rfl | rfl | rfl | rfl | rfl
 ·exact K _ h
 ·exact K _ h
 ·exact K2 _ h
 ·exact K2 _ h
 ·exact K _ h
 ·exact K _ h
theorem a4z {n d : Nat} {ts r : List Tok} {F : Fo} {b : Prop} (hn : 1 ≤ n) (j : Nat) : ∀ {L a : Nat}, a = L + j → 1 ≤ L → a ≤ 7 → CG (PL n a d ts) (.ok F r) b → Stp L r → CG (PL n L d ts) (.ok F r) b := by
 induction j with
 | zero => intro L a ha _ _ h _; rw [ha] at h; exact h
 | succ j ih =>
  intro L a ha h1 h7 h hs
  exact b5e hn h1 (by omega) (ih (L := L + 1) (by omega) (by omega) h7 h (hs.mono (by omega))) (hs L (Nat.le_refl _) (by omega))
theorem b3s {n d : Nat} {ts r : List Tok} {F : Fo} {b : Prop} (hn : 1 ≤ n) (h : CG (PL n 8 d ts) (.ok F r) b) (h1 : sees [45] ts = false) (h2 : sees [33] ts = false) : CG (PL n 7 d ts) (.ok F r) b := by
 obtain ⟨m, rfl⟩ : ∃ m, n = m + 1 := ⟨n - 1, by omega⟩
 show CG (unP (m + 1) d ts) _ _
 rw [Nv]
 unfold Cq
 rw [h1, h2]
 exact h
theorem Nc {E : Pt} {n d : Nat} {F : Fo} {r : List Tok} (hn : 1 ≤ n) (h : Po r) : Cr E n F d r = .ok F r := by
 obtain ⟨m, rfl⟩ : ∃ m, n = m + 1 := ⟨n - 1, by omega⟩
 unfold Cr
 rw [h.1, h.2.1]
 rfl
structure Cl (i : Inf) (k : Fo) : Prop where
 A : ∀ L n d r, 1 ≤ L → L ≤ 8 → (BT L i k).length < n → d ≤ 40 → Stp L r → Po r → CG (PL n L d (BT L i k ++ r)) (.ok (BE i k) r) (d + BD L i k ≤ 40)
 B : ∀ L n d r, L = 1 ∨ L = 2 ∨ L = 5 ∨ L = 6 → (BT L i k).length < n → d ≤ 40 → Stp (L + 1) r → Po r → ∃ n1, n ≤ n1 + (BT L i k).length ∧ CG (Ce (PL n (L + 1)) (Sg L) n d (BT L i k ++ r)) (B9 (PL n (L + 1)) (Sg L) n1 (BE i k) d r) (d + BD L i k ≤ 40)
 C : ∀ n d r, (BT 8 i k).length < n → d ≤ 40 → sees [40] r = false → ∃ n1, n ≤ n1 + (BT 8 i k).length ∧ CG (Fv (Aw (n - 1)) n d (BT 8 i k ++ r)) (Cr (Aw (n - 1)) n1 (BE i k) d r) (d + BD 8 i k ≤ 40)
 H : 7 < lvl i → ∀ r, sees [45] (TK i k ++ r) = false ∧ sees [33] (TK i k ++ r) = false
theorem Jj {L : Nat} {i : Inf} {k : Fo} (h : lvl i < L) : BT L i k = sg [40] :: (TK i k ++ [sg [41]]) := by
 show Mv L (i, TK i k) = _
 unfold Mv; rw [if_pos h]
theorem Ew {L : Nat} {i : Inf} {k : Fo} (h : ¬ lvl i < L) : BT L i k = TK i k := by
 show Mv L (i, TK i k) = _
 unfold Mv; rw [if_neg h]
theorem Jl {L : Nat} {i : Inf} {k : Fo} (h : lvl i < L) : BD L i k = DP i k + 1 := by
 show dpB L (i, DP i k) = _
 unfold dpB; rw [if_pos h]
theorem Cd {L : Nat} {i : Inf} {k : Fo} (h : ¬ lvl i < L) : BD L i k = DP i k := by
 show dpB L (i, DP i k) = _
 unfold dpB; rw [if_neg h]
theorem Oz {i : Inf} {k : Fo} (hl : 1 ≤ lvl i ∧ lvl i ≤ 8)
  (own : ∀ L n d r, 1 ≤ L → L ≤ lvl i → (TK i k).length < n → d ≤ 40 → Stp L r → Po r → CG (PL n L d (TK i k ++ r)) (.ok (BE i k) r) (d + DP i k ≤ 40))
  (chn : ∀ n d r, lvl i = 1 ∨ lvl i = 2 ∨ lvl i = 5 ∨ lvl i = 6 → (TK i k).length < n → d ≤ 40 → Stp (lvl i + 1) r → Po r → ∃ n1, n ≤ n1 + (TK i k).length ∧ CG (Ce (PL n (lvl i + 1)) (Sg (lvl i)) n d (TK i k ++ r)) (B9 (PL n (lvl i + 1)) (Sg (lvl i)) n1 (BE i k) d r) (d + DP i k ≤ 40))
  (pst : lvl i = 8 → ∀ n d r, (TK i k).length < n → d ≤ 40 → sees [40] r = false → ∃ n1, n ≤ n1 + (TK i k).length ∧ CG (Fv (Aw (n - 1)) n d (TK i k ++ r)) (Cr (Aw (n - 1)) n1 (BE i k) d r) (d + DP i k ≤ 40))
  (hh : 7 < lvl i → ∀ r, sees [45] (TK i k ++ r) = false ∧ sees [33] (TK i k ++ r) = false) : Cl i k := by
 have hC : ∀ n d r, (BT 8 i k).length < n → d ≤ 40 → sees [40] r = false → ∃ n1, n ≤ n1 + (BT 8 i k).length ∧ CG (Fv (Aw (n - 1)) n d (BT 8 i k ++ r)) (Cr (Aw (n - 1)) n1 (BE i k) d r) (d + BD 8 i k ≤ 40) := by
  intro n d r hn hd hr
  by_cases h8 : lvl i < 8
  ·rw [Jj h8] at hn ⊢
   rw [Jl h8]
   simp only [List.length_cons, List.length_append, List.length_nil] at hn
   obtain ⟨m, rfl⟩ : ∃ m, n = m + 2 := ⟨n - 2, by omega⟩
   refine ⟨m + 2, by omega, ?_⟩
   have hw := Fm (o := [40]) (c := [41]) (p := Aw (m + 1)) (d := d) (T := TK i k) (r := r) (F := BE i k) (D := DP i k) hd (fun hlt => by
    rw [H6]
    exact own 1 (m + 1) (d + 1) _ (by decide) hl.1 (by omega) (by omega) (Lo (by decide) _ _) (Rr (by decide) _))
   unfold Fv
   have e : sg [40] :: (TK i k ++ [sg [41]]) ++ r = sg [40] :: (TK i k ++ sg [41] :: r) := by simp
   rw [e]
   have ha : Du (Aw (m + 1)) (m + 2) d (sg [40] :: (TK i k ++ sg [41] :: r)) = Ax [40] [41] (Aw (m + 1)) d (sg [40] :: (TK i k ++ sg [41] :: r)) := by
    unfold Du
    rw [Br, decide_eq_true rfl, if_pos rfl]
   show CG ((Du (Aw (m + 1)) (m + 2) d (sg [40] :: (TK i k ++ sg [41] :: r))).bind _) _ _
   rw [ha]
   exact (hw.bind (c := True) (CG.ok trivial)).imp (by rw [and_true]; omega)
  ·rw [Ew h8] at hn ⊢
   rw [Cd h8]
   exact pst (by omega) n d r hn hd hr
 have hA : ∀ L n d r, 1 ≤ L → L ≤ 8 → (BT L i k).length < n → d ≤ 40 → Stp L r → Po r → CG (PL n L d (BT L i k ++ r)) (.ok (BE i k) r) (d + BD L i k ≤ 40) := by
  intro L n d r h1 h8 hn hd hs hp
  by_cases hL : lvl i < L
  ·have h88 : lvl i < 8 := by omega
   have e1 : BT L i k = BT 8 i k := by rw [Jj hL, Jj h88]
   have e2 : BD L i k = BD 8 i k := by rw [Jl hL, Jl h88]
   rw [e1] at hn ⊢
   rw [e2]
   obtain ⟨n1, q1, q2⟩ := hC n d r hn hd hp.2.2
   rw [Nc (by omega) hp] at q2
   have q8 : CG (PL n 8 d (BT 8 i k ++ r)) (.ok (BE i k) r) (d + BD 8 i k ≤ 40) := q2
   by_cases hL8 : L = 8
   ·rw [hL8]; exact q8
   ·have q7 := b3s (by omega) q8 (by rw [Jj h88]; show sees [45] (sg [40] :: _) = false; rw [Br]; rfl) (by rw [Jj h88]; show sees [33] (sg [40] :: _) = false; rw [Br]; rfl)
    exact a4z (by omega) (7 - L) (by omega) h1 (Nat.le_refl _) q7 hs
  ·rw [Ew hL] at hn ⊢
   rw [Cd hL]
   exact own L n d r h1 (by omega) hn hd hs hp
 refine ⟨hA, fun L n d r hc hn hd hs hp => ?_, hC, hh⟩
 by_cases hL : lvl i = L
 ·rw [Ew (by omega)] at hn ⊢
  rw [Cd (by omega)]
  subst hL
  exact chn n d r hc hn hd hs hp
 ·have e1 : BT L i k = BT (L + 1) i k := by
   by_cases h : lvl i < L
   ·rw [Jj h, Jj (by omega)]
   ·rw [Ew h, Ew (by omega)]
  have e2 : BD L i k = BD (L + 1) i k := by
   by_cases h : lvl i < L
   ·rw [Jl h, Jl (by omega)]
   ·rw [Cd h, Cd (by omega)]
  rw [e1] at hn ⊢
  rw [e2]
  refine ⟨n, by omega, ?_⟩
  unfold Ce
  exact ((hA (L + 1) n d r (by omega) (by omega) hn hd hs hp).bind (c := True) (CG.ok trivial)).imp (by simp)
end Go.Proofs.YtoaplbljflhheaaGreat
namespace Go.Proofs.YtoaplbljflhheaaGreat
theorem a01 {i : Inf} {k : Fo} (h8 : lvl i = 8)
  (pst : ∀ n d r, (TK i k).length < n → d ≤ 40 → sees [40] r = false → ∃ n1, n ≤ n1 + (TK i k).length ∧ CG (Fv (Aw (n - 1)) n d (TK i k ++ r)) (Cr (Aw (n - 1)) n1 (BE i k) d r) (d + DP i k ≤ 40))
  (hh : ∀ r, sees [45] (TK i k ++ r) = false ∧ sees [33] (TK i k ++ r) = false) : Cl i k :=
 Oz (by omega) (fun L n d r h1 hL hn hd hs hp => by
  obtain ⟨n1, q1, q2⟩ := pst n d r hn hd hp.2.2
  rw [Nc (by omega) hp] at q2
  have q8 : CG (PL n 8 d (TK i k ++ r)) (.ok (BE i k) r) (d + DP i k ≤ 40) := q2
  by_cases hL8 : L = 8
  ·rw [hL8]; exact q8
  ·exact a4z (by omega) (7 - L) (by omega) h1 (Nat.le_refl _) (b3s (by omega) q8 (hh r).1 (hh r).2) hs) (fun n d r hc => by omega) (fun _ => pst) (fun _ => hh)
theorem Cp {i : Inf} {k : Fo} (h8 : lvl i = 8)
  (atm : ∀ n d r, (TK i k).length < n → d ≤ 40 → sees [40] r = false → CG (Du (Aw (n - 1)) n d (TK i k ++ r)) (.ok (BE i k) r) (d + DP i k ≤ 40))
  (hh : ∀ r, sees [45] (TK i k ++ r) = false ∧ sees [33] (TK i k ++ r) = false) : Cl i k :=
 a01 h8 (fun n d r hn hd hr => ⟨n, by omega, by
  unfold Fv
  exact ((atm n d r hn hd hr).bind (c := True) (CG.ok trivial)).imp (by simp)⟩) hh
theorem Ek {E : Pt} {n d : Nat} {t : Tok} {r : List Tok} (h40 : sees [40] (t :: r) = false) (hm : sees [109, 97, 107, 101] (t :: r) = false) (h1 : t.kind ≠ 1) : Du E n d (t :: r) = Eb d (t :: r) := by
 unfold Du
 rw [h40, hm, if_neg (by simp), if_neg (by simp)]
 exact if_neg h1
def a1t : Fo → Prop
 | .nil => True
 | .cons i k r => (Cl i k ∧ 1 ≤ lvl i) ∧ a1t r
theorem Mh (i : Inf) (k r : Fo) : Av (tkF (.cons i k r)) = TK i k ++ (match r with | .nil => [] | r => sg [44] :: Av (tkF r)) := by
 cases r with
 | nil => simp [tkF, Av]
 | cons i2 k2 r2 => simp [tkF, Av]
theorem b3i {m : Nat} (hm : 1 ≤ m) : ∀ (k : Fo), k ≠ .nil → a1t k → ∀ n d r, (Av (tkF k)).length < n → (Av (tkF k)).length < m → d ≤ 40 → CG (F0 (Aw m) n d (Av (tkF k) ++ sg [41] :: r)) (.ok (Bk k) (sg [41] :: r)) (d + Ni (dpF k) ≤ 40) := by
 intro k
 induction k with
 | nil => intro h; exact absurd rfl h
 | cons i k r _ ihr =>
  intro _ hA n d q hn hnm hd
  obtain ⟨n, rfl⟩ : ∃ n', n = n' + 1 := ⟨n - 1, by omega⟩
  obtain ⟨m, rfl⟩ : ∃ m', m = m' + 1 := ⟨m - 1, by omega⟩
  have e1 : BT 1 i k = TK i k := Ew (by have := hA.1.2; omega)
  have e2 : BD 1 i k = DP i k := Cd (by have := hA.1.2; omega)
  rw [Mh] at hn hnm ⊢
  unfold F0
  rw [H6]
  cases r with
  | nil =>
   simp only [List.append_nil] at hn hnm ⊢
   have h1 := hA.1.1.A 1 (m + 1) d (sg [41] :: q) (by decide) (by decide) (by rw [e1]; exact hnm) hd (Lo (by decide) _ _) (Rr (by decide) _)
   rw [e1, e2] at h1
   have h1 : CG (orP (unP (m + 1)) (m + 1) d (TK i k ++ sg [41] :: q)) _ _ := h1
   refine (h1.bind (c := True) (X := .ok (Bk (.cons i k .nil)) (sg [41] :: q)) ?_).imp ?_
   ·rw [Br]
    exact CG.ok trivial
   ·show d + DP i k ≤ 40 ∧ True ↔ d + max (DP i k) 0 ≤ 40
    simp
  | cons i2 k2 r2 =>
   simp only [List.length_append, List.length_cons] at hn hnm
   have h1 := hA.1.1.A 1 (m + 1) d (sg [44] :: (Av (tkF (.cons i2 k2 r2)) ++ sg [41] :: q)) (by decide) (by decide) (by rw [e1]; omega) hd (Lo (by decide) _ _) (Rr (by decide) _)
   rw [e1, e2] at h1
   have h1 : CG (orP (unP (m + 1)) (m + 1) d (TK i k ++ sg [44] :: (Av (tkF (.cons i2 k2 r2)) ++ sg [41] :: q))) _ _ := h1
   have h2 := ihr (by simp) hA.2 n d q (by omega) (by omega) hd
   rw [H6] at h2
   have e3 : TK i k ++ sg [44] :: Av (tkF (.cons i2 k2 r2)) ++ sg [41] :: q = TK i k ++ sg [44] :: (Av (tkF (.cons i2 k2 r2)) ++ sg [41] :: q) := by simp
   rw [e3]
   refine (h1.bind (c := d + Ni (dpF (.cons i2 k2 r2)) ≤ 40) (X := .ok (Bk (.cons i k (.cons i2 k2 r2))) (sg [41] :: q)) ?_).imp ?_
   ·rw [Br, decide_eq_true rfl, if_pos rfl]
    exact (h2.bind (c := True) (X := .ok (Bk (.cons i k (.cons i2 k2 r2))) (sg [41] :: q)) (CG.ok trivial)).imp (by simp)
   ·show d + DP i k ≤ 40 ∧ d + Ni (dpF (.cons i2 k2 r2)) ≤ 40 ↔ d + max (DP i k) (Ni (dpF (.cons i2 k2 r2))) ≤ 40
    omega
theorem a6v {P : Nat → Bool} (hP : ∀ k, P k = true → Ak k = true) : ∀ (k : Fo), (Bc k).all P = true → Bd k = true → (∀ i1 k1, k1.cnt < k.cnt → De i1 k1 = true → Bd k1 = true → 21 ≤ i1.kind → i1.kind ≤ 32 → Cl i1 k1 ∧ 1 ≤ lvl i1) → a1t k
 | .nil, _, _, _ => trivial
 | .cons i k r, h, hg, ih => by
  rw [Bd, Bool.and_eq_true, Bool.and_eq_true] at hg
  rw [Bc, List.all_cons, Bool.and_eq_true] at h
  have hk := hP _ h.1
  rw [Ak, decide_eq_true_eq] at hk
  exact ⟨ih i k (by simp [Fo.cnt]; omega) hg.1.1 hg.1.2 hk.1 hk.2, a6v hP r h.2 hg.2 (fun i1 k1 h1 => ih i1 k1 (by simp [Fo.cnt]; omega))⟩
theorem b3j {m : Nat} (hm : 1 ≤ m) (k : Fo) (hA : a1t k) (hne : k ≠ .nil → ∃ t T, Av (tkF k) = t :: T ∧ H8 [41] t = false) (n d : Nat) (r : List Tok) (hn : (Av (tkF k)).length < n) (hnm : (Av (tkF k)).length < m) (hd : d ≤ 40) :
  CG (Ax [40] [41] (Dn (Aw m) n) d (sg [40] :: (Av (tkF k) ++ sg [41] :: r))) (.ok (Bk k) r) (d + 1 + Ni (dpF k) ≤ 40) := by
 refine Fm hd fun hlt => ?_
 unfold Dn L5
 by_cases h0 : k = .nil
 ·subst h0
  show CG (if sees [41] (sg [41] :: r) = true then _ else _) _ _
  rw [Br, decide_eq_true rfl, if_pos rfl]
  exact CG.ok (by show d + 1 + 0 ≤ 40; omega)
 ·obtain ⟨t, T, h1, h2⟩ := hne h0
  have hs : sees [41] (Av (tkF k) ++ sg [41] :: r) = false := by rw [h1]; exact h2
  rw [hs, if_neg (by simp)]
  exact b3i hm k h0 hA n (d + 1) r hn hnm (by omega)
theorem a0m (i : Inf) (ts : List TT) (h : 21 ≤ i.kind ∧ i.kind ≤ 32) (hm : Cs i.kind i.num = true) (hall : i.kind = 28 ∨ i.kind = 29 ∨ i.kind = 31 → ∃ x l, ts = x :: l ∧ ∃ t T, x.2 = t :: T ∧ H8 [41] t = false) : ∃ t T, tkN i ts = t :: T ∧ H8 [41] t = false := by
 have hb : ∀ m (x : TT), (∃ t T, x.2 = t :: T ∧ H8 [41] t = false) → ∃ t T, Mv m x = t :: T ∧ H8 [41] t = false := fun m x hx => by
  unfold Mv
  split
  ·exact ⟨_, _, rfl, by decide⟩
  ·exact hx
 obtain ⟨kd, ln, cl, num, tx⟩ := i
 simp only at h hm hall
 have hk : kd = 21 ∨ kd = 22 ∨ kd = 23 ∨ kd = 24 ∨ kd = 25 ∨ kd = 26 ∨ kd = 27 ∨ kd = 28 ∨ kd = 29 ∨ kd = 30 ∨ kd = 31 ∨ kd = 32 := by omega
 rcases hk with rfl | rfl | rfl | rfl | rfl | rfl | rfl | rfl | rfl | rfl | rfl | rfl
 ·exact ⟨_, _, rfl, rfl⟩
 ·exact ⟨_, _, rfl, rfl⟩
 ·exact ⟨_, _, rfl, rfl⟩
 ·have h01 : num = 0 ∨ num = 1 := by simpa [Cs] using hm
  rcases h01 with rfl | rfl <;> exact ⟨_, _, rfl, rfl⟩
 ·exact ⟨_, _, rfl, rfl⟩
 ·exact ⟨_, _, rfl, rfl⟩
 ·exact ⟨_, _, rfl, rfl⟩
 ·obtain ⟨x, l, rfl, hx⟩ := hall (by simp)
  obtain ⟨t, T, e, f⟩ := hb 8 x hx
  refine ⟨t, T ++ [sg [91]] ++ (G1 (x :: l) 1).2 ++ [sg [93]], ?_, f⟩
  show Mv 8 x ++ [sg [91]] ++ (G1 (x :: l) 1).2 ++ [sg [93]] = _
  rw [e]; simp
 ·obtain ⟨x, l, rfl, hx⟩ := hall (by simp)
  obtain ⟨t, T, e, f⟩ := hb 8 x hx
  refine ⟨t, T ++ [sg [46], nmT tx], ?_, f⟩
  show Mv 8 x ++ [sg [46], nmT tx] = _
  rw [e]; simp
 ·have h12 : num = 12 ∨ num = 13 := by simpa [Cs] using hm
  rcases h12 with rfl | rfl <;> exact ⟨_, _, rfl, rfl⟩
 ·obtain ⟨x, l, rfl, hx⟩ := hall (by simp)
  obtain ⟨t, T, e, f⟩ := hb (C6 (opS num).2) x hx
  refine ⟨t, T ++ [sg (opS num).1] ++ Mv ((opS num).2 + 1) (G1 (x :: l) 1), ?_, f⟩
  show Mv (C6 (opS num).2) x ++ [sg (opS num).1] ++ Mv ((opS num).2 + 1) (G1 (x :: l) 1) = _
  rw [e]; simp
 ·exact ⟨_, _, rfl, rfl⟩
theorem Oj : ∀ s i k, k.cnt < s → De i k = true → Bd k = true → 21 ≤ i.kind → i.kind ≤ 32 → ∃ t T, TK i k = t :: T ∧ H8 [41] t = false := by
 intro s
 induction s with
 | zero => intro i k h; omega
 | succ s ih =>
  intro i k hs hg hG k1 k2
  obtain ⟨ht, hm, ha⟩ := F8 hg
  refine a0m i (tkF k) ⟨k1, k2⟩ hm fun hk => ?_
  have hx : ∃ i1 k1' r, k = .cons i1 k1' r ∧ Ak i1.kind = true := by
   rcases hk with e | e | e
   ·rw [e] at ha
    obtain ⟨i1, k1', i2, k2', rfl, h1, _⟩ := fx2 (P := Ak) (Q := Ak) ha
    exact ⟨_, _, _, rfl, h1⟩
   ·rw [e] at ha
    obtain ⟨i1, k1', rfl, h1⟩ := fx1 (P := Ak) ha
    exact ⟨_, _, _, rfl, h1⟩
   ·rw [e] at ha
    obtain ⟨i1, k1', i2, k2', rfl, h1, _⟩ := fx2 (P := Ak) (Q := Ak) ha
    exact ⟨_, _, _, rfl, h1⟩
  obtain ⟨i1, k1', r, rfl, h1⟩ := hx
  rw [Ak, decide_eq_true_eq] at h1
  rw [Bd, Bool.and_eq_true, Bool.and_eq_true] at hG
  exact ⟨_, _, rfl, ih i1 k1' (by simp [Fo.cnt] at hs; omega) hG.1.1 hG.1.2 h1.1 h1.2⟩
theorem a6m : ∀ s i k, k.cnt < s → De i k = true → Bd k = true → 21 ≤ i.kind → i.kind ≤ 32 → Cl i k ∧ 1 ≤ lvl i := by
 intro s
 induction s with
 | zero => intro i k h; omega
 | succ s ih =>
  intro i k hs hg hG k1 k2
  obtain ⟨ht, hm, ha⟩ := F8 hg
  obtain ⟨kd, ln, cl, num, tx⟩ := i
  simp only at ht hm ha k1 k2
  have hk : kd = 21 ∨ kd = 22 ∨ kd = 23 ∨ kd = 24 ∨ kd = 25 ∨ kd = 26 ∨ kd = 27 ∨ kd = 28 ∨ kd = 29 ∨ kd = 30 ∨ kd = 31 ∨ kd = 32 := by omega
  rcases hk with rfl | rfl | rfl | rfl | rfl | rfl | rfl | rfl | rfl | rfl | rfl | rfl
  ·obtain rfl := fx0 (show Al [] (Bc k) = true from ha)
   obtain rfl : tx = [] := by simpa [D1] using ht
   refine ⟨Cp rfl (fun n d r _ hd _ => .inl ⟨by show d + 0 ≤ 40; omega, ?_⟩) (fun r => ⟨rfl, rfl⟩), by show 1 ≤ 8; decide⟩
   exact (Ek rfl rfl (by intro h; cases h)).trans rfl
  ·obtain rfl := fx0 (show Al [] (Bc k) = true from ha)
   obtain rfl : tx = [] := by simpa [D1] using ht
   refine ⟨Cp rfl (fun n d r _ hd _ => .inl ⟨by show d + 0 ≤ 40; omega, ?_⟩) (fun r => ⟨rfl, rfl⟩), by show 1 ≤ 8; decide⟩
   exact (Ek rfl rfl (by intro h; cases h)).trans rfl
  ·obtain rfl := fx0 (show Al [] (Bc k) = true from ha)
   obtain rfl : num = 0 := by simpa [Cs] using hm
   refine ⟨Cp rfl (fun n d r _ hd _ => .inl ⟨by show d + 0 ≤ 40; omega, ?_⟩) (fun r => ⟨rfl, rfl⟩), by show 1 ≤ 8; decide⟩
   exact (Ek (t := ⟨5, 0, 0, 0, tx⟩) rfl rfl (by intro h; cases h)).trans rfl
  ·obtain rfl := fx0 (show Al [] (Bc k) = true from ha)
   obtain rfl : tx = [] := by simpa [D1] using ht
   have h01 : num = 0 ∨ num = 1 := by simpa [Cs] using hm
   rcases h01 with rfl | rfl
   ·refine ⟨Cp rfl (fun n d r _ hd _ => .inl ⟨by show d + 0 ≤ 40; omega, ?_⟩) (fun r => ⟨rfl, rfl⟩), by show 1 ≤ 8; decide⟩
    exact (Ek rfl rfl (by intro h; cases h)).trans rfl
   ·refine ⟨Cp rfl (fun n d r _ hd _ => .inl ⟨by show d + 0 ≤ 40; omega, ?_⟩) (fun r => ⟨rfl, rfl⟩), by show 1 ≤ 8; decide⟩
    exact (Ek rfl rfl (by intro h; cases h)).trans rfl
  ·obtain rfl := fx0 (show Al [] (Bc k) = true from ha)
   obtain rfl : tx = [] := by simpa [D1] using ht
   obtain rfl : num = 0 := by simpa [Cs] using hm
   refine ⟨Cp rfl (fun n d r _ hd _ => .inl ⟨by show d + 0 ≤ 40; omega, ?_⟩) (fun r => ⟨rfl, rfl⟩), by show 1 ≤ 8; decide⟩
   exact (Ek rfl rfl (by intro h; cases h)).trans rfl
  ·
   obtain rfl := fx0 (show Al [] (Bc k) = true from ha)
   obtain rfl : num = 0 := by simpa [Cs] using hm
   refine ⟨Cp rfl (fun n d r _ hd hr => .inl ⟨by show d + 0 ≤ 40; omega, ?_⟩) (fun r => ⟨rfl, rfl⟩), by show 1 ≤ 8; decide⟩
   show Du (Aw (n - 1)) n d (nmT tx :: r) = _
   unfold Du
   rw [Ed ⟨by show (1 : Nat) ≠ 6; decide, by show (1 : Nat) ≠ 7; decide⟩, Ed ⟨by show (1 : Nat) ≠ 6; decide, by show (1 : Nat) ≠ 7; decide⟩, if_neg (by simp), if_neg (by simp)]
   show Es (Aw (n - 1)) n d (nmT tx :: r) = _
   unfold Es
   show (if sees [40] r = true then _ else _) = _
   rw [hr]
   rfl
  ·
   have hA : a1t k := a6v (P := Ak) (fun _ h => h) k ha hG (fun i1 k1 h1 => ih i1 k1 (by omega))
   obtain rfl : num = 0 := by simpa [Cs] using hm
   have hne : k ≠ .nil → ∃ t T, Av (tkF k) = t :: T ∧ H8 [41] t = false := fun h0 => by
    cases k with
    | nil => exact absurd rfl h0
    | cons i1 k1' r =>
     rw [Bd, Bool.and_eq_true, Bool.and_eq_true] at hG
     have hk : Ak i1.kind = true := List.all_eq_true.1 (show (Bc (.cons i1 k1' r)).all Ak = true from ha) _ (by simp [Bc])
     rw [Ak, decide_eq_true_eq] at hk
     obtain ⟨t, T, e, f⟩ := Oj _ i1 k1' (Nat.lt_succ_self _) hG.1.1 hG.1.2 hk.1 hk.2
     rw [Mh, e]
     exact ⟨t, _, rfl, f⟩
   refine ⟨Cp rfl (fun n d r hn hd hr => ?_) (fun r => ⟨rfl, rfl⟩), by show 1 ≤ 8; decide⟩
   have e : TK ⟨27, ln, cl, 0, tx⟩ k ++ r = nmT tx :: sg [40] :: (Av (tkF k) ++ sg [41] :: r) := by
    show [nmT tx, sg [40]] ++ Av (tkF k) ++ [sg [41]] ++ r = _
    simp
   have hl : (TK ⟨27, ln, cl, 0, tx⟩ k).length = (Av (tkF k)).length + 3 := by
    show ([nmT tx, sg [40]] ++ Av (tkF k) ++ [sg [41]]).length = _
    simp
   rw [hl] at hn
   rw [e]
   unfold Du
   rw [Ed ⟨by show (1 : Nat) ≠ 6; decide, by show (1 : Nat) ≠ 7; decide⟩, Ed ⟨by show (1 : Nat) ≠ 6; decide, by show (1 : Nat) ≠ 7; decide⟩, if_neg (by simp), if_neg (by simp)]
   show CG (Es (Aw (n - 1)) n d (nmT tx :: sg [40] :: (Av (tkF k) ++ sg [41] :: r))) _ _
   unfold Es
   show CG (if sees [40] (sg [40] :: (Av (tkF k) ++ sg [41] :: r)) = true then _ else _) _ _
   rw [Br, decide_eq_true rfl, if_pos rfl]
   have hw := b3j (m := n - 1) (by omega) k hA hne n d r (by omega) (by omega) hd
   unfold Dm
   refine (hw.bind (f := fun F r => Out.ok (.cons (mkX 27 (nmT tx :: sg [40] :: (Av (tkF k) ++ sg [41] :: r))) F .nil) r) (c := True) (CG.ok trivial)).imp ?_
   show d + 1 + Ni (dpF k) ≤ 40 ∧ True ↔ d + (1 + Ni (dpF k)) ≤ 40
   rw [and_true]; omega
  ·
   obtain ⟨ix, kx, iy, ky, rfl, ex, ey⟩ := fx2 (P := Ak) (Q := Ak) ha
   obtain rfl : num = 0 := by simpa [Cs] using hm
   obtain rfl : tx = [] := by simpa [D1] using ht
   rw [Ak, decide_eq_true_eq] at ex ey
   rw [Bd, Bd, Bool.and_eq_true, Bool.and_eq_true, Bool.and_eq_true, Bool.and_eq_true] at hG
   simp [Fo.cnt] at hs
   obtain ⟨cx, lx⟩ := ih ix kx (by omega) hG.1.1 hG.1.2 ex.1 ex.2
   obtain ⟨cy, ly⟩ := ih iy ky (by omega) hG.2.1.1 hG.2.1.2 ey.1 ey.2
   have e1 : BT 1 iy ky = TK iy ky := Ew (by omega)
   have e2 : BD 1 iy ky = DP iy ky := Cd (by omega)
   have e : ∀ r, TK ⟨28, ln, cl, 0, []⟩ (.cons ix kx (.cons iy ky .nil)) ++ r = BT 8 ix kx ++ sg [91] :: (TK iy ky ++ sg [93] :: r) := fun r => by
    show BT 8 ix kx ++ [sg [91]] ++ TK iy ky ++ [sg [93]] ++ r = _
    simp
   have hl : (TK ⟨28, ln, cl, 0, []⟩ (.cons ix kx (.cons iy ky .nil))).length = (BT 8 ix kx).length + (TK iy ky).length + 2 := by
    show (BT 8 ix kx ++ [sg [91]] ++ TK iy ky ++ [sg [93]]).length = _
    simp; omega
   refine ⟨a01 rfl (fun n d r hn hd hr => ?_) (fun r => ?_), by show 1 ≤ 8; decide⟩
   ·rw [hl] at hn ⊢
    rw [e]
    obtain ⟨n1, q1, q2⟩ := cx.C n d (sg [91] :: (TK iy ky ++ sg [93] :: r)) (by omega) hd (by rw [Br]; rfl)
    obtain ⟨n2, rfl⟩ : ∃ n2, n1 = n2 + 1 := ⟨n1 - 1, by omega⟩
    obtain ⟨m, rfl⟩ : ∃ m, n = m + 2 := ⟨n - 2, by omega⟩
    refine ⟨n2, by omega, ?_⟩
    have hw := Fm (o := [91]) (c := [93]) (p := Aw (m + 1)) (d := d) (T := TK iy ky) (r := r) (F := BE iy ky) (D := DP iy ky) hd (fun hlt => by
     have := cy.A 1 (m + 1) (d + 1) (sg [93] :: r) (by decide) (by decide) (by rw [e1]; omega) (by omega) (Lo (by decide) _ _) (Rr (by decide) _)
     rw [e1, e2] at this
     exact this)
    have q3 : CG (Cr (Aw (m + 1)) (n2 + 1) (BE ix kx) d (sg [91] :: (TK iy ky ++ sg [93] :: r))) (Cr (Aw (m + 1)) n2 (BE ⟨28, ln, cl, 0, []⟩ (.cons ix kx (.cons iy ky .nil))) d r) (d + 1 + DP iy ky ≤ 40) := by
     have e5 : Cr (Aw (m + 1)) (n2 + 1) (BE ix kx) d (sg [91] :: (TK iy ky ++ sg [93] :: r)) = (Ax [91] [93] (Aw (m + 1)) d (sg [91] :: (TK iy ky ++ sg [93] :: r))).bind fun G r' => Cr (Aw (m + 1)) n2 (.cons (mkK 28 (sg [91] :: (TK iy ky ++ sg [93] :: r))) ((BE ix kx).app G) .nil) d r' := by
      rw [Cr]
      simp only
      rw [Br, decide_eq_true rfl, if_pos rfl]
     rw [e5]
     exact (hw.bind (c := True) (CG.ok trivial)).imp (by simp)
    have q2 : CG (Fv (Aw (m + 1)) (m + 2) d (BT 8 ix kx ++ sg [91] :: (TK iy ky ++ sg [93] :: r))) (Cr (Aw (m + 1)) (n2 + 1) (BE ix kx) d (sg [91] :: (TK iy ky ++ sg [93] :: r))) (d + BD 8 ix kx ≤ 40) := q2
    have hD : DP ⟨28, ln, cl, 0, []⟩ (.cons ix kx (.cons iy ky .nil)) = max (BD 8 ix kx) (1 + DP iy ky) := rfl
    rw [hD]
    show CG (Fv (Aw (m + 1)) (m + 2) d (BT 8 ix kx ++ sg [91] :: (TK iy ky ++ sg [93] :: r))) (Cr (Aw (m + 1)) n2 _ d r) _
    rcases q2 with ⟨hb, e4⟩ | ⟨hb, l', k', e4⟩
    ·rw [e4]
     refine q3.imp ?_
     omega
    ·exact .inr ⟨by omega, l', k', e4⟩
   ·rw [e]
    by_cases h8 : lvl ix < 8
    ·rw [Jj h8]
     exact ⟨by show sees [45] (sg [40] :: _) = false; rw [Br]; rfl, by show sees [33] (sg [40] :: _) = false; rw [Br]; rfl⟩
    ·rw [Ew h8]
     exact cx.H (by omega) _
  ·
   obtain ⟨ix, kx, rfl, ex⟩ := fx1 (P := Ak) ha
   obtain rfl : num = 0 := by simpa [Cs] using hm
   rw [Ak, decide_eq_true_eq] at ex
   rw [Bd, Bool.and_eq_true, Bool.and_eq_true] at hG
   simp [Fo.cnt] at hs
   obtain ⟨cx, lx⟩ := ih ix kx (by omega) hG.1.1 hG.1.2 ex.1 ex.2
   have e : ∀ r, TK ⟨29, ln, cl, 0, tx⟩ (.cons ix kx .nil) ++ r = BT 8 ix kx ++ sg [46] :: nmT tx :: r := fun r => by
    show BT 8 ix kx ++ [sg [46], nmT tx] ++ r = _
    simp
   have hl : (TK ⟨29, ln, cl, 0, tx⟩ (.cons ix kx .nil)).length = (BT 8 ix kx).length + 2 := by
    show (BT 8 ix kx ++ [sg [46], nmT tx]).length = _
    simp
   refine ⟨a01 rfl (fun n d r hn hd hr => ?_) (fun r => ?_), by show 1 ≤ 8; decide⟩
   ·rw [hl] at hn ⊢
    rw [e]
    obtain ⟨n1, q1, q2⟩ := cx.C n d (sg [46] :: nmT tx :: r) (by omega) hd (by rw [Br]; rfl)
    obtain ⟨n2, rfl⟩ : ∃ n2, n1 = n2 + 1 := ⟨n1 - 1, by omega⟩
    refine ⟨n2, by omega, ?_⟩
    have q3 : Cr (Aw (n - 1)) (n2 + 1) (BE ix kx) d (sg [46] :: nmT tx :: r) = Cr (Aw (n - 1)) n2 (BE ⟨29, ln, cl, 0, tx⟩ (.cons ix kx .nil)) d r := by
     rw [Cr]
     simp only
     rw [Br, Br, decide_eq_false (by decide), decide_eq_true rfl, if_neg (by simp), if_pos rfl]
     rfl
    rw [q3] at q2
    exact q2
   ·rw [e]
    by_cases h8 : lvl ix < 8
    ·rw [Jj h8]
     exact ⟨by show sees [45] (sg [40] :: _) = false; rw [Br]; rfl, by show sees [33] (sg [40] :: _) = false; rw [Br]; rfl⟩
    ·rw [Ew h8]
     exact cx.H (by omega) _
  ·
   obtain ⟨ix, kx, rfl, ex⟩ := fx1 (P := Ak) ha
   obtain rfl : tx = [] := by simpa [D1] using ht
   rw [Ak, decide_eq_true_eq] at ex
   rw [Bd, Bool.and_eq_true, Bool.and_eq_true] at hG
   simp [Fo.cnt] at hs
   obtain ⟨cx, lx⟩ := ih ix kx (by omega) hG.1.1 hG.1.2 ex.1 ex.2
   have h12 : num = 12 ∨ num = 13 := by simpa [Cs] using hm
   have hlv : lvl (⟨30, ln, cl, num, []⟩ : Inf) = 7 := by rcases h12 with rfl | rfl <;> rfl
   have hl : (TK ⟨30, ln, cl, num, []⟩ (.cons ix kx .nil)).length = (BT 7 ix kx).length + 1 := by
    show ([sg (opS num).1] ++ BT 7 ix kx).length = _
    simp
   refine ⟨Oz (by omega) (fun L n d r h1 hL hn hd hs2 hp => ?_) (fun n d r hc => by omega) (fun h => by omega) (fun h => by omega), by omega⟩
   rw [hl] at hn
   rw [hlv] at hL
   obtain ⟨m, rfl⟩ : ∃ m, n = m + 2 := ⟨n - 2, by omega⟩
   refine a4z (by omega) (7 - L) (by omega) h1 (Nat.le_refl _) ?_ hs2
   have hx := fun (hlt : d < 40) => cx.A 7 (m + 1) (d + 1) r (by decide) (by decide) (by omega) (by omega) (fun l h1 h2 => by omega) hp
   show CG (unP (m + 2) d (sg (opS num).1 :: (BT 7 ix kx ++ r))) _ _
   rw [Nv]
   unfold Cq
   have hD : DP ⟨30, ln, cl, num, []⟩ (.cons ix kx .nil) = 1 + BD 7 ix kx := rfl
   rw [hD]
   rcases h12 with rfl | rfl
   ·rw [Br, decide_eq_true (show (opS 12).1 = [45] from rfl), if_pos rfl]
    unfold Dm
    exact ((Mf (t := sg [45]) hd (fun hlt => hx hlt)).bind (c := True) (CG.ok trivial)).imp (by rw [and_true]; omega)
   ·rw [Br, Br, decide_eq_true (show (opS 13).1 = [33] from rfl), decide_eq_false (by decide), if_neg (by simp), if_pos rfl]
    unfold Dm
    exact ((Mf (t := sg [33]) hd (fun hlt => hx hlt)).bind (c := True) (CG.ok trivial)).imp (by rw [and_true]; omega)
  ·
   obtain ⟨ix, kx, iy, ky, rfl, ex, ey⟩ := fx2 (P := Ak) (Q := Ak) ha
   obtain rfl : tx = [] := by simpa [D1] using ht
   rw [Ak, decide_eq_true_eq] at ex ey
   rw [Bd, Bd, Bool.and_eq_true, Bool.and_eq_true, Bool.and_eq_true, Bool.and_eq_true] at hG
   simp [Fo.cnt] at hs
   obtain ⟨cx, lx⟩ := ih ix kx (by omega) hG.1.1 hG.1.2 ex.1 ex.2
   obtain ⟨cy, ly⟩ := ih iy ky (by omega) hG.2.1.1 hG.2.1.2 ey.1 ey.2
   obtain ⟨o1, o2, o3, o4, o5, o6⟩ := a3b hm
   obtain ⟨l, hlq⟩ : ∃ l, (opS num).2 = l := ⟨_, rfl⟩
   obtain ⟨x, hxq⟩ : ∃ x, (opS num).1 = x := ⟨_, rfl⟩
   have hlv : lvl (⟨31, ln, cl, num, []⟩ : Inf) = l := hlq
   have e : ∀ r, TK ⟨31, ln, cl, num, []⟩ (.cons ix kx (.cons iy ky .nil)) ++ r = BT (C6 l) ix kx ++ sg x :: (BT (l + 1) iy ky ++ r) := fun r => by
    show BT (C6 (opS num).2) ix kx ++ [sg (opS num).1] ++ BT ((opS num).2 + 1) iy ky ++ r = _
    rw [hlq, hxq]; simp
   have hl : (TK ⟨31, ln, cl, num, []⟩ (.cons ix kx (.cons iy ky .nil))).length = (BT (C6 l) ix kx).length + (BT (l + 1) iy ky).length + 1 := by
    show (BT (C6 (opS num).2) ix kx ++ [sg (opS num).1] ++ BT ((opS num).2 + 1) iy ky).length = _
    rw [hlq, hxq]; simp; omega
   have hD : DP ⟨31, ln, cl, num, []⟩ (.cons ix kx (.cons iy ky .nil)) = max (BD (C6 l) ix kx) (BD (l + 1) iy ky) := by
    show max (BD (C6 (opS num).2) ix kx) (BD ((opS num).2 + 1) iy ky) = _
    rw [hlq]
   rw [hlq, hxq] at o6
   rw [hlq] at o1 o2 o3
   rw [hxq] at o3 o4 o5
   have stp : ∀ n d r, (BT (l + 1) iy ky).length < n → d ≤ 40 → Stp (l + 1) r → Po r → CG (Ct (PL n (l + 1)) (BE ix kx) d (sg x :: (BT (l + 1) iy ky ++ r))) (.ok (BE ⟨31, ln, cl, num, []⟩ (.cons ix kx (.cons iy ky .nil))) r) (d + BD (l + 1) iy ky ≤ 40) := fun n d r hn hd hs2 hp => by
    have h := cy.A (l + 1) n d r (by omega) (by omega) hn hd hs2 hp
    unfold Ct
    refine (h.bind (c := True) (X := .ok (BE ⟨31, ln, cl, num, []⟩ (.cons ix kx (.cons iy ky .nil))) r) ?_).imp (by simp)
    show CG (.ok (.cons ⟨31, 0, 0, Hh x, []⟩ _ .nil) r) _ _
    rw [o4]
    exact CG.ok trivial
   have chn : ∀ n d r, l = 1 ∨ l = 2 ∨ l = 5 ∨ l = 6 → (TK ⟨31, ln, cl, num, []⟩ (.cons ix kx (.cons iy ky .nil))).length < n → d ≤ 40 → Stp (l + 1) r → Po r → ∃ n1, n ≤ n1 + (TK ⟨31, ln, cl, num, []⟩ (.cons ix kx (.cons iy ky .nil))).length ∧ CG (Ce (PL n (l + 1)) (Sg l) n d (TK ⟨31, ln, cl, num, []⟩ (.cons ix kx (.cons iy ky .nil)) ++ r)) (B9 (PL n (l + 1)) (Sg l) n1 (BE ⟨31, ln, cl, num, []⟩ (.cons ix kx (.cons iy ky .nil))) d r) (d + DP ⟨31, ln, cl, num, []⟩ (.cons ix kx (.cons iy ky .nil)) ≤ 40) := by
    intro n d r hc hn hd hs2 hp
    have hll : C6 l = l := by unfold C6; rw [if_neg (by omega)]
    rw [hl, hll] at hn ⊢
    rw [e, hD, hll]
    obtain ⟨n1, q1, q2⟩ := cx.B l n d (sg x :: (BT (l + 1) iy ky ++ r)) hc (by omega) hd (o6 _) (Rr o5 _)
    obtain ⟨n2, rfl⟩ : ∃ n2, n1 = n2 + 1 := ⟨n1 - 1, by omega⟩
    refine ⟨n2, by omega, ?_⟩
    have q3 : CG (B9 (PL n (l + 1)) (Sg l) (n2 + 1) (BE ix kx) d (sg x :: (BT (l + 1) iy ky ++ r))) (B9 (PL n (l + 1)) (Sg l) n2 (BE ⟨31, ln, cl, num, []⟩ (.cons ix kx (.cons iy ky .nil))) d r) (d + BD (l + 1) iy ky ≤ 40) := by
     have e5 : B9 (PL n (l + 1)) (Sg l) (n2 + 1) (BE ix kx) d (sg x :: (BT (l + 1) iy ky ++ r)) = (Ct (PL n (l + 1)) (BE ix kx) d (sg x :: (BT (l + 1) iy ky ++ r))).bind fun G r' => B9 (PL n (l + 1)) (Sg l) n2 G d r' := by
      rw [B9]
      simp only
      rw [Ub, decide_eq_true o3, if_pos rfl]
     rw [e5]
     exact ((stp n d r (by omega) hd hs2 hp).bind (c := True) (CG.ok trivial)).imp (by simp)
    rcases q2 with ⟨hb, e4⟩ | ⟨hb, l', k', e4⟩
    ·rw [e4]
     exact q3.imp (by omega)
    ·exact .inr ⟨by omega, l', k', e4⟩
   refine ⟨Oz (by omega) (fun L n d r h1 hL hn hd hs2 hp => ?_) (fun n d r hc hn hd hs2 hp => ?_) (fun h => by omega) (fun h => by omega), by omega⟩
   ·rw [hlv] at hL
    have own : CG (PL n l d (TK ⟨31, ln, cl, num, []⟩ (.cons ix kx (.cons iy ky .nil)) ++ r)) (.ok (BE ⟨31, ln, cl, num, []⟩ (.cons ix kx (.cons iy ky .nil))) r) (d + DP ⟨31, ln, cl, num, []⟩ (.cons ix kx (.cons iy ky .nil)) ≤ 40) := by
     have hsl := hs2 l hL o2
     by_cases h34 : l = 3 ∨ l = 4
     ·have hll : C6 l = l + 1 := by unfold C6; rw [if_pos h34]
      rw [hl, hll] at hn
      rw [e, hD, hll]
      have hx := cx.A (l + 1) n d (sg x :: (BT (l + 1) iy ky ++ r)) (by omega) (by omega) (by omega) hd (o6 _) (Rr o5 _)
      have hpair : PL n l = Hf (PL n (l + 1)) (Sg l) := by rcases h34 with h | h <;> rw [h] <;> rfl
      rw [hpair]
      unfold Hf
      refine (hx.bind (c := d + BD (l + 1) iy ky ≤ 40) (X := .ok (BE ⟨31, ln, cl, num, []⟩ (.cons ix kx (.cons iy ky .nil))) r) ?_).imp (by omega)
      rw [Ub, decide_eq_true o3, if_pos rfl]
      exact stp n d r (by omega) hd (hs2.mono (by omega)) hp
     ·have hc : l = 1 ∨ l = 2 ∨ l = 5 ∨ l = 6 := by omega
      obtain ⟨n1, q1, q2⟩ := chn n d r hc hn hd (hs2.mono (by omega)) hp
      rw [Ml (by omega) hsl] at q2
      have hch : PL n l = Ce (PL n (l + 1)) (Sg l) n := by rcases hc with h | h | h | h <;> rw [h] <;> rfl
      rw [hch]
      exact q2
    exact a4z (by omega) (l - L) (by omega) h1 (by omega) own hs2
   ·rw [hlv] at hc hs2 ⊢
    exact chn n d r hc hn hd hs2 hp
  ·
   obtain rfl : num = 0 := by simpa [Cs] using hm
   obtain rfl : tx = [] := by simpa [D1] using ht
   have hA : (Al [[19].contains] (Bc k) || Al [[20].contains, Ak] (Bc k)) = true := ha
   have hmk : ∀ n d r, Du (Aw (n - 1)) n d (wd [109, 97, 107, 101] :: r) = (if (hd r).kind = 2 then Lr Am (Ax [40] [41] C2) d r else Lr (Az (Fd n)) (Ax [40] [41] (Aw (n - 1))) d r).bind fun F q => .ok (.cons ⟨32, 0, 0, 0, []⟩ F .nil) q := fun n d r => by
    unfold Du
    rw [X3, X3, decide_eq_false (by decide), decide_eq_true rfl, if_neg (by simp), if_pos rfl]
    rfl
   rw [Bool.or_eq_true] at hA
   rcases hA with hA | hA
   ·obtain ⟨ix, kx, rfl, ex⟩ := fx1 hA
    have ex' : ix.kind = 19 := by simpa using ex
    rw [Bd, Bool.and_eq_true, Bool.and_eq_true] at hG
    obtain ⟨tx1, tx2, tx3⟩ := F8 hG.1.1
    obtain ⟨kd, ln1, cl1, num1, t1⟩ := ix
    have ex' : kd = 19 := ex'
    subst ex'
    obtain rfl := fx0 (show Al [] (Bc kx) = true from tx3)
    obtain rfl : num1 = 0 := by simpa [Cs] using tx2
    refine ⟨Cp rfl (fun n d r hn hd hr => ?_) (fun r => ⟨rfl, rfl⟩), by show 1 ≤ 8; decide⟩
    show CG (Du (Aw (n - 1)) n d (wd [109, 97, 107, 101] :: bgT t1 :: sg [40] :: sg [41] :: r)) _ _
    rw [hmk, if_pos (show (YtoaplbljflhheaaGreat.hd (bgT t1 :: sg [40] :: sg [41] :: r)).kind = 2 from rfl)]
    have hw := Fm (o := [40]) (c := [41]) (p := C2) (d := d) (T := []) (r := r) (F := .nil) (D := 0) hd (fun hlt => CG.ok (by omega))
    have hs1 : CG (Lr Am (Ax [40] [41] C2) d (bgT t1 :: sg [40] :: sg [41] :: r)) (.ok (BE ⟨19, ln1, cl1, 0, t1⟩ .nil) r) (d + 1 + 0 ≤ 40) := by
     show CG ((Ax [40] [41] C2 d (sg [40] :: sg [41] :: r)).bind fun G r' => .ok ((Fo.cons ⟨19, 0, 0, 0, t1⟩ .nil .nil).app G) r') _ _
     exact (hw.bind (c := True) (CG.ok trivial)).imp (by simp)
    exact (hs1.bind (c := True) (CG.ok trivial)).imp (by
     show d + 1 + 0 ≤ 40 ∧ True ↔ d + max 0 (1 + 0) ≤ 40
     simp)
   ·obtain ⟨ix, kx, iy, ky, rfl, ex, ey⟩ := fx2 hA
    have ex' : ix.kind = 20 := by simpa using ex
    rw [Ak, decide_eq_true_eq] at ey
    rw [Bd, Bd, Bool.and_eq_true, Bool.and_eq_true, Bool.and_eq_true, Bool.and_eq_true] at hG
    simp [Fo.cnt] at hs
    obtain ⟨cy, ly⟩ := ih iy ky (by omega) hG.2.1.1 hG.2.1.2 ey.1 ey.2
    have e1 : BT 1 iy ky = TK iy ky := Ew (by omega)
    have e2 : BD 1 iy ky = DP iy ky := Cd (by omega)
    have hl : (TK ⟨32, ln, cl, 0, []⟩ (.cons ix kx (.cons iy ky .nil))).length = (TK ix kx).length + (TK iy ky).length + 3 := by
     show ([wd [109, 97, 107, 101]] ++ TK ix kx ++ [sg [40]] ++ Av [(iy, TK iy ky)] ++ [sg [41]]).length = _
     simp [Av]; omega
    have e : ∀ r, TK ⟨32, ln, cl, 0, []⟩ (.cons ix kx (.cons iy ky .nil)) ++ r = wd [109, 97, 107, 101] :: (TK ix kx ++ sg [40] :: (TK iy ky ++ sg [41] :: r)) := fun r => by
     show [wd [109, 97, 107, 101]] ++ TK ix kx ++ [sg [40]] ++ Av [(iy, TK iy ky)] ++ [sg [41]] ++ r = _
     simp [Av]
    refine ⟨Cp rfl (fun n d r hn hd hr => ?_) (fun r => ⟨rfl, rfl⟩), by show 1 ≤ 8; decide⟩
    rw [hl] at hn
    obtain ⟨m, rfl⟩ : ∃ m, n = m + 2 := ⟨n - 2, by omega⟩
    rw [e, hmk]
    obtain ⟨T, hT⟩ : ∃ T, TK ix kx = sg [91] :: T := by
     obtain ⟨kd, ln1, cl1, num1, t1⟩ := ix
     have ex' : kd = 20 := ex'
     subst ex'
     exact ⟨_, rfl⟩
    have hk7 : (YtoaplbljflhheaaGreat.hd (TK ix kx ++ sg [40] :: (TK iy ky ++ sg [41] :: r))).kind = 7 := by rw [hT]; rfl
    rw [hk7, if_neg (by decide)]
    have ht1 := b3h _ ix kx (Nat.lt_succ_self _) hG.1.1 hG.1.2 (by omega) (by omega) (m + 3) d (sg [40] :: (TK iy ky ++ sg [41] :: r)) (by omega) hd
    have ht2 : Fd (m + 3) d (TK ix kx ++ sg [40] :: (TK iy ky ++ sg [41] :: r)) = Az (Fd (m + 2)) d (TK ix kx ++ sg [40] :: (TK iy ky ++ sg [41] :: r)) := by
     show L5 [91] (Az (Fd (m + 2))) Am d _ = _
     unfold L5
     rw [hT]
     show (if sees [91] (sg [91] :: (T ++ sg [40] :: (TK iy ky ++ sg [41] :: r))) = true then _ else _) = _
     rw [Br, decide_eq_true rfl, if_pos rfl]
    rw [ht2] at ht1
    have hw := Fm (o := [40]) (c := [41]) (p := Aw (m + 1)) (d := d) (T := TK iy ky) (r := r) (F := BE iy ky) (D := DP iy ky) hd (fun hlt => by
     have := cy.A 1 (m + 1) (d + 1) (sg [41] :: r) (by decide) (by decide) (by rw [e1]; omega) (by omega) (Lo (by decide) _ _) (Rr (by decide) _)
     rw [e1, e2] at this
     exact this)
    have hs1 : CG (Lr (Az (Fd (m + 2))) (Ax [40] [41] (Aw (m + 1))) d (TK ix kx ++ sg [40] :: (TK iy ky ++ sg [41] :: r))) (.ok ((BE ix kx).app (BE iy ky)) r) ((d + DP ix kx ≤ 40) ∧ (d + 1 + DP iy ky ≤ 40)) := by
     unfold Lr
     exact ht1.bind ((hw.bind (f := fun G r' => .ok ((BE ix kx).app G) r') (c := True) (CG.ok trivial)).imp (by simp))
    exact (hs1.bind (c := True) (CG.ok trivial)).imp (by
     show (d + DP ix kx ≤ 40 ∧ d + 1 + DP iy ky ≤ 40) ∧ True ↔ d + max (DP ix kx) (1 + DP iy ky) ≤ 40
     rw [and_true]; omega)
end Go.Proofs.YtoaplbljflhheaaGreat
namespace Go.Proofs.YtoaplbljflhheaaGreat
def WfT (t : Tok) : Prop := (t.kind = 1 → Dv t.text = true) ∧ (t.kind = 2 → Eu t.text = true) ∧ (t.kind = 3 → 0 ≤ t.num ∧ t.num ≤ 9223372036854775807) ∧ (t.kind = 4 → 0 ≤ t.num ∧ t.num < 8388608)
def WfL (ts : List Tok) : Prop := ∀ t ∈ ts, WfT t
def wT (t : Tok) : Nat := 22 + 4 * t.text.length
def wL : List Tok → Nat
 | [] => 0
 | t :: l => wT t + wL l
def wF : Fo → Nat
 | .nil => 0
 | .cons i k r => (22 + 4 * i.text.length) + wF k + wF r
theorem b1g (F G : Fo) : wF (F.app G) = wF F + wF G := by
 induction F with
 | nil => simp [Fo.app, wF]
 | cons i k r _ ih => simp [Fo.app, wF, ih]; omega
theorem a0a (F G : Fo) : Bd (F.app G) = (Bd F && Bd G) := by
 induction F with
 | nil => rfl
 | cons i k r _ ih => simp [Fo.app, Bd, ih, Bool.and_assoc]
theorem Yf (F G : Fo) : Bc (F.app G) = Bc F ++ Bc G := by
 induction F with
 | nil => rfl
 | cons i k r _ ih => simp [Fo.app, Bc, ih]
theorem a3v (a b : List (Inf × Nat)) : Ni (a ++ b) = max (Ni a) (Ni b) := by
 induction a with
 | nil => simp [Ni]
 | cons x l ih => simp [Ni, ih, Nat.max_assoc]
theorem a9t (F G : Fo) : dpF (F.app G) = dpF F ++ dpF G := by
 induction F with
 | nil => rfl
 | cons i k r _ ih => simp [Fo.app, dpF, ih]
def Ge (i : Inf) (k : Fo) : Prop := De i k = true ∧ Bd k = true ∧ 21 ≤ i.kind ∧ i.kind ≤ 32
def Dx (L d : Nat) (F : Fo) (ts r : List Tok) : Prop := (∃ i k, F = .cons i k .nil ∧ Ge i k ∧ d + BD L i k ≤ 40) ∧ wF F + wL r ≤ wL ts ∧ WfL r
def DxP (L : Nat) (p : Pt) : Prop := ∀ d ts F r, d ≤ 40 → WfL ts → p d ts = .ok F r → Dx L d F ts r
def Gt (i : Inf) (k : Fo) : Prop := De i k = true ∧ Bd k = true ∧ 15 ≤ i.kind ∧ i.kind ≤ 20
def Dt (d : Nat) (F : Fo) (ts r : List Tok) : Prop := (∃ i k, F = .cons i k .nil ∧ Gt i k ∧ d + DP i k ≤ 40) ∧ wF F + wL r ≤ wL ts ∧ WfL r
def DtP (p : Pt) : Prop := ∀ d ts F r, d ≤ 40 → WfL ts → p d ts = .ok F r → Dt d F ts r
def Dl (d : Nat) (F : Fo) (ts r : List Tok) : Prop := (Bd F = true ∧ (Bc F).all Ak = true ∧ d + Ni (dpF F) ≤ 40) ∧ wF F + wL r ≤ wL ts ∧ WfL r
theorem a98 {L L' : Nat} {i : Inf} {k : Fo} (h : L ≤ L') : BD L i k ≤ BD L' i k := by
 by_cases h1 : lvl i < L
 ·rw [Jl h1, Jl (by omega)]; exact Nat.le_refl _
 ·rw [Cd h1]
  by_cases h2 : lvl i < L'
  ·rw [Jl h2]; omega
  ·rw [Cd h2]; exact Nat.le_refl _
theorem b5l (L : Nat) (i : Inf) (k : Fo) : BD L i k ≤ DP i k + 1 ∧ DP i k ≤ BD L i k := by
 by_cases h1 : lvl i < L
 ·rw [Jl h1]; omega
 ·rw [Cd h1]; omega
theorem Dx.mono {L L' d : Nat} {F : Fo} {ts r : List Tok} (h : Dx L' d F ts r) (hl : L ≤ L') : Dx L d F ts r := by
 obtain ⟨⟨i, k, h1, h2, h3⟩, h4⟩ := h
 exact ⟨⟨i, k, h1, h2, by have := a98 (i := i) (k := k) hl; omega⟩, h4⟩
theorem Ge.lvl {i : Inf} {k : Fo} (h : Ge i k) : 1 ≤ YtoaplbljflhheaaGreat.lvl i := (a6m _ i k (Nat.lt_succ_self _) h.1 h.2.1 h.2.2.1 h.2.2.2).2
theorem Ge.exp {i : Inf} {k : Fo} (h : Ge i k) : Ak i.kind = true := by rw [Ak, decide_eq_true_eq]; exact h.2.2
theorem Da {ts : List Tok} (h : WfL ts) : WfL ts.tail := fun t ht => h t (List.mem_of_mem_tail ht)
theorem Ls {x : List UInt8} {ts : List Tok} (h : sees x ts = true) : 22 + wL ts.tail ≤ wL ts := by
 obtain ⟨t, l, rfl, _⟩ := C7 h
 simp only [wL, wT, List.tail_cons]; omega
theorem a6i {k : Nat} {ts : List Tok} (h : (hd ts).kind = k) (hk : k ≠ 0) : ∃ t l, ts = t :: l ∧ t.kind = k ∧ 22 + 4 * t.text.length + wL l = wL ts := by
 obtain ⟨t, l, rfl, h1⟩ := L4 h hk
 exact ⟨t, l, rfl, h1, by simp [wL, wT]⟩
theorem b1r {x : List UInt8} {d : Nat} {ts r : List Tok} {F : Fo} (e : take x d ts = .ok F r) (hw : WfL ts) : F = .nil ∧ 22 + wL r ≤ wL ts ∧ WfL r := by
 unfold take Gx at e
 split at e
 ·rename_i h
  cases e
  exact ⟨rfl, Ls h, Da hw⟩
 ·cases e
theorem Tw {p : Pt} {d : Nat} {ts r : List Tok} {F : Fo} (e : By p d ts = .ok F r) (hd : d ≤ 40) : d + 1 ≤ 40 ∧ p (d + 1) ts.tail = .ok F r := by
 unfold By at e
 split at e
 ·cases e
 ·exact ⟨by omega, e⟩
theorem Hp {o c : List UInt8} {p : Pt} {d : Nat} {ts r : List Tok} {F : Fo} (e : Ax o c p d ts = .ok F r) (hd : d ≤ 40) (hw : WfL ts) : ∃ q, d + 1 ≤ 40 ∧ p (d + 1) ts.tail = .ok F q ∧ WfL ts.tail ∧ 22 + wL ts.tail ≤ wL ts ∧ (WfL q → 22 + wL r ≤ wL q ∧ WfL r) := by
 unfold Ax at e
 split at e
 ·rename_i h
  obtain ⟨F1, q, e1, e2⟩ := Aj e
  obtain ⟨F2, r2, e3, e4⟩ := Aj e2
  cases e4
  obtain ⟨h1, h2⟩ := Tw e1 hd
  have hF2 := a3p e3
  subst hF2
  rw [a1j]
  exact ⟨q, h1, h2, Da hw, Ls h, fun hq => by obtain ⟨_, a, b⟩ := b1r e3 hq; exact ⟨a, b⟩⟩
 ·cases e
theorem Ep {t : Tok} {q : Nat × List UInt8} (h : Ez t = some q) : (q = (19, t.text) ∧ t.kind = 2) ∨ (q.2 = [] ∧ 15 ≤ q.1 ∧ q.1 ≤ 18) := by
 unfold Ez at h
 split at h
 ·rename_i h2
  cases h
  exact .inl ⟨rfl, h2⟩
 ·right
  repeat' split at h
  all_goals first | (cases h; simp) | cases h
theorem a13 {ts : List Tok} {q : Nat × List UInt8} (h : Ez (hd ts) = some q) : ∃ t l, ts = t :: l := by
 cases ts with
 | nil => simp [hd, Ez, b1j] at h
 | cons t l => exact ⟨t, l, rfl⟩
theorem a0y : DtP Am := fun d ts F r h40 hw e => by
 unfold Am at e
 split at e
 ·rename_i q h
  cases e
  obtain ⟨t, l, rfl⟩ := a13 h
  have hwt := hw t (by simp)
  have h : Ez t = some q := h
  refine ⟨⟨_, _, rfl, ?_, ?_⟩, ?_, Da hw⟩
  ·rcases Ep h with ⟨rfl, h2⟩ | ⟨h1, h2, h3⟩
   ·refine ⟨?_, rfl, Nat.le_of_ble_eq_true rfl, Nat.le_of_ble_eq_true rfl⟩
    have := hwt.2.1 h2
    show (Eu t.text && true && true) = true
    rw [this]; rfl
   ·obtain ⟨qk, qt⟩ := q
    simp only at h1 h2 h3
    subst h1
    have : qk = 15 ∨ qk = 16 ∨ qk = 17 ∨ qk = 18 := by omega
    rcases this with rfl | rfl | rfl | rfl <;> exact ⟨rfl, rfl, Nat.le_of_ble_eq_true rfl, Nat.le_of_ble_eq_true rfl⟩
  ·rcases Ep h with ⟨rfl, h2⟩ | ⟨h1, h2, h3⟩
   ·exact h40
   ·obtain ⟨qk, qt⟩ := q
    simp only at h1 h2 h3
    have : qk = 15 ∨ qk = 16 ∨ qk = 17 ∨ qk = 18 := by omega
    rcases this with rfl | rfl | rfl | rfl <;> exact h40
  ·simp only [wF, wL, wT, List.tail_cons]
   rcases Ep h with ⟨rfl, h2⟩ | ⟨h1, h2, h3⟩
   ·show 22 + 4 * t.text.length + 0 + 0 + wL l ≤ _
    omega
   ·rw [h1]; simp
 ·cases e
theorem Nq {p : Pt} (hp : DtP p) : DtP (Az p) := fun d ts F r h40 hw e => by
 obtain ⟨F1, r1, e1, e2⟩ := Aj e
 cases e2
 obtain ⟨q, h1, h2, h3, h4, h5⟩ := Hp e1 h40 hw
 obtain ⟨⟨i, k, rfl, hg, hD⟩, hW, hq⟩ := hp (d + 1) _ _ _ h1 h3 h2
 obtain ⟨h6, h7⟩ := h5 hq
 refine ⟨⟨_, _, rfl, ⟨?_, ?_, Nat.le_of_ble_eq_true rfl, Nat.le_of_ble_eq_true rfl⟩, ?_⟩, ?_, h7⟩
 ·show (true && true && Al [Dd] [i.kind]) = true
  have : Dd i.kind = true := by rw [Dd, decide_eq_true_eq]; exact hg.2.2
  simp [Al, List.range, List.range.loop, this]
 ·show (De i k && Bd k && true) = true
  rw [hg.1, hg.2.1]; rfl
 ·show d + (1 + DP i k) ≤ 40
  omega
 ·simp only [wF] at hW ⊢
  show 22 + 4 * ([] : List UInt8).length + _ + _ + _ ≤ _
  simp only [List.length_nil]
  omega
theorem a6q : ∀ n, DtP (Fd n)
 | 0 => fun d ts F r _ _ e => by cases e
 | n + 1 => fun d ts F r h40 hw e => by
  unfold Fd L5 at e
  split at e
  ·exact Nq (a6q n) d ts F r h40 hw e
  ·exact a0y d ts F r h40 hw e
end Go.Proofs.YtoaplbljflhheaaGreat
namespace Go.Proofs.YtoaplbljflhheaaGreat
theorem Qn {t : Tok} {q : Nat × Int × List UInt8} (h : Bg t = some q) : (q = (21, t.num, []) ∧ t.kind = 3) ∨ (q = (22, t.num, []) ∧ t.kind = 4) ∨ (q = (23, 0, t.text) ∧ t.kind = 5) ∨ q = (24, 1, []) ∨ q = (24, 0, []) ∨ q = (25, 0, []) := by
 unfold Bg at h
 split at h
 ·rename_i h2; cases h; exact .inl ⟨rfl, h2⟩
 ·split at h
  ·rename_i h2; cases h; exact .inr (.inl ⟨rfl, h2⟩)
  ·split at h
   ·rename_i h2; cases h; exact .inr (.inr (.inl ⟨rfl, h2⟩))
   ·repeat' split at h
    all_goals first | (cases h; simp) | cases h
theorem a0z {ts : List Tok} {q : Nat × Int × List UInt8} (h : Bg (hd ts) = some q) : ∃ t l, ts = t :: l := by
 cases ts with
 | nil => simp [hd, Bg, b1j] at h
 | cons t l => exact ⟨t, l, rfl⟩
theorem Iq {d : Nat} {i : Inf} {ts r : List Tok} (hk : 21 ≤ i.kind ∧ i.kind ≤ 26) (ht : D1 i.kind i.text = true) (hm : Cs i.kind i.num = true) (h40 : d ≤ 40) (hw : wF (.cons i .nil .nil) + wL r ≤ wL ts) (hr : WfL r) : Dx 8 d (.cons i .nil .nil) ts r := by
 refine ⟨⟨i, .nil, rfl, ⟨?_, rfl, by omega, by omega⟩, ?_⟩, hw, hr⟩
 ·unfold De
  rw [ht, hm]
  obtain ⟨kd, ln, cl, num, tx⟩ := i
  have : kd = 21 ∨ kd = 22 ∨ kd = 23 ∨ kd = 24 ∨ kd = 25 ∨ kd = 26 := by simp only at hk; omega
  rcases this with rfl | rfl | rfl | rfl | rfl | rfl <;> rfl
 ·have hD : DP i .nil = 0 := by
   obtain ⟨kd, ln, cl, num, tx⟩ := i
   have : kd = 21 ∨ kd = 22 ∨ kd = 23 ∨ kd = 24 ∨ kd = 25 ∨ kd = 26 := by simp only at hk; omega
   rcases this with rfl | rfl | rfl | rfl | rfl | rfl <;> rfl
  have hl : ¬ lvl i < 8 := by unfold lvl; rw [if_neg (by omega)]; omega
  rw [Cd hl, hD]
  omega
theorem a9x : DxP 8 Eb := fun d ts F r h40 hw e => by
 unfold Eb at e
 split at e
 ·rename_i q h
  cases e
  obtain ⟨t, l, rfl⟩ := a0z h
  have hwt := hw t (by simp)
  have h : Bg t = some q := h
  have hr := Da hw
  rcases Qn h with ⟨rfl, h2⟩ | ⟨rfl, h2⟩ | ⟨rfl, h2⟩ | rfl | rfl | rfl
  ·have hn := hwt.2.2.1 h2
   refine Iq ⟨Nat.le_of_ble_eq_true rfl, Nat.le_of_ble_eq_true rfl⟩ rfl ?_ h40 ?_ hr
   ·show decide (0 ≤ t.num) = true
    simp [hn.1]
   ·show 22 + 4 * 0 + 0 + 0 + wL l ≤ 22 + 4 * t.text.length + wL l
    omega
  ·have hn := hwt.2.2.2 h2
   refine Iq ⟨Nat.le_of_ble_eq_true rfl, Nat.le_of_ble_eq_true rfl⟩ rfl ?_ h40 ?_ hr
   ·show decide (0 ≤ t.num ∧ t.num < 8388608) = true
    simp [hn.1, hn.2]
   ·show 22 + 4 * 0 + 0 + 0 + wL l ≤ 22 + 4 * t.text.length + wL l
    omega
  ·refine Iq ⟨Nat.le_of_ble_eq_true rfl, Nat.le_of_ble_eq_true rfl⟩ rfl rfl h40 ?_ hr
   show 22 + 4 * t.text.length + 0 + 0 + wL l ≤ 22 + 4 * t.text.length + wL l
   omega
  ·refine Iq ⟨Nat.le_of_ble_eq_true rfl, Nat.le_of_ble_eq_true rfl⟩ rfl rfl h40 ?_ hr
   show 22 + 4 * 0 + 0 + 0 + wL l ≤ 22 + 4 * t.text.length + wL l
   omega
  ·refine Iq ⟨Nat.le_of_ble_eq_true rfl, Nat.le_of_ble_eq_true rfl⟩ rfl rfl h40 ?_ hr
   show 22 + 4 * 0 + 0 + 0 + wL l ≤ 22 + 4 * t.text.length + wL l
   omega
  ·refine Iq ⟨Nat.le_of_ble_eq_true rfl, Nat.le_of_ble_eq_true rfl⟩ rfl rfl h40 ?_ hr
   show 22 + 4 * 0 + 0 + 0 + wL l ≤ 22 + 4 * t.text.length + wL l
   omega
 ·cases e
theorem a4f {i : Inf} {k : Fo} (h : Ge i k) : BD 1 i k = DP i k := Cd (by have := h.lvl; omega)
section
variable {E : Pt} (hE : DxP 1 E)
include hE
theorem a6s : ∀ n d ts F r, d ≤ 40 → WfL ts → F0 E n d ts = .ok F r → Dl d F ts r
 | 0, _, _, _, _, _, _, e => by cases e
 | n + 1, d, ts, F, r, h40, hw, e => by
  unfold F0 at e
  obtain ⟨F1, r1, e1, e2⟩ := Aj e
  obtain ⟨⟨i, k, rfl, hg, hD⟩, hW, hr⟩ := hE d ts F1 r1 h40 hw e1
  rw [a4f hg] at hD
  split at e2
  ·rename_i h
   obtain ⟨F2, r2, e3, e4⟩ := Aj e2
   cases e4
   obtain ⟨⟨a1, a2, a3⟩, a4, a5⟩ := a6s n d _ _ _ h40 (Da hr) e3
   have hs := Ls h
   refine ⟨⟨?_, ?_, ?_⟩, ?_, a5⟩
   ·rw [a0a, a1]
    show (De i k && Bd k && true && true) = true
    rw [hg.1, hg.2.1]; rfl
   ·rw [Yf, List.all_append, a2]
    show (Ak i.kind && true && true) = true
    rw [hg.exp]; rfl
   ·rw [a9t, a3v]
    show d + max (max (DP i k) 0) _ ≤ 40
    omega
   ·rw [b1g]; omega
  ·cases e2
   refine ⟨⟨?_, ?_, ?_⟩, hW, hr⟩
   ·show (De i k && Bd k && true) = true
    rw [hg.1, hg.2.1]; rfl
   ·show (Ak i.kind && true) = true
    rw [hg.exp]; rfl
   ·show d + max (DP i k) 0 ≤ 40
    omega
theorem a42 (n d : Nat) (ts : List Tok) (F : Fo) (r : List Tok) (h40 : d ≤ 40) (hw : WfL ts) (e : Dn E n d ts = .ok F r) : Dl d F ts r := by
 unfold Dn L5 at e
 split at e
 ·cases e
  exact ⟨⟨rfl, rfl, h40⟩, by simp [wF], hw⟩
 ·exact a6s hE n d ts F r h40 hw e
theorem b31 (n d : Nat) (ts : List Tok) (F : Fo) (r : List Tok) (h40 : d ≤ 40) (hw : WfL ts) (h1 : (hd ts).kind = 1) (e : Es E n d ts = .ok F r) : Dx 8 d F ts r := by
 obtain ⟨t, l, rfl, hk, hwl⟩ := a6i h1 (by decide)
 have hn := (hw t (by simp)).1 hk
 unfold Es at e
 split at e
 ·obtain ⟨F1, r1, e1, e2⟩ := Aj e
  cases e2
  obtain ⟨q, q1, q2, q3, q4, q5⟩ := Hp e1 h40 (Da hw)
  obtain ⟨⟨a1, a2, a3⟩, a4, a5⟩ := a42 hE n (d + 1) _ _ _ q1 q3 q2
  obtain ⟨a6, a7⟩ := q5 a5
  refine ⟨⟨_, _, rfl, ⟨?_, a1, Nat.le_of_ble_eq_true rfl, Nat.le_of_ble_eq_true rfl⟩, ?_⟩, ?_, a7⟩
  ·show (Dv t.text && true && (Bc F1).all Ak) = true
   rw [hn, a2]; rfl
  ·rw [Cd (show ¬ lvl (mkX 27 (t :: l)) < 8 from by show ¬ (8 : Nat) < 8; omega)]
   show d + (1 + Ni (dpF F1)) ≤ 40
   omega
  ·show (22 + 4 * t.text.length) + wF F1 + 0 + wL r ≤ wL (t :: l)
   have q4 : 22 + wL l.tail ≤ wL l := q4
   have a4 : wF F1 + wL q ≤ wL l.tail := a4
   omega
 ·cases e
  refine Iq (i := mkX 26 (t :: l)) ⟨Nat.le_of_ble_eq_true rfl, Nat.le_of_ble_eq_true rfl⟩ hn rfl h40 ?_ (Da hw)
  show 22 + 4 * t.text.length + 0 + 0 + wL l ≤ wL (t :: l)
  omega
theorem b32 (n d : Nat) (ts : List Tok) (F : Fo) (r : List Tok) (h40 : d ≤ 40) (hw : WfL ts) (hm : sees [109, 97, 107, 101] ts = true) (e : Fg E n d ts = .ok F r) : Dx 8 d F ts r := by
 have hsw := Ls hm
 have hwt := Da hw
 obtain ⟨F1, r1, e1, e2⟩ := Aj e
 cases e2
 have e1 : (if (hd ts.tail).kind = 2 then Lr Am (Ax [40] [41] C2) d ts.tail else Lr (Az (Fd n)) (Ax [40] [41] E) d ts.tail) = .ok F1 r := e1
 split at e1
 ·rename_i h2
  obtain ⟨G, r2, e3, e4⟩ := Aj e1
  obtain ⟨⟨i, k, rfl, hg, hD⟩, hW, hr⟩ := a0y d _ _ _ h40 hwt e3
  obtain ⟨G2, r3, e5, e6⟩ := Aj e4
  cases e6
  obtain ⟨q, q1, q2, q3, q4, q5⟩ := Hp e5 h40 hr
  cases q2
  obtain ⟨a6, a7⟩ := q5 q3
  have h19 : i.kind = 19 := by
   unfold Am at e3
   obtain ⟨t, l, ht, hk⟩ := L4 h2 (by decide)
   rw [ht] at e3
   have : Ez (YtoaplbljflhheaaGreat.hd (t :: l)) = some (19, t.text) := by show Ez t = _; unfold Ez; rw [if_pos hk]
   rw [this] at e3
   cases e3
   rfl
  refine ⟨⟨_, _, rfl, ⟨?_, ?_, Nat.le_of_ble_eq_true rfl, Nat.le_of_ble_eq_true rfl⟩, ?_⟩, ?_, a7⟩
  ·show (true && true && (Al [[19].contains] [i.kind] || Al [[20].contains, Ak] [i.kind])) = true
   rw [h19]; rfl
  ·show (De i k && Bd k && true) = true
   rw [hg.1, hg.2.1]; rfl
  ·rw [Cd (show ¬ lvl (mkK 32 ts) < 8 from by show ¬ (8 : Nat) < 8; omega)]
   show d + max (DP i k) (1 + 0) ≤ 40
   omega
  ·simp only [wF] at hW
   show 22 + 4 * 0 + ((22 + 4 * i.text.length) + wF k + 0) + 0 + wL r ≤ wL ts
   omega
 ·obtain ⟨G, r2, e3, e4⟩ := Aj e1
  obtain ⟨⟨i, k, rfl, hg, hD⟩, hW, hr⟩ := Nq (a6q n) d _ _ _ h40 hwt e3
  obtain ⟨G2, r3, e5, e6⟩ := Aj e4
  cases e6
  obtain ⟨q, q1, q2, q3, q4, q5⟩ := Hp e5 h40 hr
  obtain ⟨⟨j, m, rfl, hg2, hD2⟩, hW2, hr2⟩ := hE (d + 1) _ _ _ q1 q3 q2
  rw [a4f hg2] at hD2
  obtain ⟨a6, a7⟩ := q5 hr2
  have h20 : i.kind = 20 := by
   obtain ⟨F3, r4, e7, e8⟩ := Aj e3
   cases e8
   rfl
  refine ⟨⟨_, _, rfl, ⟨?_, ?_, Nat.le_of_ble_eq_true rfl, Nat.le_of_ble_eq_true rfl⟩, ?_⟩, ?_, a7⟩
  ·show (true && true && (Al [[19].contains] [i.kind, j.kind] || Al [[20].contains, Ak] [i.kind, j.kind])) = true
   rw [h20]
   have := hg2.exp
   simp [Al, List.range, List.range.loop, this]
  ·show (De i k && Bd k && (De j m && Bd m && true)) = true
   rw [hg.1, hg.2.1, hg2.1, hg2.2.1]; rfl
  ·rw [Cd (show ¬ lvl (mkK 32 ts) < 8 from by show ¬ (8 : Nat) < 8; omega)]
   show d + max (DP i k) (1 + DP j m) ≤ 40
   omega
  ·simp only [wF] at hW hW2
   show 22 + 4 * 0 + ((22 + 4 * i.text.length) + wF k + ((22 + 4 * j.text.length) + wF m + 0)) + 0 + wL r ≤ wL ts
   omega
theorem b34 (n : Nat) : DxP 8 (Du E n) := fun d ts F r h40 hw e => by
 unfold Du at e
 split at e
 ·obtain ⟨q, q1, q2, q3, q4, q5⟩ := Hp e h40 hw
  obtain ⟨⟨i, k, rfl, hg, hD⟩, hW, hr⟩ := hE (d + 1) _ _ _ q1 q3 q2
  obtain ⟨a6, a7⟩ := q5 hr
  rw [a4f hg] at hD
  have := b5l 8 i k
  exact ⟨⟨i, k, rfl, hg, by omega⟩, by omega, a7⟩
 ·split at e
  ·rename_i h
   exact b32 hE n d ts F r h40 hw h e
  ·split at e
   ·rename_i h
    exact b31 hE n d ts F r h40 hw h e
   ·exact a9x d ts F r h40 hw e
theorem Se : ∀ n d (F G : Fo) ts0 ts r, d ≤ 40 → Dx 8 d F ts0 ts → Cr E n F d ts = .ok G r → Dx 8 d G ts0 r
 | 0, _, _, _, _, _, _, _, _, e => by cases e
 | n + 1, d, F, G, ts0, ts, r, h40, hF, e => by
  unfold Cr at e
  obtain ⟨⟨i, k, rfl, hg, hD⟩, hW, hw⟩ := hF
  split at e
  ·obtain ⟨F1, r1, e1, e2⟩ := Aj e
   obtain ⟨q, q1, q2, q3, q4, q5⟩ := Hp e1 h40 hw
   obtain ⟨⟨j, m, rfl, hg2, hD2⟩, hW2, hr2⟩ := hE (d + 1) _ _ _ q1 q3 q2
   rw [a4f hg2] at hD2
   obtain ⟨a6, a7⟩ := q5 hr2
   refine Se n d _ G ts0 r1 r h40 ⟨⟨_, _, rfl, ⟨?_, ?_, Nat.le_of_ble_eq_true rfl, Nat.le_of_ble_eq_true rfl⟩, ?_⟩, ?_, a7⟩ e2
   ·show (true && true && Al [Ak, Ak] [i.kind, j.kind]) = true
    have h1 := hg.exp
    have h2 := hg2.exp
    simp [Al, List.range, List.range.loop, h1, h2]
   ·show (De i k && Bd k && (De j m && Bd m && true)) = true
    rw [hg.1, hg.2.1, hg2.1, hg2.2.1]; rfl
   ·rw [Cd (show ¬ lvl (mkK 28 ts) < 8 from by show ¬ (8 : Nat) < 8; omega)]
    show d + max (BD 8 i k) (1 + DP j m) ≤ 40
    omega
   ·simp only [wF] at hW hW2
    show 22 + 4 * 0 + ((22 + 4 * i.text.length) + wF k + ((22 + 4 * j.text.length) + wF m + 0)) + 0 + wL r1 ≤ wL ts0
    omega
  ·split at e
   ·rename_i h46
    obtain ⟨F1, r1, e1, e2⟩ := Aj e
    have hsw := Ls h46
    have hwt := Da hw
    unfold J1 Gx at e1
    split at e1
    ·rename_i hk
     cases e1
     have hk : (YtoaplbljflhheaaGreat.hd ts.tail).kind = 1 := by simpa using hk
     obtain ⟨t, l, ht, hk1, hkw⟩ := a6i hk (by decide)
     have hn := (hwt t (by rw [ht]; simp)).1 hk1
     have hy : (mkY 29 ts).text = t.text := by show (YtoaplbljflhheaaGreat.hd ts.tail).text = _; rw [ht]; rfl
     refine Se n d _ G ts0 _ r h40 ⟨⟨mkY 29 ts, _, rfl, ⟨?_, ?_, Nat.le_of_ble_eq_true rfl, Nat.le_of_ble_eq_true rfl⟩, ?_⟩, ?_, Da hwt⟩ e2
     ·show (Dv (mkY 29 ts).text && true && Al [Ak] [i.kind]) = true
      rw [hy, hn]
      have h1 := hg.exp
      simp [Al, List.range, List.range.loop, h1]
     ·show (De i k && Bd k && true) = true
      rw [hg.1, hg.2.1]; rfl
     ·rw [Cd (show ¬ lvl (mkY 29 ts) < 8 from by show ¬ (8 : Nat) < 8; omega)]
      exact hD
     ·simp only [wF] at hW
      show 22 + 4 * (mkY 29 ts).text.length + ((22 + 4 * i.text.length) + wF k + 0) + 0 + wL ts.tail.tail ≤ wL ts0
      rw [hy, ht]
      show 22 + 4 * t.text.length + ((22 + 4 * i.text.length) + wF k + 0) + 0 + wL l ≤ wL ts0
      omega
    ·cases e1
   ·cases e
    exact ⟨⟨i, k, rfl, hg, hD⟩, hW, hw⟩
theorem b3z (n : Nat) : DxP 8 (Fv E n) := fun d ts F r h40 hw e => by
 obtain ⟨F1, r1, e1, e2⟩ := Aj e
 exact Se hE n d F1 F ts r1 r h40 (b34 hE n d ts F1 r1 h40 hw e1) e2
end
end Go.Proofs.YtoaplbljflhheaaGreat
namespace Go.Proofs.YtoaplbljflhheaaGreat
theorem b4c {S : List (List UInt8)} {ts : List Tok} (h : anyS S ts = true) : (hd ts).text ∈ S ∧ 22 + wL ts.tail ≤ wL ts := by
 obtain ⟨x, hx, hs⟩ := List.any_eq_true.mp h
 refine ⟨?_, Ls hs⟩
 have : (YtoaplbljflhheaaGreat.hd ts).text = x := by
  unfold sees H8 at hs
  exact (of_decide_eq_true hs).2
 rw [this]; exact hx
theorem b5g {L d : Nat} {ts r ts0 r0 : List Tok} {F G : Fo} {op : Int} {l c : Nat} (hL : 1 ≤ L ∧ L ≤ 6) (ho : (opS op).2 = L) (hn : Cs 31 op = true) (h1 : Dx (C6 L) d F ts0 ts) (h2 : Dx (L + 1) d G r0 r) (hw : wL r0 + 22 ≤ wL ts) (h40 : d ≤ 40) :
  Dx L d (.cons ⟨31, l, c, op, []⟩ (F.app G) .nil) ts0 r := by
 obtain ⟨⟨i, k, rfl, hg, hD⟩, hW, hr⟩ := h1
 obtain ⟨⟨j, m, rfl, hg2, hD2⟩, hW2, hr2⟩ := h2
 have hl : lvl ⟨31, l, c, op, []⟩ = L := ho
 refine ⟨⟨_, _, rfl, ⟨?_, ?_, Nat.le_of_ble_eq_true rfl, Nat.le_of_ble_eq_true rfl⟩, ?_⟩, ?_, hr2⟩
 ·show (true && Cs 31 op && Al [Ak, Ak] [i.kind, j.kind]) = true
  have h1 := hg.exp
  have h2 := hg2.exp
  simp [Al, List.range, List.range.loop, h1, h2, hn]
 ·show (De i k && Bd k && (De j m && Bd m && true)) = true
  rw [hg.1, hg.2.1, hg2.1, hg2.2.1]; rfl
 ·rw [Cd (by rw [hl]; omega)]
  show d + max (BD (C6 (opS op).2) i k) (BD ((opS op).2 + 1) j m) ≤ 40
  rw [ho]
  omega
 ·simp only [wF] at hW hW2
  show 22 + 4 * 0 + ((22 + 4 * i.text.length) + wF k + ((22 + 4 * j.text.length) + wF m + 0)) + 0 + wL r ≤ wL ts0
  omega
def LvS (L : Nat) (S : List (List UInt8)) : Prop := ∀ x ∈ S, (opS (Hh x)).2 = L ∧ Cs 31 (Hh x) = true
theorem Ty {p : Pt} {L : Nat} (hp : DxP (L + 1) p) {S : List (List UInt8)} (hS : LvS L S) (hL : 1 ≤ L ∧ L ≤ 6) {d : Nat} {F G : Fo} {ts0 ts r : List Tok} (h40 : d ≤ 40) (hs : anyS S ts = true) (h : Dx (C6 L) d F ts0 ts) (e : Ct p F d ts = .ok G r) : Dx L d G ts0 r := by
 obtain ⟨F1, r1, e1, e2⟩ := Aj e
 cases e2
 obtain ⟨q1, q2⟩ := b4c hs
 exact b5g hL (hS _ q1).1 (hS _ q1).2 h (hp d _ _ _ h40 (Da h.2.2) e1) (by omega) h40
theorem Tz {p : Pt} {L : Nat} (hp : DxP (L + 1) p) {S : List (List UInt8)} (hS : LvS L S) (hL : 1 ≤ L ∧ L ≤ 6) (hl : C6 L = L) : ∀ n d (F G : Fo) ts0 ts r, d ≤ 40 → Dx L d F ts0 ts → B9 p S n F d ts = .ok G r → Dx L d G ts0 r
 | 0, _, _, _, _, _, _, _, _, e => by cases e
 | n + 1, d, F, G, ts0, ts, r, h40, hF, e => by
  unfold B9 at e
  split at e
  ·rename_i h
   obtain ⟨F1, r1, e1, e2⟩ := Aj e
   exact Tz hp hS hL hl n d F1 G ts0 r1 r h40 (Ty hp hS hL h40 h (by rw [hl]; exact hF) e1) e2
  ·cases e; exact hF
theorem Ow {p : Pt} {L : Nat} (hp : DxP (L + 1) p) {S : List (List UInt8)} (hS : LvS L S) (hL : 1 ≤ L ∧ L ≤ 6) (hl : C6 L = L) (n : Nat) : DxP L (Ce p S n) := fun d ts F r h40 hw e => by
 obtain ⟨F1, r1, e1, e2⟩ := Aj e
 exact Tz hp hS hL hl n d F1 F ts r1 r h40 ((hp d ts F1 r1 h40 hw e1).mono (by omega)) e2
theorem a6r {p : Pt} {L : Nat} (hp : DxP (L + 1) p) {S : List (List UInt8)} (hS : LvS L S) (hL : 1 ≤ L ∧ L ≤ 6) (hl : C6 L = L + 1) : DxP L (Hf p S) := fun d ts F r h40 hw e => by
 obtain ⟨F1, r1, e1, e2⟩ := Aj e
 have h1 := hp d ts F1 r1 h40 hw e1
 split at e2
 ·rename_i h
  exact Ty hp hS hL h40 h (by rw [hl]; exact h1) e2
 ·cases e2; exact h1.mono (by omega)
theorem b30 {U : Pt} (hU : DxP 7 U) {op : Int} {x : List UInt8} (ho : (opS op).2 = 7) (hn : Cs 30 op = true) {d : Nat} {ts r : List Tok} {F : Fo} (h40 : d ≤ 40) (hw : WfL ts) (hs : sees x ts = true) (e : Dm (mkN 30 op) (By U) d ts = .ok F r) : Dx 7 d F ts r := by
 obtain ⟨F1, r1, e1, e2⟩ := Aj e
 cases e2
 obtain ⟨q1, q2⟩ := Tw e1 h40
 obtain ⟨⟨i, k, rfl, hg, hD⟩, hW, hr⟩ := hU _ _ _ _ q1 (Da hw) q2
 have hs := Ls hs
 have hl : lvl (mkN 30 op ts) = 7 := ho
 refine ⟨⟨_, _, rfl, ⟨?_, ?_, Nat.le_of_ble_eq_true rfl, Nat.le_of_ble_eq_true rfl⟩, ?_⟩, ?_, hr⟩
 ·show (true && Cs 30 op && Al [Ak] [i.kind]) = true
  have h1 := hg.exp
  simp [Al, List.range, List.range.loop, h1, hn]
 ·show (De i k && Bd k && true) = true
  rw [hg.1, hg.2.1]; rfl
 ·rw [Cd (by rw [hl]; omega)]
  show d + (1 + BD 7 i k) ≤ 40
  omega
 ·simp only [wF] at hW
  show 22 + 4 * 0 + ((22 + 4 * i.text.length) + wF k + 0) + 0 + wL r ≤ wL ts
  omega
theorem a9w {U p : Pt} (hU : DxP 7 U) (hp : DxP 8 p) : DxP 7 (Cq U p) := fun d ts F r h40 hw e => by
 unfold Cq at e
 split at e
 ·rename_i h; exact b30 hU rfl rfl h40 hw h e
 ·split at e
  ·rename_i h; exact b30 hU rfl rfl h40 hw h e
  ·exact (hp d ts F r h40 hw e).mono (by omega)
theorem b6x {u : Pt} (hu : DxP 7 u) (n : Nat) : DxP 1 (orP u n) := by
 have h6 : DxP 6 (a2b u n) := Ow (L := 6) hu (by intro x hx; simp only [List.mem_cons, List.not_mem_nil, or_false] at hx; rcases hx with rfl | rfl | rfl <;> exact ⟨rfl, rfl⟩) (by omega) rfl n
 have h5 : DxP 5 (b4n u n) := Ow (L := 5) h6 (by intro x hx; simp only [List.mem_cons, List.not_mem_nil, or_false] at hx; rcases hx with rfl | rfl <;> exact ⟨rfl, rfl⟩) (by omega) rfl n
 have h4 : DxP 4 (a31 u n) := a6r (L := 4) h5 (by intro x hx; simp only [List.mem_cons, List.not_mem_nil, or_false] at hx; rcases hx with rfl | rfl | rfl | rfl <;> exact ⟨rfl, rfl⟩) (by omega) rfl
 have h3 : DxP 3 (Tr u n) := a6r (L := 3) h4 (by intro x hx; simp only [List.mem_cons, List.not_mem_nil, or_false] at hx; rcases hx with rfl | rfl <;> exact ⟨rfl, rfl⟩) (by omega) rfl
 have h2 : DxP 2 (b4v u n) := Ow (L := 2) h3 (by intro x hx; simp only [List.mem_cons, List.not_mem_nil, or_false] at hx; rcases hx with rfl <;> exact ⟨rfl, rfl⟩) (by omega) rfl n
 exact Ow (L := 1) h2 (by intro x hx; simp only [List.mem_cons, List.not_mem_nil, or_false] at hx; rcases hx with rfl <;> exact ⟨rfl, rfl⟩) (by omega) rfl n
theorem b33 : ∀ n, DxP 1 (Aw n) ∧ DxP 7 (unP n)
 | 0 => by constructor <;> (intro d ts F r _ _ e; cases e)
 | n + 1 => by
  have hu : DxP 7 (unP (n + 1)) := by rw [Nv]; exact a9w (b33 n).2 (b3z (b33 n).1 (n + 1))
  exact ⟨by rw [H6]; exact b6x hu (n + 1), hu⟩
end Go.Proofs.YtoaplbljflhheaaGreat
namespace Go.Proofs.YtoaplbljflhheaaGreat
theorem a2p : ∀ n (m : List UInt8), m.length ≤ n → (C8 m).2.2 = true → (C8 m).1.length + 1 ≤ (C8 m).2.1 := by
 intro n
 induction n with
 | zero =>
  intro m hm h
  obtain rfl : m = [] := List.eq_nil_of_length_eq_zero (by omega)
  simp [C8, rb] at h
 | succ n ih =>
  intro m hm h
  by_cases hq : m.head? = some 34
  ·rw [Eh m hq]; exact Nat.le_refl _
  ·by_cases hb : (rb m).2.2 = true
   ·have hs := Ft m hq hb
    have hz := Ik m hb
    have h1 := ih (m.drop (rb m).2.1) (by simp; omega) (by rw [hs] at h; exact h)
    rw [hs]
    simp only [List.length_cons]
    omega
   ·rw [Hs m hq (by simpa using hb)] at h
    cases h
theorem a2z (l : List UInt8) (h : (A5 l).2.2 = true) : (A5 l).1.length ≤ (A5 l).2.1 := by
 obtain ⟨t, rfl⟩ := Pp l h
 rw [Jv] at h ⊢
 have := a2p _ t (Nat.le_refl _) h
 simp only
 omega
theorem a3f (l : List UInt8) : ∀ c ∈ Rw l, dgt c = true := fun c hc => Sy dgt l c (List.mem_of_mem_drop hc)
theorem Y3 {l : List UInt8} (h : ∀ c ∈ l, dgt c = true) : 0 ≤ Nm.parseN l := by
 have hn : Nm.negB l = false := by
  cases l with
  | nil => rfl
  | cons c t =>
   have := h c (by simp)
   unfold dgt at this
   rw [Bool.and_eq_true, decide_eq_true_eq, decide_eq_true_eq] at this
   unfold Nm.negB
   show (c == 45) = false
   rw [beq_eq_false_iff_ne]
   rintro rfl
   exact absurd this.1 (by decide)
 unfold Nm.parseN
 rw [hn]
 split
 ·split
  ·exact Int.le_refl _
  ·rw [if_neg (by decide)]; exact Int.natCast_nonneg _
 ·exact Int.le_refl _
theorem a6e (l : List UInt8) (a b : Nat) (hl : l ≠ []) (h : (one l).err = 0) : WfT ⟨(one l).kind, a, b, (one l).num, (one l).text⟩ ∧ (one l).text.length ≤ (one l).size := by
 unfold one at *
 split at h
 ·rename_i h1
  rw [if_pos h1]
  have hp : 1 ≤ Cb nam l := I2 (by unfold nam; rw [h1]; rfl) hl
  have hall := Sy nam l
  have hall' : (l.take (Cb nam l)).all nam = true := List.all_eq_true.mpr hall
  have hd : (l.take (Cb nam l)).headD 0 = l.headD 0 := by
   cases l with
   | nil => exact absurd rfl hl
   | cons c t =>
    obtain ⟨m, hm⟩ : ∃ m, Cb nam (c :: t) = m + 1 := ⟨Cb nam (c :: t) - 1, by omega⟩
    rw [hm]; rfl
  have he : (l.take (Cb nam l)).isEmpty = false := by
   cases l with
   | nil => exact absurd rfl hl
   | cons c t =>
    obtain ⟨m, hm⟩ : ∃ m, Cb nam (c :: t) = m + 1 := ⟨Cb nam (c :: t) - 1, by omega⟩
    rw [hm]; rfl
  refine ⟨⟨?_, ?_, ?_, ?_⟩, ?_⟩
  ·intro hk
   have hk : Mu l = 1 := hk
   show Dv (l.take (Cb nam l)) = true
   unfold Mu at hk
   split at hk
   ·cases hk
   ·rename_i hw
    split at hk
    ·cases hk
    ·rename_i hg
     have hs : sml (l.headD 0) = true := by
      cases hx : sml (l.headD 0)
      ·rw [hx] at h1; simp at h1; rw [Bool.not_eq_true] at hg; simp [h1] at hg
      ·rfl
     unfold Dv Ii
     rw [he, hd, b1x, hs, hall', Bool.eq_false_iff.mpr hw]
     rfl
  ·intro hk
   have hk : Mu l = 2 := hk
   show Eu (l.take (Cb nam l)) = true
   unfold Mu at hk
   split at hk
   ·cases hk
   ·split at hk
    ·rename_i hg
     unfold Eu Ii
     rw [he, hd, b3e, hg, hall']
     rfl
    ·cases hk
  ·intro hk
   have hk : Mu l = 3 := hk
   unfold Mu at hk
   split at hk
   ·cases hk
   ·split at hk <;> cases hk
  ·intro hk
   have hk : Mu l = 4 := hk
   unfold Mu at hk
   split at hk
   ·cases hk
   ·split at hk <;> cases hk
  ·show (l.take (Cb nam l)).length ≤ Cb nam l
   rw [List.length_take]; omega
 ·rename_i h1
  rw [if_neg h1]
  split at h
  ·rename_i h2
   rw [if_pos h2]
   unfold Ke at *
   split at h
   ·simp [bad] at h
   ·rename_i h3
    rw [if_neg h3]
    split at h
    ·simp [bad] at h
    ·rename_i h4
     rw [if_neg h4]
     have hp := Y3 (a3f l)
     have hr := Nm.parse_range (Rw l)
     refine ⟨⟨?_, ?_, ?_, ?_⟩, Nat.zero_le _⟩
     ·intro hk
      have hk : (if isC l = true then 4 else 3) = 1 := hk
      split at hk <;> cases hk
     ·intro hk
      have hk : (if isC l = true then 4 else 3) = 2 := hk
      split at hk <;> cases hk
     ·intro _; exact ⟨hp, hr.2⟩
     ·intro hk
      have hk : (if isC l = true then 4 else 3) = 4 := hk
      split at hk
      ·rename_i hc
       have : Zb l = 8388607 := by unfold Zb; rw [if_pos hc]
       rw [this] at h4
       refine ⟨hp, ?_⟩
       show Nm.parseN (Rw l) < 8388608
       omega
      ·cases hk
  ·rename_i h2
   rw [if_neg h2]
   split at h
   ·rename_i h3
    rw [if_pos h3]
    unfold L3 at *
    split at h
    ·rename_i h4
     rw [if_pos h4]
     exact ⟨⟨fun hk => absurd hk (by show ¬ (5 : Nat) = 1; decide), fun hk => absurd hk (by show ¬ (5 : Nat) = 2; decide), fun hk => absurd hk (by show ¬ (5 : Nat) = 3; decide), fun hk => absurd hk (by show ¬ (5 : Nat) = 4; decide)⟩, a2z l h4⟩
    ·simp [bad] at h
   ·rename_i h3
    rw [if_neg h3]
    unfold Lp at *
    split at h
    ·simp [bad] at h
    ·rename_i h4
     rw [if_neg h4]
     refine ⟨⟨fun hk => absurd hk (by show ¬ (7 : Nat) = 1; decide), fun hk => absurd hk (by show ¬ (7 : Nat) = 2; decide), fun hk => absurd hk (by show ¬ (7 : Nat) = 3; decide), fun hk => absurd hk (by show ¬ (7 : Nat) = 4; decide)⟩, ?_⟩
     show (l.take (sgn l)).length ≤ sgn l
     rw [List.length_take]; omega
theorem Ig : ∀ n (l : List UInt8) (a b : Nat) (ts : List Tok), l.length ≤ n → D7 l a b = .ok ts → WfL ts ∧ wL ts ≤ 26 * l.length + 22
 | n, [], a, b, ts, _, e => by
  rw [Iy] at e
  cases e
  refine ⟨fun t ht => ?_, Nat.le_refl _⟩
  rw [List.mem_singleton] at ht
  subst ht
  exact ⟨fun hk => absurd hk (by show ¬ (8 : Nat) = 1; decide), fun hk => absurd hk (by show ¬ (8 : Nat) = 2; decide), fun hk => absurd hk (by show ¬ (8 : Nat) = 3; decide), fun hk => absurd hk (by show ¬ (8 : Nat) = 4; decide)⟩
 | 0, c :: t, _, _, _, hn, _ => by simp at hn
 | n + 1, c :: t, a, b, ts, hn, e => by
  rw [List.length_cons] at hn ⊢
  by_cases hg : F6 c
  ·rcases hg with rfl | h
   ·rw [Nx] at e
    obtain ⟨h1, h2⟩ := Ig n t _ _ ts (by omega) e
    exact ⟨h1, by omega⟩
   ·by_cases h35 : c = 35
    ·subst h35
     rw [Lm] at e
     obtain ⟨h1, h2⟩ := Ig n _ _ _ ts (by rw [List.length_drop]; omega) e
     rw [List.length_drop] at h2
     exact ⟨h1, by omega⟩
    ·rw [Eg c t a b (by rcases h with h | h | h | h <;> simp [h] at h35 ⊢)] at e
     obtain ⟨h1, h2⟩ := Ig n t _ _ ts (by omega) e
     exact ⟨h1, by omega⟩
  ·by_cases h0 : (one (c :: t)).err = 0
   ·rw [Kr c t a b hg h0] at e
    obtain ⟨o1, o2⟩ := Lz (c :: t) (by simp) h0
    obtain ⟨w1, w2⟩ := a6e (c :: t) a b (by simp) h0
    rw [List.length_cons] at o2
    cases hr : D7 ((c :: t).drop (one (c :: t)).size) a (b + (one (c :: t)).size) with
    | error x => rw [hr] at e; cases e
    | ok r =>
     rw [hr] at e
     cases e
     obtain ⟨h1, h2⟩ := Ig n _ _ _ r (by rw [List.length_drop, List.length_cons]; omega) hr
     rw [List.length_drop, List.length_cons] at h2
     refine ⟨fun x hx => ?_, ?_⟩
     ·rcases List.mem_cons.mp hx with rfl | hx
      ·exact w1
      ·exact h1 x hx
     ·show 22 + 4 * (one (c :: t)).text.length + wL r ≤ _
      omega
   ·rw [Ny c t a b hg h0] at e
    cases e
end Go.Proofs.YtoaplbljflhheaaGreat
namespace Go.Proofs.YtoaplbljflhheaaGreat
theorem a1g (i : Inf) (h : i.num ≤ 9223372036854775807) (h2 : i.kind = 22 → i.num < 8388608) : (D5 i).length ≤ 4 * i.text.length + 20 := by
 have h1 := Nm.dec_len_le i.num.toNat (by omega)
 have h3 := Og i.text
 have hb := Ld i.text
 unfold D5
 split
 ·omega
 ·split
  ·rename_i hk
   have h4 := h2 hk
   have h5 : (Nm.dec i.num.toNat).length ≤ 19 := by
    have e : ∀ k n, n < 10 ^ (k + 1) → (Nm.dec n).length ≤ k + 1 := fun k => by
     induction k with
     | zero => intro n hn; rw [Nm.dec_small (by omega)]; exact Nat.le_refl _
     | succ k ih =>
      intro n hn
      by_cases h : n < 10
      ·rw [Nm.dec_small h]; simp
      ·rw [Nm.dec_big h, List.length_append]
       have := ih (n / 10) (by rw [Nat.pow_succ] at hn; omega)
       simp; omega
    have := e 6 i.num.toNat (by have : (10 : Nat) ^ 7 = 10000000 := rfl; show i.num.toNat < 10 ^ 7; omega)
    omega
   rw [List.length_append]; simp; omega
  ·split
   ·omega
   ·split
    ·split <;> simp <;> omega
    ·split
     ·simp <;> omega
     ·omega
theorem Zi (n : Nat) (i : Inf) (ks : List Tx) (h : i.num ≤ 9223372036854775807) (h2 : i.kind = 22 → i.num < 8388608) (hk : 15 ≤ i.kind ∧ i.kind ≤ 32) : (Ee n i ks).length ≤ 4 * i.text.length + 20 + Iv ks + ks.length * 2 := by
 have k3 := b4p ks
 have c1 := Gb ks
 have c3 := Gb ks.tail
 have ct : ks.tail.length ≤ ks.length := by rw [List.length_tail]; omega
 have b0 := fun m => O2 m (kth ks 0)
 have b1 := fun m => O2 m (kth ks 1)
 have o := a6d i.num
 have a := a1g i h h2
 have ty := Sn i ks
 have ts := Sq ks
 have hc : i.kind = 15 ∨ i.kind = 16 ∨ i.kind = 17 ∨ i.kind = 18 ∨ i.kind = 19 ∨ i.kind = 20 ∨ i.kind = 21 ∨ i.kind = 22 ∨ i.kind = 23 ∨ i.kind = 24 ∨ i.kind = 25 ∨ i.kind = 26 ∨ i.kind = 27 ∨ i.kind = 28 ∨ i.kind = 29 ∨ i.kind = 30 ∨ i.kind = 31 ∨ i.kind = 32 := by omega
 obtain ⟨kd, ln, cl, num, tx⟩ := i
 simp only at hc a ty o
 rcases hc with rfl | rfl | rfl | rfl | rfl | rfl | rfl | rfl | rfl | rfl | rfl | rfl | rfl | rfl | rfl | rfl | rfl | rfl
 ·exact (show (Kk _ ks).length ≤ _ by simp only; omega)
 ·exact (show (Kk _ ks).length ≤ _ by simp only; omega)
 ·exact (show (Kk _ ks).length ≤ _ by simp only; omega)
 ·exact (show (Kk _ ks).length ≤ _ by simp only; omega)
 ·exact (show (Kk _ ks).length ≤ _ by simp only; omega)
 ·exact (show (Kk _ ks).length ≤ _ by simp only; omega)
 ·exact (show (D5 _).length ≤ _ by simp only; omega)
 ·exact (show (D5 _).length ≤ _ by simp only; omega)
 ·exact (show (D5 _).length ≤ _ by simp only; omega)
 ·exact (show (D5 _).length ≤ _ by simp only; omega)
 ·exact (show (D5 _).length ≤ _ by simp only; omega)
 ·exact (show (D5 _).length ≤ _ by simp only; omega)
 ·show (tx ++ [40] ++ Cm ks ++ [41]).length ≤ 4 * tx.length + 20 + Iv ks + ks.length * 2
  simp only [List.length_append, List.length_cons, List.length_nil]; omega
 ·have := b0 8
  show (brk 8 (kth ks 0) ++ [91] ++ (kth ks 1).2 ++ [93]).length ≤ 4 * tx.length + 20 + Iv ks + ks.length * 2
  simp only [List.length_append, List.length_cons, List.length_nil]; omega
 ·have := b0 8
  show (brk 8 (kth ks 0) ++ [46] ++ tx).length ≤ 4 * tx.length + 20 + Iv ks + ks.length * 2
  simp only [List.length_append, List.length_cons, List.length_nil]; omega
 ·have := b0 7
  show ((opS num).1 ++ brk 7 (kth ks 0)).length ≤ 4 * tx.length + 20 + Iv ks + ks.length * 2
  simp only [List.length_append, List.length_cons, List.length_nil]; omega
 ·have := b0 (C6 (opS num).2)
  have := b1 ((opS num).2 + 1)
  show (brk (C6 (opS num).2) (kth ks 0) ++ [32] ++ (opS num).1 ++ [32] ++ brk ((opS num).2 + 1) (kth ks 1)).length ≤ 4 * tx.length + 20 + Iv ks + ks.length * 2
  simp only [List.length_append, List.length_cons, List.length_nil]; omega
 ·show ([109, 97, 107, 101, 32] ++ (kth ks 0).2 ++ [40] ++ Cm ks.tail ++ [41]).length ≤ 4 * tx.length + 20 + Iv ks + ks.length * 2
  simp only [List.length_append, List.length_cons, List.length_nil]; omega
def Xok (F : Fo) : Prop := ∀ x ∈ Cx F, x.1.num ≤ 9223372036854775807 ∧ (x.1.kind = 22 → x.1.num < 8388608) ∧ 15 ≤ x.1.kind ∧ x.1.kind ≤ 32
theorem Uo (F : Fo) : ∀ n, Xok F → Iv (Ci n F) + (Ci n F).length * 2 ≤ wF F := by
 induction F with
 | nil => intro n _; simp [Ci, Iv, wF]
 | cons i k r ihk ihr =>
  intro n h
  obtain ⟨hi1, hi2, hi3⟩ := h (i, k) (by simp [Cx])
  have h1 := ihk (Cv n i) (fun x hx => h x (by simp [Cx, hx]))
  have h2 := ihr n (fun x hx => h x (by simp [Cx, hx]))
  have h3 := Zi n i (Ci (Cv n i) k) hi1 hi2 hi3
  rw [Ci, Bh, List.length_cons, Nat.succ_mul, wF]
  simp only
  omega
end Go.Proofs.YtoaplbljflhheaaGreat
namespace Go.Proofs.YtoaplbljflhheaaGreat
def SmT (ts us : List Tok) : Prop := ts.map tkB = us.map tkB
def SmO : Out → Out → Prop
 | .ok F r, .ok G q => Bk F = Bk G ∧ SmT r q
 | .bad c _ _, .bad c' _ _ => c = c'
 | _, _ => False
def Npl (p : Pt) : Prop := ∀ d ts us, SmT ts us → SmO (p d ts) (p d us)
theorem SmT.tail {ts us : List Tok} (h : SmT ts us) : SmT ts.tail us.tail := by
 unfold SmT at *
 rw [List.map_tail, List.map_tail, h]
theorem SmT.hd {ts us : List Tok} (h : SmT ts us) : tkB (hd ts) = tkB (hd us) := by
 unfold SmT at h
 cases ts with
 | nil =>
  cases us with
  | nil => rfl
  | cons y l => cases h
 | cons x k =>
  cases us with
  | nil => cases h
  | cons y l => simp at h; exact h.1
theorem SmT.kind {ts us : List Tok} (h : SmT ts us) : (YtoaplbljflhheaaGreat.hd ts).kind = (YtoaplbljflhheaaGreat.hd us).kind := by have := congrArg Tok.kind h.hd; exact this
theorem SmT.text {ts us : List Tok} (h : SmT ts us) : (YtoaplbljflhheaaGreat.hd ts).text = (YtoaplbljflhheaaGreat.hd us).text := by have := congrArg Tok.text h.hd; exact this
theorem SmT.num {ts us : List Tok} (h : SmT ts us) : (YtoaplbljflhheaaGreat.hd ts).num = (YtoaplbljflhheaaGreat.hd us).num := by have := congrArg Tok.num h.hd; exact this
theorem SmT.sees {ts us : List Tok} (h : SmT ts us) (x : List UInt8) : sees x ts = sees x us := by
 unfold YtoaplbljflhheaaGreat.sees H8
 rw [h.kind, h.text]
theorem SmT.anyS {ts us : List Tok} (h : SmT ts us) (S : List (List UInt8)) : anyS S ts = anyS S us := by
 unfold YtoaplbljflhheaaGreat.anyS
 congr 1
 funext x
 exact h.sees x
theorem H7 (F G : Fo) : Bk (F.app G) = (Bk F).app (Bk G) := by
 induction F with
 | nil => rfl
 | cons i k r _ ih => simp [Fo.app, Bk, ih]
theorem SmO.bind {o o' : Out} {f g : Fo → List Tok → Out} (h : SmO o o') (k : ∀ F G r q, Bk F = Bk G → SmT r q → SmO (f F r) (g G q)) : SmO (o.bind f) (o'.bind g) := by
 cases o with
 | ok F r =>
  cases o' with
  | ok G q => exact k F G r q h.1 h.2
  | bad => exact h.elim
 | bad c l m =>
  cases o' with
  | ok G q => exact h.elim
  | bad => exact h
theorem L0 : Npl C2 := fun d ts us h => ⟨rfl, h⟩
theorem I9 : Npl H9 := fun d ts us h => rfl
theorem a3h (x : List UInt8) : Npl (take x) := fun d ts us h => by
 unfold take Gx
 rw [h.sees]
 split
 ·exact ⟨rfl, h.tail⟩
 ·exact rfl
theorem a3l (k : Nat) : Npl (J1 k) := fun d ts us h => by
 unfold J1 Gx
 show SmO (if decide ((YtoaplbljflhheaaGreat.hd ts).kind = k) = true then _ else _) (if decide ((YtoaplbljflhheaaGreat.hd us).kind = k) = true then _ else _)
 rw [h.kind]
 split
 ·exact ⟨rfl, h.tail⟩
 ·exact rfl
theorem Rx {a b : Pt} (ha : Npl a) (hb : Npl b) : Npl (Lr a b) := fun d ts us h =>
 (ha d ts us h).bind fun F G r q e1 e2 => (hb d r q e2).bind fun F' G' r' q' e3 e4 => ⟨by rw [H7, H7, e1, e3], e4⟩
theorem P0 {p : Pt} (hp : Npl p) : Npl (Fc p) := fun d ts us h => hp d _ _ h.tail
theorem Ze {a b : Pt} (x : List UInt8) (ha : Npl a) (hb : Npl b) : Npl (L5 x a b) := fun d ts us h => by
 unfold L5
 rw [h.sees]
 split
 ·exact ha d _ _ h
 ·exact hb d _ _ h
theorem Jz {p : Pt} (hp : Npl p) : Npl (By p) := fun d ts us h => by
 unfold By
 split
 ·exact rfl
 ·exact hp _ _ _ h.tail
theorem Ej {p : Pt} (o c : List UInt8) (hp : Npl p) : Npl (Ax o c p) := fun d ts us h => by
 unfold Ax
 rw [h.sees]
 split
 ·exact Rx (Jz hp) (a3h c) d _ _ h
 ·exact rfl
theorem Ja {mk : List Tok → Inf} {p : Pt} (hm : ∀ ts us, SmT ts us → Dw (mk ts) = Dw (mk us)) (hp : Npl p) : Npl (Dm mk p) := fun d ts us h =>
 (hp d ts us h).bind fun F G r q e1 e2 => ⟨by simp only [Bk]; rw [hm ts us h, e1], e2⟩
theorem b5x (k : Nat) (ts us : List Tok) (h : SmT ts us) : Dw (mkK k ts) = Dw (mkK k us) := rfl
theorem b5w (k : Nat) (n : Int) (ts us : List Tok) (h : SmT ts us) : Dw (mkN k n ts) = Dw (mkN k n us) := rfl
theorem b5v (k : Nat) (ts us : List Tok) (h : SmT ts us) : Dw (mkX k ts) = Dw (mkX k us) := by simp [Dw, mkX, h.text]
theorem b6o (k : Nat) (ts us : List Tok) (h : SmT ts us) : Dw (mkY k ts) = Dw (mkY k us) := by simp [Dw, mkY, h.tail.text]
theorem Td {p : Pt} (hp : Npl p) : ∀ n, Npl (F0 p n)
 | 0 => I9
 | n + 1 => fun d ts us h => by
  unfold F0
  refine (hp d _ _ h).bind fun F G r q e1 e2 => ?_
  rw [e2.sees]
  split
  ·exact (Td hp n d _ _ e2.tail).bind fun F' G' r' q' e3 e4 => ⟨by rw [H7, H7, e1, e3], e4⟩
  ·exact ⟨e1, e2⟩
theorem Vt {p : Pt} (hp : Npl p) (n : Nat) : Npl (Dn p n) := Ze _ L0 (Td hp n)
theorem Ph {p : Pt} (hp : Npl p) {F G : Fo} (hF : Bk F = Bk G) (d : Nat) {ts us : List Tok} (h : SmT ts us) : SmO (Ct p F d ts) (Ct p G d us) :=
 (hp d _ _ h.tail).bind fun F' G' r q e1 e2 => ⟨by simp only [Bk, H7, hF, e1, Dw]; rw [h.text], e2⟩
theorem Sr {p : Pt} (hp : Npl p) (S : List (List UInt8)) : ∀ n {F G : Fo}, Bk F = Bk G → ∀ d {ts us : List Tok}, SmT ts us → SmO (B9 p S n F d ts) (B9 p S n G d us)
 | 0, _, _, _, _, _, _, _ => rfl
 | n + 1, F, G, hF, d, ts, us, h => by
  unfold B9
  rw [h.anyS]
  split
  ·exact (Ph hp hF d h).bind fun F' G' r q e1 e2 => Sr hp S n e1 d e2
  ·exact ⟨hF, h⟩
theorem Jb {p : Pt} (hp : Npl p) (S : List (List UInt8)) (n : Nat) : Npl (Ce p S n) := fun d ts us h =>
 (hp d _ _ h).bind fun F G r q e1 e2 => Sr hp S n e1 d e2
theorem Tc {p : Pt} (hp : Npl p) (S : List (List UInt8)) : Npl (Hf p S) := fun d ts us h =>
 (hp d _ _ h).bind fun F G r q e1 e2 => by
  rw [e2.anyS]
  split
  ·exact Ph hp e1 d e2
  ·exact ⟨e1, e2⟩
theorem b1h {t u : Tok} (h : tkB t = tkB u) : Ez t = Ez u := by
 have h1 : t.kind = u.kind := by have := congrArg Tok.kind h; exact this
 have h2 : t.text = u.text := by have := congrArg Tok.text h; exact this
 unfold Ez
 rw [h1, h2]
theorem a9z {t u : Tok} (h : tkB t = tkB u) : Bg t = Bg u := by
 have h1 : t.kind = u.kind := by have := congrArg Tok.kind h; exact this
 have h2 : t.text = u.text := by have := congrArg Tok.text h; exact this
 have h3 : t.num = u.num := by have := congrArg Tok.num h; exact this
 unfold Bg
 rw [h1, h2, h3]
theorem Pz : Npl Am := fun d ts us h => by
 unfold Am
 rw [b1h h.hd]
 split
 ·exact ⟨rfl, h.tail⟩
 ·exact rfl
theorem Kf {p : Pt} (hp : Npl p) : Npl (Az p) := Ja (b5x 20) (Ej _ _ hp)
theorem Tb : ∀ n, Npl (Fd n)
 | 0 => I9
 | n + 1 => Ze _ (Kf (Tb n)) Pz
theorem Zf : Npl Eb := fun d ts us h => by
 unfold Eb
 rw [a9z h.hd]
 split
 ·exact ⟨rfl, h.tail⟩
 ·exact rfl
section
variable {E : Pt} (hE : Npl E) (n : Nat)
include hE
theorem a3j : Npl (Es E n) := fun d ts us h => by
 unfold Es
 rw [h.tail.sees]
 split
 ·exact Ja (b5v 27) (P0 (Ej _ _ (Vt hE n))) d _ _ h
 ·exact ⟨by simp only [Bk]; rw [b5v 26 _ _ h], h.tail⟩
theorem a3k : Npl (Fg E n) := Ja (b5x 32) (P0 fun d ts us h => by
 show SmO (if _ then _ else _) (if _ then _ else _)
 rw [h.kind]
 split
 ·exact Rx Pz (Ej _ _ L0) d _ _ h
 ·exact Rx (Kf (Tb n)) (Ej _ _ hE) d _ _ h)
theorem a3n : Npl (Du E n) := fun d ts us h => by
 unfold Du
 rw [h.sees, h.sees, h.kind]
 split
 ·exact Ej _ _ hE d _ _ h
 ·split
  ·exact a3k hE n d _ _ h
  ·split
   ·exact a3j hE n d _ _ h
   ·exact Zf d _ _ h
theorem Rc : ∀ n {F G : Fo}, Bk F = Bk G → ∀ d {ts us : List Tok}, SmT ts us → SmO (Cr E n F d ts) (Cr E n G d us)
 | 0, _, _, _, _, _, _, _ => rfl
 | n + 1, F, G, hF, d, ts, us, h => by
  unfold Cr
  rw [h.sees, h.sees]
  split
  ·exact (Ej _ _ hE d _ _ h).bind fun F' G' r q e1 e2 => Rc n (by simp only [Bk, H7, hF, e1]; rfl) d e2
  ·split
   ·exact (a3l 1 d _ _ h.tail).bind fun F' G' r q e1 e2 => Rc n (by simp only [Bk, hF]; rw [b6o 29 _ _ h]) d e2
   ·exact ⟨hF, h⟩
theorem a3i : Npl (Fv E n) := fun d ts us h => (a3n hE n d _ _ h).bind fun F G r q e1 e2 => Rc hE n e1 d e2
end
theorem Zd {U p : Pt} (hU : Npl U) (hp : Npl p) : Npl (Cq U p) := fun d ts us h => by
 unfold Cq
 rw [h.sees, h.sees]
 split
 ·exact Ja (b5w 30 12) (Jz hU) d _ _ h
 ·split
  ·exact Ja (b5w 30 13) (Jz hU) d _ _ h
  ·exact hp d _ _ h
theorem b2w {u : Pt} (h : Npl u) (n : Nat) : Npl (orP u n) := Jb (Jb (Tc (Tc (Jb (Jb h _ n) _ n) _) _) _ n) _ n
theorem a6g : ∀ n, Npl (Aw n) ∧ Npl (unP n)
 | 0 => ⟨I9, I9⟩
 | n + 1 => by
  obtain ⟨h1, h2⟩ := a6g n
  have h := Zd h2 (a3i h1 (n + 1))
  exact ⟨b2w h (n + 1), h⟩
theorem a3m (n : Nat) : Npl (Aw n) := (a6g n).1
theorem Zc {p : Pt} (h : Npl p) {ts us : List Tok} (e : SmT ts us) : SmO (D0 p ts) (D0 p us) :=
 (h 0 _ _ e).bind fun F G r q e1 e2 => by
  rw [e2.kind]
  split
  ·exact ⟨e1, e2⟩
  ·exact rfl
end Go.Proofs.YtoaplbljflhheaaGreat
namespace Go.Proofs.YtoaplbljflhheaaGreat
def Qc (k : Nat) : Bool := decide (15 ≤ k ∧ k ≤ 32)
theorem Jp : ∀ {ps : List (Nat → Bool)} {ks : List Nat}, Al ps ks = true → (∀ p ∈ ps, ∀ k, p k = true → Qc k = true) → ks.all Qc = true := fun {ps ks} h hp => by
 unfold Al at h
 rw [Bool.and_eq_true, decide_eq_true_eq, List.all_eq_true] at h
 obtain ⟨hl, h⟩ := h
 rw [List.all_eq_true]
 intro k hk
 obtain ⟨n, hn, rfl⟩ := List.getElem_of_mem hk
 have := h n (by rw [List.mem_range]; omega)
 have e1 : ks.getD n 0 = ks[n] := by simp [List.getD, List.getElem?_eq_getElem hn]
 have e2 : ps.getD n (fun _ => false) = ps[n] := by simp [List.getD, List.getElem?_eq_getElem (show n < ps.length by omega)]
 rw [e1, e2] at this
 exact hp _ (List.getElem_mem _) _ this
theorem M3 {k : Nat} (h : Ak k = true) : Qc k = true := by
 rw [Ak, decide_eq_true_eq] at h
 rw [Qc, decide_eq_true_eq]; omega
theorem b0w {k : Nat} (h : Dd k = true) : Qc k = true := by
 rw [Dd, decide_eq_true_eq] at h
 rw [Qc, decide_eq_true_eq]; omega
theorem b0y {ks : List Nat} (h : ks.all Ak = true) : ks.all Qc = true := by
 rw [List.all_eq_true] at h ⊢
 exact fun k hk => M3 (h k hk)
theorem b0x {k : Nat} {num : Int} {ks : List Nat} (hk : Qc k = true) (h : Fk k num ks = true) : ks.all Qc = true := by
 rw [Qc, decide_eq_true_eq] at hk
 have hc : k = 15 ∨ k = 16 ∨ k = 17 ∨ k = 18 ∨ k = 19 ∨ k = 20 ∨ k = 21 ∨ k = 22 ∨ k = 23 ∨ k = 24 ∨ k = 25 ∨ k = 26 ∨ k = 27 ∨ k = 28 ∨ k = 29 ∨ k = 30 ∨ k = 31 ∨ k = 32 := by omega
 have h0 : Al [] ks = true → ks.all Qc = true := fun h => Jp h (by intro p hp; cases hp)
 have h1 : Al [Ak] ks = true → ks.all Qc = true := fun h => Jp h (by intro p hp k; simp only [List.mem_cons, List.not_mem_nil, or_false] at hp; rcases hp with rfl; exact M3)
 have h2 : Al [Ak, Ak] ks = true → ks.all Qc = true := fun h => Jp h (by intro p hp k; simp only [List.mem_cons, List.not_mem_nil, or_false] at hp; rcases hp with rfl | rfl <;> exact M3)
 rcases hc with rfl | rfl | rfl | rfl | rfl | rfl | rfl | rfl | rfl | rfl | rfl | rfl | rfl | rfl | rfl | rfl | rfl | rfl
 ·exact h0 h
 ·exact h0 h
 ·exact h0 h
 ·exact h0 h
 ·exact h0 h
 ·exact Jp (show Al [Dd] ks = true from h) (by intro p hp k; simp only [List.mem_cons, List.not_mem_nil, or_false] at hp; rcases hp with rfl; exact b0w)
 ·exact h0 h
 ·exact h0 h
 ·exact h0 h
 ·exact h0 h
 ·exact h0 h
 ·exact h0 h
 ·exact b0y h
 ·exact h2 h
 ·exact h1 h
 ·exact h1 h
 ·exact h2 h
 ·have h : (Al [[19].contains] ks || Al [[20].contains, Ak] ks) = true := h
  rw [Bool.or_eq_true] at h
  rcases h with h | h
  ·exact Jp h (by intro p hp k; simp only [List.mem_cons, List.not_mem_nil, or_false] at hp; rcases hp with rfl; intro h; simp at h; subst h; rfl)
  ·refine Jp h (by intro p hp k; simp only [List.mem_cons, List.not_mem_nil, or_false] at hp; rcases hp with rfl | rfl; (intro h; simp at h; subst h; rfl); exact M3)
theorem a5z {F : Fo} (hg : Bd F = true) (hr : (Bc F).all Qc = true) (hn : Kd F) : Xok F := by
 induction F with
 | nil => intro x hx; cases hx
 | cons i k r ihk ihr =>
  rw [Bd, Bool.and_eq_true, Bool.and_eq_true] at hg
  obtain ⟨ht, hm, ha⟩ := F8 hg.1.1
  rw [Bc, List.all_cons, Bool.and_eq_true] at hr
  have hk := ihk hg.1.2 (b0x hr.1 ha) (fun x hx => hn x (by simp [Cx, hx]))
  have hrr := ihr hg.2 hr.2 (fun x hx => hn x (by simp [Cx, hx]))
  intro x hx
  simp only [Cx, List.mem_cons, List.mem_append] at hx
  rcases hx with rfl | hx | hx
  ·have h1 := hr.1
   rw [Qc, decide_eq_true_eq] at h1
   refine ⟨hn _ (by simp [Cx]), fun h22 => ?_, h1⟩
   simp only at h22
   rw [h22] at hm
   have : decide (0 ≤ i.num ∧ i.num < 8388608) = true := hm
   rw [decide_eq_true_eq] at this
   exact this.2
  ·exact hk x hx
  ·exact hrr x hx
theorem a1f (F : Fo) : Bk (Bk F) = Bk F := by
 induction F with
 | nil => rfl
 | cons i k r ihk ihr => simp only [Bk, ihk, ihr]; rfl
def Me : Tok := ⟨8, 0, 0, 0, []⟩
theorem b1v (L : Nat) : Stp L [Me] := fun l h1 h2 => by
 unfold anyS
 rw [List.any_eq_false]
 intro x hx
 rw [Ed (show Me.kind ≠ 6 ∧ Me.kind ≠ 7 from ⟨by decide, by decide⟩)]
 decide
theorem b15 : Po [Me] := ⟨Ed ⟨by decide, by decide⟩, Ed ⟨by decide, by decide⟩, Ed ⟨by decide, by decide⟩⟩
theorem W8 {i : Inf} {k : Fo} (h : Ge i k) (hn : Kd (.cons i k .nil)) : ∃ U, D7 (Ee 0 i (Ci 0 k)) 1 1 = .ok U ∧ ((BD 1 i k ≤ 40 ∧ ∃ G q, D0 (Aw U.length) U = .ok G q ∧ Bk G = Bk (.cons i k .nil)) ∨ (¬ BD 1 i k ≤ 40 ∧ ∃ l c, D0 (Aw U.length) U = .bad 6 l c)) := by
 have hg : Bd (.cons i k .nil) = true := by
  show (De i k && Bd k && true) = true
  rw [h.1, h.2.1]; rfl
 have hx := a5z hg (by show (Qc i.kind && true) = true; rw [M3 h.exp]; rfl) hn
 have hl := Zr 0 hg hn (fun x hx2 => by have := hx x hx2; omega)
 have hd : Cv 0 i = 0 := by unfold Cv; have := h.2.2; rw [if_neg (by omega)]
 have hs : Sub (Ee 0 i (Ci 0 k)) (TK i k) := by
  have := hl.1.2 (by have := h.2.2; show i.kind ≠ 14; omega)
  simp only [hd] at this
  exact this
 obtain ⟨l', c', T', hT, hk⟩ := hs.1 [] 1 1 (fun _ c hc => by cases hc) (fun c hc => by cases hc)
 rw [List.append_nil, Iy] at hk
 refine ⟨T' ++ [⟨8, l', c', 0, []⟩], by rw [hk]; rfl, ?_⟩
 have hT2 : (TK i k).map tkB = TK i k := by rw [← hT, List.map_map]; rfl
 have hsm : SmT (T' ++ [⟨8, l', c', 0, []⟩]) (TK i k ++ [Me]) := by
  unfold SmT
  rw [List.map_append, List.map_append, hT, hT2]
  rfl
 have hlen : (T' ++ [(⟨8, l', c', 0, []⟩ : Tok)]).length = (TK i k).length + 1 := by
  rw [List.length_append, ← hT, List.length_map]; rfl
 rw [hlen]
 have hc := (a6m _ i k (Nat.lt_succ_self _) h.1 h.2.1 h.2.2.1 h.2.2.2)
 have e1 : BT 1 i k = TK i k := Ew (by omega)
 have hA := hc.1.A 1 ((TK i k).length + 1) 0 [Me] (Nat.le_refl _) (by omega) (by rw [e1]; omega) (by omega) (b1v 1) b15
 rw [e1, Nat.zero_add] at hA
 have hA : CG (Aw ((TK i k).length + 1) 0 (TK i k ++ [Me])) (.ok (BE i k) [Me]) (BD 1 i k ≤ 40) := hA
 have hw := Zc (a3m ((TK i k).length + 1)) hsm
 rcases hA with ⟨hb, hA⟩ | ⟨hb, l, c, hA⟩
 ·have e : D0 (Aw ((TK i k).length + 1)) (TK i k ++ [Me]) = .ok (BE i k) [Me] := by
   unfold D0
   rw [hA]; rfl
  rw [e] at hw
  refine .inl ⟨hb, ?_⟩
  cases hx : D0 (Aw ((TK i k).length + 1)) (T' ++ [⟨8, l', c', 0, []⟩]) with
  | ok G q =>
   rw [hx] at hw
   exact ⟨G, q, rfl, by rw [hw.1]; exact a1f (.cons i k .nil)⟩
  | bad a b c => rw [hx] at hw; exact hw.elim
 ·have e : D0 (Aw ((TK i k).length + 1)) (TK i k ++ [Me]) = .bad 6 l c := by
   unfold D0
   rw [hA]; rfl
  rw [e] at hw
  refine .inr ⟨hb, ?_⟩
  cases hx : D0 (Aw ((TK i k).length + 1)) (T' ++ [⟨8, l', c', 0, []⟩]) with
  | ok G q => rw [hx] at hw; exact hw.elim
  | bad a b c =>
   rw [hx] at hw
   have hw : a = 6 := hw
   subst hw
   exact ⟨b, c, rfl⟩
theorem a0s {s : List UInt8} {T : List Tok} {F : Fo} {r : List Tok} (hs : s.length ≤ 2000) (ht : D7 s 1 1 = .ok T) (hp : D0 (Aw T.length) T = .ok F r) (hn : Kd F) :
  ∃ i k, F = .cons i k .nil ∧ Ge i k ∧ (Ee 0 i (Ci 0 k)).length ≤ 65536 ∧ ∃ U G q, D7 (Ee 0 i (Ci 0 k)) 1 1 = .ok U ∧ D0 (Aw U.length) U = .ok G q ∧ Bk G = Bk F := by
 obtain ⟨hw, hwl⟩ := Ig _ s 1 1 T (Nat.le_refl _) ht
 obtain ⟨F1, r1, e1, e2⟩ := Aj hp
 have hF : F1 = F := by
  split at e2
  ·cases e2; rfl
  ·cases e2
 subst hF
 obtain ⟨⟨i, k, rfl, hg, hD⟩, hW, hr⟩ := (b33 T.length).1 0 T F1 r1 (by omega) hw e1
 have hgf : Bd (.cons i k .nil) = true := by
  show (De i k && Bd k && true) = true
  rw [hg.1, hg.2.1]; rfl
 have hx := a5z hgf (by show (Qc i.kind && true) = true; rw [M3 hg.exp]; rfl) hn
 have hd : Cv 0 i = 0 := by unfold Cv; have := hg.2.2; rw [if_neg (by omega)]
 have hlen := Uo (.cons i k .nil) 0 hx
 rw [Ci, Bh, hd] at hlen
 simp only at hlen
 obtain ⟨U, h1, h2⟩ := W8 hg hn
 refine ⟨i, k, rfl, hg, by omega, U, ?_⟩
 rcases h2 with ⟨_, G, q, h3, h4⟩ | ⟨hb, _⟩
 ·exact ⟨G, q, h1, h3, h4⟩
 ·omega
end Go.Proofs.YtoaplbljflhheaaGreat
namespace Go.Proofs.YtoaplbljflhheaaGreat
def Rg (z : Int) : Prop := -9223372036854775808 ≤ z ∧ z ≤ 9223372036854775807
def Bt (M : Nat) (t : Tok) : Prop := t.line ≤ M ∧ t.col ≤ M ∧ Rg t.num ∧ t.text.length ≤ M
def Bl (M : Nat) (ts : List Tok) : Prop := ∀ t ∈ ts, Bt M t
def Bi (M : Nat) (i : Inf) : Prop := i.kind ≤ 255 ∧ i.line ≤ M ∧ i.col ≤ M ∧ Rg i.num ∧ i.text.length ≤ M
def Bf (M : Nat) (F : Fo) : Prop := ∀ x ∈ Cx F, Bi M x.1
def Bp (M : Nat) (p : Pt) : Prop := ∀ d ts F r, Bl M ts → p d ts = .ok F r → Bf M F ∧ Bl M r
theorem rg0 : Rg 0 := by unfold Rg; omega
variable {M : Nat}
theorem Jk {ts : List Tok} (h : Bl M ts) : Bt M (hd ts) := by
 cases ts with
 | nil => exact ⟨Nat.zero_le _, Nat.zero_le _, rg0, Nat.zero_le _⟩
 | cons t l => exact h t (by simp)
theorem Fj {ts : List Tok} (h : Bl M ts) : Bl M ts.tail := fun t ht => h t (List.mem_of_mem_tail ht)
theorem Gu : Bf M .nil := fun x hx => by cases hx
theorem Iu {i : Inf} {k r : Fo} (h1 : Bi M i) (h2 : Bf M k) (h3 : Bf M r) : Bf M (.cons i k r) := fun x hx => by
 simp only [Cx, List.mem_cons, List.mem_append] at hx
 rcases hx with rfl | hx | hx
 ·exact h1
 ·exact h2 x hx
 ·exact h3 x hx
theorem a2f (F G : Fo) : Cx (F.app G) = Cx F ++ Cx G := by
 induction F with
 | nil => rfl
 | cons i k r _ ihr => simp [Fo.app, Cx, ihr]
theorem T9 {F G : Fo} (h1 : Bf M F) (h2 : Bf M G) : Bf M (F.app G) := fun x hx => by
 rw [a2f, List.mem_append] at hx
 rcases hx with hx | hx
 ·exact h1 x hx
 ·exact h2 x hx
def Bm (M : Nat) (mk : List Tok → Inf) : Prop := ∀ ts, Bl M ts → Bi M (mk ts)
theorem b5i {k : Nat} (hk : k ≤ 255) : Bm M (mkK k) := fun ts h => ⟨hk, (Jk h).1, (Jk h).2.1, rg0, Nat.zero_le _⟩
theorem b51 {k : Nat} {n : Int} (hk : k ≤ 255) (hn : Rg n) : Bm M (mkN k n) := fun ts h => ⟨hk, (Jk h).1, (Jk h).2.1, hn, Nat.zero_le _⟩
theorem b50 {k : Nat} (hk : k ≤ 255) : Bm M (mkX k) := fun ts h => ⟨hk, (Jk h).1, (Jk h).2.1, rg0, (Jk h).2.2.2⟩
theorem b6y {k : Nat} (hk : k ≤ 255) : Bm M (mkY k) := fun ts h => ⟨hk, (Jk h).1, (Jk h).2.1, rg0, (Jk (Fj h)).2.2.2⟩
theorem Nr : Bp M C2 := fun d ts F r h e => by cases e; exact ⟨Gu, h⟩
theorem Lb : Bp M H9 := fun d ts F r h e => by cases e
theorem a09 (q : List Tok → Bool) : Bp M (Gx q) := fun d ts F r h e => by
 unfold Gx at e
 split at e
 ·cases e; exact ⟨Gu, Fj h⟩
 ·cases e
theorem a08 {a b : Pt} (ha : Bp M a) (hb : Bp M b) : Bp M (Lr a b) := fun d ts F r h e => by
 obtain ⟨F1, r1, e1, e2⟩ := Aj e
 obtain ⟨F2, r2, e3, e4⟩ := Aj e2
 cases e4
 obtain ⟨h1, h2⟩ := ha _ _ _ _ h e1
 obtain ⟨h3, h4⟩ := hb _ _ _ _ h2 e3
 exact ⟨T9 h1 h3, h4⟩
theorem T7 {p : Pt} (hp : Bp M p) : Bp M (Fc p) := fun d ts F r h e => hp _ _ _ _ (Fj h) e
theorem a6u (x : List UInt8) {a b : Pt} (ha : Bp M a) (hb : Bp M b) : Bp M (L5 x a b) := fun d ts F r h e => by
 unfold L5 at e
 split at e
 ·exact ha _ _ _ _ h e
 ·exact hb _ _ _ _ h e
theorem Mo {p : Pt} (hp : Bp M p) : Bp M (By p) := fun d ts F r h e => by
 unfold By at e
 split at e
 ·cases e
 ·exact hp _ _ _ _ (Fj h) e
theorem Gc (o c : List UInt8) {p : Pt} (hp : Bp M p) : Bp M (Ax o c p) := fun d ts F r h e => by
 unfold Ax at e
 split at e
 ·exact a08 (Mo hp) (a09 _) _ _ _ _ h e
 ·cases e
theorem Mm {mk : List Tok → Inf} {p : Pt} (hm : Bm M mk) (hp : Bp M p) : Bp M (Dm mk p) := fun d ts F r h e => by
 obtain ⟨F1, r1, e1, e2⟩ := Aj e
 cases e2
 obtain ⟨h1, h2⟩ := hp _ _ _ _ h e1
 exact ⟨Iu (hm ts h) h1 Gu, h2⟩
theorem T6 {p : Pt} (hp : Bp M p) : ∀ n, Bp M (F0 p n)
 | 0 => Lb
 | n + 1 => fun d ts F r h e => by
  unfold F0 at e
  obtain ⟨F1, r1, e1, e2⟩ := Aj e
  obtain ⟨h1, h2⟩ := hp _ _ _ _ h e1
  split at e2
  ·obtain ⟨F2, r2, e3, e4⟩ := Aj e2
   cases e4
   obtain ⟨h3, h4⟩ := T6 hp n _ _ _ _ (Fj h2) e3
   exact ⟨T9 h1 h3, h4⟩
  ·cases e2; exact ⟨h1, h2⟩
theorem a1b {p : Pt} (hp : Bp M p) (n : Nat) : Bp M (Dn p n) := a6u _ Nr (T6 hp n)
theorem b43 (x : List UInt8) : Rg (Hh x) := by
 unfold Hh
 have H : ∀ (p : Prop) [Decidable p] (a b : Int), Rg a → Rg b → Rg (if p then a else b) := fun p _ a b h1 h2 => by split <;> assumption
 repeat (refine H _ _ _ (by unfold Rg; omega) ?_)
 unfold Rg; omega
theorem Qq {p : Pt} (hp : Bp M p) {d : Nat} {ts r : List Tok} {F G : Fo} (h : Bl M ts) (hF : Bf M F) (e : Ct p F d ts = .ok G r) : Bf M G ∧ Bl M r := by
 obtain ⟨F1, r1, e1, e2⟩ := Aj e
 cases e2
 obtain ⟨h1, h2⟩ := hp _ _ _ _ (Fj h) e1
 exact ⟨Iu ⟨Nat.le_of_ble_eq_true rfl, (Jk h).1, (Jk h).2.1, b43 _, Nat.zero_le _⟩ (T9 hF h1) Gu, h2⟩
theorem T8 {p : Pt} (hp : Bp M p) (S : List (List UInt8)) : ∀ n (F G : Fo) d ts r, Bl M ts → Bf M F → B9 p S n F d ts = .ok G r → Bf M G ∧ Bl M r
 | 0, _, _, _, _, _, _, _, e => by cases e
 | n + 1, F, G, d, ts, r, h, hF, e => by
  unfold B9 at e
  split at e
  ·obtain ⟨F1, r1, e1, e2⟩ := Aj e
   obtain ⟨h1, h2⟩ := Qq hp h hF e1
   exact T8 hp S n F1 G d r1 r h2 h1 e2
  ·cases e; exact ⟨hF, h⟩
theorem Lc {p : Pt} (hp : Bp M p) (S : List (List UInt8)) (n : Nat) : Bp M (Ce p S n) := fun d ts F r h e => by
 obtain ⟨F1, r1, e1, e2⟩ := Aj e
 obtain ⟨h1, h2⟩ := hp _ _ _ _ h e1
 exact T8 hp S n F1 F d r1 r h2 h1 e2
theorem a1a {p : Pt} (hp : Bp M p) (S : List (List UInt8)) : Bp M (Hf p S) := fun d ts F r h e => by
 obtain ⟨F1, r1, e1, e2⟩ := Aj e
 obtain ⟨h1, h2⟩ := hp _ _ _ _ h e1
 split at e2
 ·exact Qq hp h2 h1 e2
 ·cases e2; exact ⟨h1, h2⟩
theorem T5 : Bp M Am := fun d ts F r h e => by
 unfold Am at e
 split at e
 ·rename_i q hq
  cases e
  have ht := Jk h
  refine ⟨Iu ⟨?_, ht.1, ht.2.1, rg0, ?_⟩ Gu Gu, Fj h⟩
  ·rcases Ep hq with ⟨rfl, _⟩ | ⟨_, h2, h3⟩
   ·exact Nat.le_of_ble_eq_true rfl
   ·show q.1 ≤ 255; omega
  ·rcases Ep hq with ⟨rfl, _⟩ | ⟨h1, _⟩
   ·exact ht.2.2.2
   ·show q.2.length ≤ M; rw [h1]; exact Nat.zero_le _
 ·cases e
theorem Mn {p : Pt} (hp : Bp M p) : Bp M (Az p) := Mm (b5i (Nat.le_of_ble_eq_true rfl)) (Gc _ _ hp)
theorem a07 : ∀ n, Bp M (Fd n)
 | 0 => Lb
 | n + 1 => a6u _ (Mn (a07 n)) T5
theorem a43 {t : Tok} {q : Nat × Int × List UInt8} (ht : Bt M t) (h : Bg t = some q) : q.1 ≤ 255 ∧ Rg q.2.1 ∧ q.2.2.length ≤ M := by
 unfold Bg at h
 split at h
 ·cases h; exact ⟨Nat.le_of_ble_eq_true rfl, ht.2.2.1, Nat.zero_le _⟩
 ·split at h
  ·cases h; exact ⟨Nat.le_of_ble_eq_true rfl, ht.2.2.1, Nat.zero_le _⟩
  ·split at h
   ·cases h; exact ⟨Nat.le_of_ble_eq_true rfl, rg0, ht.2.2.2⟩
   ·repeat' split at h
    all_goals first | (cases h; refine ⟨Nat.le_of_ble_eq_true rfl, ?_, Nat.zero_le _⟩; simp only [Rg]; omega) | cases h
theorem a5a : Bp M Eb := fun d ts F r h e => by
 unfold Eb at e
 split at e
 ·rename_i q hq
  cases e
  have ht := Jk h
  obtain ⟨h1, h2, h3⟩ := a43 ht hq
  exact ⟨Iu ⟨h1, ht.1, ht.2.1, h2, h3⟩ Gu Gu, Fj h⟩
 ·cases e
section
variable {E : Pt} (hE : Bp M E)
include hE
theorem a93 (n : Nat) : Bp M (Es E n) := fun d ts F r h e => by
 unfold Es at e
 split at e
 ·exact Mm (b50 (Nat.le_of_ble_eq_true rfl)) (T7 (Gc _ _ (a1b hE n))) _ _ _ _ h e
 ·cases e; exact ⟨Iu (b50 (Nat.le_of_ble_eq_true rfl) ts h) Gu Gu, Fj h⟩
theorem a94 (n : Nat) : Bp M (Fg E n) := Mm (b5i (Nat.le_of_ble_eq_true rfl)) (T7 fun d ts F r h e => by
 split at e
 ·exact a08 T5 (Gc _ _ Nr) _ _ _ _ h e
 ·exact a08 (Mn (a07 n)) (Gc _ _ hE) _ _ _ _ h e)
theorem a96 (n : Nat) : Bp M (Du E n) := fun d ts F r h e => by
 unfold Du at e
 split at e
 ·exact Gc _ _ hE _ _ _ _ h e
 ·split at e
  ·exact a94 hE n _ _ _ _ h e
  ·split at e
   ·exact a93 hE n _ _ _ _ h e
   ·exact a5a _ _ _ _ h e
theorem Sj : ∀ n (F G : Fo) d ts r, Bl M ts → Bf M F → Cr E n F d ts = .ok G r → Bf M G ∧ Bl M r
 | 0, _, _, _, _, _, _, _, e => by cases e
 | n + 1, F, G, d, ts, r, h, hF, e => by
  unfold Cr at e
  split at e
  ·obtain ⟨F1, r1, e1, e2⟩ := Aj e
   obtain ⟨h1, h2⟩ := Gc _ _ hE _ _ _ _ h e1
   exact Sj n _ G d r1 r h2 (Iu (b5i (Nat.le_of_ble_eq_true rfl) ts h) (T9 hF h1) Gu) e2
  ·split at e
   ·obtain ⟨F1, r1, e1, e2⟩ := Aj e
    obtain ⟨h1, h2⟩ := a09 _ _ _ _ _ (Fj h) e1
    exact Sj n _ G d r1 r h2 (Iu (b6y (Nat.le_of_ble_eq_true rfl) ts h) hF Gu) e2
   ·cases e; exact ⟨hF, h⟩
theorem a92 (n : Nat) : Bp M (Fv E n) := fun d ts F r h e => by
 obtain ⟨F1, r1, e1, e2⟩ := Aj e
 obtain ⟨h1, h2⟩ := a96 hE n _ _ _ _ h e1
 exact Sj hE n F1 F d r1 r h2 h1 e2
end
theorem a49 {U p : Pt} (hU : Bp M U) (hp : Bp M p) : Bp M (Cq U p) := fun d ts F r h e => by
 unfold Cq at e
 split at e
 ·exact Mm (b51 (Nat.le_of_ble_eq_true rfl) (by unfold Rg; omega)) (Mo hU) _ _ _ _ h e
 ·split at e
  ·exact Mm (b51 (Nat.le_of_ble_eq_true rfl) (by unfold Rg; omega)) (Mo hU) _ _ _ _ h e
  ·exact hp _ _ _ _ h e
theorem b5h {u : Pt} (h : Bp M u) (n : Nat) : Bp M (orP u n) := Lc (Lc (a1a (a1a (Lc (Lc h _ n) _ n) _) _) _ n) _ n
theorem a95 : ∀ n, Bp M (Aw n) ∧ Bp M (unP n)
 | 0 => ⟨Lb, Lb⟩
 | n + 1 => by
  obtain ⟨h1, h2⟩ := a95 n
  have h := a49 h2 (a92 h1 (n + 1))
  exact ⟨b5h h (n + 1), h⟩
theorem b2c (l : List UInt8) (hl : l ≠ []) (h : (one l).err = 0) : Rg (one l).num ∧ (one l).text.length ≤ l.length := by
 have h1 := (a6e l 0 0 hl h).2
 have h2 := (Lz l hl h).2
 refine ⟨?_, by omega⟩
 unfold one Ke L3 Lp
 repeat' split
 all_goals first | exact rg0 | exact Nm.parse_range _
theorem Jq : ∀ n (l : List UInt8) (a b : Nat) (ts : List Tok), l.length ≤ n → D7 l a b = .ok ts → a + l.length ≤ M → b + l.length ≤ M → 1 + l.length ≤ M → Bl M ts
 | n, [], a, b, ts, _, e, ha, hb, h1 => by
  rw [Iy] at e
  cases e
  intro t ht
  rw [List.mem_singleton] at ht
  subst ht
  exact ⟨ha, hb, rg0, Nat.zero_le _⟩
 | 0, c :: t, _, _, _, hn, _, _, _, _ => by simp at hn
 | n + 1, c :: t, a, b, ts, hn, e, ha, hb, h1 => by
  rw [List.length_cons] at hn ha hb h1
  by_cases hg : F6 c
  ·rcases hg with rfl | h
   ·rw [Nx] at e
    exact Jq n t _ _ ts (by omega) e (by omega) (by omega) (by omega)
   ·by_cases h35 : c = 35
    ·subst h35
     rw [Lm] at e
     have hle := Ij nlf t
     exact Jq n _ _ _ ts (by rw [List.length_drop]; omega) e (by rw [List.length_drop]; omega) (by rw [List.length_drop]; omega) (by rw [List.length_drop]; omega)
    ·rw [Eg c t a b (by rcases h with h | h | h | h <;> simp [h] at h35 ⊢)] at e
     exact Jq n t _ _ ts (by omega) e (by omega) (by omega) (by omega)
  ·by_cases h0 : (one (c :: t)).err = 0
   ·rw [Kr c t a b hg h0] at e
    obtain ⟨o1, o2⟩ := Lz (c :: t) (by simp) h0
    obtain ⟨w1, w2⟩ := b2c (c :: t) (by simp) h0
    rw [List.length_cons] at o2 w2
    cases hr : D7 ((c :: t).drop (one (c :: t)).size) a (b + (one (c :: t)).size) with
    | error x => rw [hr] at e; cases e
    | ok r =>
     rw [hr] at e
     cases e
     have ih := Jq n _ _ _ r (by rw [List.length_drop, List.length_cons]; omega) hr (by rw [List.length_drop, List.length_cons]; omega) (by rw [List.length_drop, List.length_cons]; omega) (by rw [List.length_drop, List.length_cons]; omega)
     intro x hx
     rcases List.mem_cons.mp hx with rfl | hx
     ·exact ⟨by show a ≤ M; omega, by show b ≤ M; omega, w1, by show (one (c :: t)).text.length ≤ M; omega⟩
     ·exact ih x hx
   ·rw [Ny c t a b hg h0] at e
    cases e
end Go.Proofs.YtoaplbljflhheaaGreat
namespace Go.Proofs.YtoaplbljflhheaaGreat
theorem Vk (s : List UInt8) : (∃ c l k, c ≠ 0 ∧ Gw Aw s = ([], (c, l, k))) ∨ (∃ T F r, s.length ≤ 65536 ∧ D7 s 1 1 = .ok T ∧ D0 (Aw T.length) T = .ok F r ∧ Gw Aw s = (F.pre, (0, 0, 0))) := by
 unfold Gw
 by_cases hl : 65536 < s.length
 ·rw [if_pos hl]; exact .inl ⟨3, 0, 0, by decide, rfl⟩
 ·rw [if_neg hl]
  cases ht : D7 s 1 1 with
  | error f =>
   obtain ⟨c, l, k⟩ := f
   exact .inl ⟨c, l, k, (Q6 s 1 1).2 _ ht, rfl⟩
  | ok T =>
   cases hw : D0 (Aw T.length) T with
   | ok F r => exact .inr ⟨T, F, r, by omega, rfl, hw, by simp only [hw]⟩
   | bad c l k =>
    refine .inl ⟨c, l, k, ?_, by simp only [hw]⟩
    rcases a9l (b3l T.length).1 T c l k hw with rfl | rfl <;> decide
structure Fine (L : List Nd) : Prop where
 pos : 0 < L.length
 len : L.length ≤ 4000
 wf : ∀ i, i < L.length → (nd L i).wf
 txs : (L.map fun x => x.text.size).sum ≤ 100000
 exp : Ou L = true
theorem a7g (F : Fo) : (F.pre.map fun x => x.text.size).sum ≤ wF F := by
 induction F with
 | nil => simp [Fo.pre, wF]
 | cons i k r ihk ihr =>
  simp only [Fo.pre, List.map_cons, List.map_append, List.sum_cons, List.sum_append, wF]
  have : (i.nd k.cnt).text.size = i.text.length := by simp [Inf.nd, bs, ByteArray.size]
  rw [this]
  omega
theorem b35 (F : Fo) : 22 * F.cnt ≤ wF F := by
 induction F with
 | nil => simp [Fo.cnt]
 | cons i k r ihk ihr => simp only [Fo.cnt, wF]; omega
theorem a8s {M : Nat} {F : Fo} (h : Bf M F) : Kd F := fun x hx => (h x hx).2.2.2.1.2
theorem b1f {F : Fo} (h : Bf 100000 F) (hc : F.cnt ≤ 4000) : ∀ i, i < F.pre.length → (nd F.pre i).wf := fun i hi => by
 rw [Cg] at hi
 rw [I6 hi]
 obtain ⟨hm, hle⟩ : Ag F i ∈ Cx F ∧ (Ag F i).2.cnt ≤ F.cnt := by
  have hm : Ag F i ∈ Cx F := by
   unfold Ag
   rw [List.getD_eq_getElem?_getD, List.getElem?_eq_getElem (by rw [Ba]; exact hi)]
   exact List.getElem_mem _
  refine ⟨hm, ?_⟩
  have : ∀ (G : Fo), ∀ x ∈ Cx G, x.2.cnt ≤ G.cnt := fun G => by
   induction G with
   | nil => intro x hx; cases hx
   | cons j k r ihk ihr =>
    intro x hx
    simp only [Cx, List.mem_cons, List.mem_append] at hx
    rw [Fo.cnt]
    rcases hx with rfl | hx | hx
    ·show k.cnt ≤ _; omega
    ·have := ihk x hx; omega
    ·have := ihr x hx; omega
  exact this F _ hm
 obtain ⟨h1, h2, h3, h4, h5⟩ := h _ hm
 exact ⟨by show (Ag F i).1.kind < 256; omega, by show A4 ((Ag F i).1.line : Int); unfold A4; omega, by show A4 ((Ag F i).1.col : Int); unfold A4; omega,
  by show A4 ((Ag F i).2.cnt : Int); unfold A4; omega, h4, by show (bs (Ag F i).1.text).size ≤ maxLen; simp [bs, ByteArray.size, maxLen]; omega⟩
theorem a0n {i : Inf} {k : Fo} (h : Ge i k) (hb : Bf 100000 (.cons i k .nil)) (hw : wF (.cons i k .nil) ≤ 60000) : Fine (Fo.cons i k .nil).pre := by
 have hc := b35 (.cons i k .nil)
 have hg : Bd (.cons i k .nil) = true := by
  show (De i k && Bd k && true) = true
  rw [h.1, h.2.1]; rfl
 exact ⟨by rw [Cg]; simp [Fo.cnt], by rw [Cg]; omega, b1f hb (by omega), by have := a7g (.cons i k .nil); omega, K8 h.2.2.1 h.2.2.2 hg⟩
theorem Wu (F : Fo) : wF (Bk F) = wF F := by
 induction F with
 | nil => rfl
 | cons i k r ihk ihr => simp only [Bk, wF, ihk, ihr]; rfl
theorem X7 : ∀ (F G : Fo), Bk F = Bk G → F.pre.length = G.pre.length ∧ ∀ i, i < F.pre.length → eqN (nd F.pre i) (nd G.pre i) = true := fun F G e => by
 have hs : ∀ (F : Fo), (Cx (Bk F)).map (fun x => (x.1, x.2.cnt)) = (Cx F).map fun x => (Dw x.1, x.2.cnt) := fun F => by
  have hcnt : ∀ F : Fo, (Bk F).cnt = F.cnt := fun F => by
   induction F with
   | nil => rfl
   | cons i k r ihk ihr => simp only [Bk, Fo.cnt, ihk, ihr]
  induction F with
  | nil => rfl
  | cons i k r ihk ihr => simp only [Bk, Cx, List.map_cons, List.map_append, ihk, ihr, hcnt]
 have h := (hs F).symm.trans ((congrArg (fun F => (Cx F).map (fun x => (x.1, x.2.cnt))) e).trans (hs G))
 have hl : (Cx F).length = (Cx G).length := by have := congrArg List.length h; simpa using this
 have hl2 : F.pre.length = G.pre.length := by rw [I5, I5, List.length_map, List.length_map]; exact hl
 refine ⟨hl2, fun i hi => ?_⟩
 rw [Cg] at hi
 have hi2 : i < G.cnt := by rw [← Cg, ← hl2, Cg]; exact hi
 rw [I6 hi, I6 hi2]
 have hf : Ag F i = (Cx F)[i]'(by rw [Ba]; exact hi) := by unfold Ag; rw [List.getD_eq_getElem?_getD, List.getElem?_eq_getElem (by rw [Ba]; exact hi)]; rfl
 have hg : Ag G i = (Cx G)[i]'(by rw [Ba]; exact hi2) := by unfold Ag; rw [List.getD_eq_getElem?_getD, List.getElem?_eq_getElem (by rw [Ba]; exact hi2)]; rfl
 have hx : (Dw (Ag F i).1, (Ag F i).2.cnt) = (Dw (Ag G i).1, (Ag G i).2.cnt) := by
  have := congrArg (fun l => l[i]?) h
  simp only [List.getElem?_map, List.getElem?_eq_getElem (show i < (Cx F).length by rw [Ba]; exact hi), List.getElem?_eq_getElem (show i < (Cx G).length by rw [Ba]; exact hi2), Option.map_some, Option.some.injEq] at this
  rw [hf, hg]; exact this
 rw [Prod.mk.injEq] at hx
 obtain ⟨hx1, hx2⟩ := hx
 have e1 := congrArg Inf.kind hx1
 have e2 := congrArg Inf.num hx1
 have e3 := congrArg Inf.text hx1
 simp only [Dw] at e1 e2 e3
 simp [eqN, Inf.nd, e1, e2, e3, hx2]
def bX (x : Tx) : Tx := (Dw x.1, x.2)
theorem Oh (ks : List Tx) (j : Nat) : kth (ks.map bX) j = bX (kth ks j) := by
 unfold kth
 rw [List.getD_eq_getElem?_getD, List.getD_eq_getElem?_getD, List.getElem?_map]
 cases ks[j]? <;> rfl
theorem Oq (f : List UInt8 → List UInt8) (ks : List Tx) : ((ks.map bX).flatMap fun x => f x.2) = ks.flatMap fun x => f x.2 := by
 induction ks with
 | nil => rfl
 | cons x l ih => rw [List.map_cons, List.flatMap_cons, List.flatMap_cons, ih]; rfl
theorem J7 (ks : List Tx) : Cm (ks.map bX) = Cm ks := by
 cases ks with
 | nil => rfl
 | cons x l =>
  show x.2 ++ ((l.map bX).flatMap fun y => [44, 32] ++ y.2) = x.2 ++ l.flatMap fun y => [44, 32] ++ y.2
  rw [Oq (fun y => [44, 32] ++ y)]
theorem Zt (n : Nat) (ks : List Tx) : lines n (ks.map bX) = lines n ks := by
 unfold lines
 rw [Oq (fun y => nl (n + 1) ++ y)]
theorem a4v (ks : List Tx) : ((ks.map bX).flatMap fun x => x.2 ++ [10]) = ks.flatMap fun x => x.2 ++ [10] := Oq (fun y => y ++ [10]) ks
theorem Te (n : Nat) (i : Inf) (ks : List Tx) : Ee n (Dw i) (ks.map bX) = Ee n i ks := by
 have e1 : ∀ j, (kth (ks.map bX) j).2 = (kth ks j).2 := fun j => by rw [Oh]; rfl
 have e2 : ∀ j, (kth (ks.map bX) j).1.kind = (kth ks j).1.kind := fun j => by rw [Oh]; rfl
 have e3 : ∀ m j, brk m (kth (ks.map bX) j) = brk m (kth ks j) := fun m j => by rw [Oh]; rfl
 have e4 : ∀ m, Cm ((ks.map bX).take m) = Cm (ks.take m) := fun m => by rw [← List.map_take, J7]
 have e5 : Cm (ks.map bX).tail = Cm ks.tail := by rw [← List.map_tail, J7]
 have e6 : Kk (Dw i) (ks.map bX) = Kk i ks := by unfold Kk; rw [e1]; rfl
 have e7 : D5 (Dw i) = D5 i := rfl
 obtain ⟨kd, ln, cl, num, tx⟩ := i
 unfold Ee
 simp only [e1, e2, e3, e4, e5, e6, e7, J7, Zt, a4v, List.length_map]
 rfl
theorem W5 (F : Fo) : ∀ n, Ci n (Bk F) = (Ci n F).map bX := by
 induction F with
 | nil => intro n; rfl
 | cons i k r ihk ihr =>
  intro n
  show (Dw i, Ee n (Dw i) (Ci (Cv n i) (Bk k))) :: Ci n (Bk r) = (Dw i, Ee n i (Ci (Cv n i) k)) :: (Ci n r).map bX
  rw [ihk, ihr, Te]
theorem Ps {i : Inf} {k : Fo} (h : Cv 0 i = 0) (G : Fo) (e : Bk G = Bk (.cons i k .nil)) : D9 G.pre = Ee 0 i (Ci 0 k) := by
 rw [I4, e]
 show Ee 0 (Dw i) (Ci (Cv 0 i) (Bk k)) = _
 rw [h, W5, Te]
theorem a2a {s : List UInt8} (hs : s.length ≤ 2000) : (∃ c l k, c ≠ 0 ∧ Gw Aw s = ([], (c, l, k))) ∨
  ∃ L S M, Gw Aw s = (L, (0, 0, 0)) ∧ Fine L ∧ D9 L = S ∧ Gw Aw S = (M, (0, 0, 0)) ∧ Fine M ∧ D9 M = S ∧ N2 L M = true := by
 rcases Vk s with h | ⟨T, F, r, _, h1, h2, h3⟩
 ·exact .inl h
 ·right
  have hbl := Jq (M := 100000) _ s 1 1 T (Nat.le_refl _) h1 (by omega) (by omega) (by omega)
  obtain ⟨F1, r1, e1, e2⟩ := Aj h2
  have hF : F1 = F := by
   split at e2
   ·cases e2; rfl
   ·cases e2
  subst hF
  have hbf := ((a95 T.length).1 0 T F1 r1 hbl e1).1
  obtain ⟨hwl, hwt⟩ := Ig _ s 1 1 T (Nat.le_refl _) h1
  have hW := ((b33 T.length).1 0 T F1 r1 (by omega) hwl e1).2.1
  obtain ⟨i, k, rfl, hg, hlen, U, G, q, u1, u2, u3⟩ := a0s hs h1 h2 (a8s hbf)
  have hfine := a0n hg hbf (by omega)
  have hd : Cv 0 i = 0 := by unfold Cv; have := hg.2.2; rw [if_neg (by omega)]
  have hl2 := Jq (M := 100000) _ _ 1 1 U (Nat.le_refl _) u1 (by omega) (by omega) (by omega)
  obtain ⟨F2, r2, e3, e4⟩ := Aj u2
  have hG : F2 = G := by
   split at e4
   ·cases e4; rfl
   ·cases e4
  subst hG
  have hbf2 := ((a95 U.length).1 0 U F2 r2 hl2 e3).1
  obtain ⟨hwl2, _⟩ := Ig _ _ 1 1 U (Nat.le_refl _) u1
  obtain ⟨⟨j, m, rfl, hg2, _⟩, _, _⟩ := (b33 U.length).1 0 U F2 r2 (by omega) hwl2 e3
  have hw2 : wF (.cons j m .nil) = wF (.cons i k .nil) := by rw [← Wu, u3, Wu]
  have hfine2 := a0n hg2 hbf2 (by omega)
  refine ⟨_, Ee 0 i (Ci 0 k), _, h3, hfine, Ps hd _ rfl, ?_, hfine2, Ps hd _ u3, ?_⟩
  ·unfold Gw
   rw [if_neg (by omega), u1]
   simp only [u2]
  ·obtain ⟨q1, q2⟩ := X7 _ _ u3.symm
   exact Pk q1 q2
end Go.Proofs.YtoaplbljflhheaaGreat
namespace Go.Proofs.YtoaplbljflhheaaGreat
open Go.RowKit Go.Sort
def b4h (s : ByteArray) (L : List Nd) : Prop := ∀ w, Calls Tryz.prog 21 #[.string s] w (a6w w (L, (0, 0, 0)))
def a1q (L : List Nd) (S : ByteArray) : Prop := ∀ w a n cap, L.length = n → Wl w a L → Calls Tryz.prog 13 #[.slice a n cap] w fun e w' => e = .returned (.tuple #[.string S, .int .i64 0]) ∧ Below w.heap.size w w'
def b4f (L M : List Nd) : Prop := ∀ w a n cap a' n' cap', L.length = n → M.length = n' → Wl w a L → Wl w a' M → Calls Tryz.prog 20 #[.slice a n cap, .slice a' n' cap'] w fun e w' => e = .returned (.bool true) ∧ Below w.heap.size w w'
theorem Pq {L : List Nd} (h : Fine L) {S : List UInt8} (e : D9 L = S) : a1q L (bs S) := fun w a n cap hn hr => by
 have hz : a = none → n = 0 ∧ cap = 0 := fun ea => by
  obtain ⟨g, o, h1, -⟩ := hr 0 h.pos
  rw [ea] at h1; cases h1
 have := Tq (cap := cap) hz hn (by have := h.len; omega) (Kz hr h.wf) (fun _ => Ta hr h.pos) h.txs h.exp
 rw [if_pos rfl, e] at this
 exact this
theorem a2r {L M : List Nd} (h : Fine L) (h' : Fine M) (e : N2 L M = true) : b4f L M := fun w a n cap a' n' cap' hn hn' hr hr' =>
 Ya a n cap L a' n' cap' M w (zz hn) (zz hn') (by have := h.len; omega) (by have := h'.len; omega) (zz (Kz hr h.wf)) (zz (Kz hr' h'.wf)) true (zz e)
theorem Up (s : ByteArray) (w : World) (hs : 2000 < s.size) (h2 : s.size ≤ maxLen) : Calls Tryz.prog 7 #[.string s] w fun e w' => e = .returned (.bool true) ∧ Below w.heap.size w w' := by
 have HA := zz Mp
 unfold maxLen at h2
 go_enter Tryz.func7, Tryz.ntmps7
 go_wp2_with fail
 refine (HA.out _).mono ?_
 rintro e w2 ⟨rfl, hb2⟩
 replace hb2 := zz hb2
 go_wp2_with fail
 go_ret
 exact ⟨rfl, hb2.out⟩
theorem W9 (s : ByteArray) (w : World) (hs : s.size ≤ 2000) (c : Int) (l k : Nat) (hc : c ≠ 0) (H : Hid (∀ w, Calls Tryz.prog 21 #[.string s] w (a6w w ([], (c, l, k))))) : Calls Tryz.prog 7 #[.string s] w fun e w' => e = .returned (.bool true) ∧ Below w.heap.size w w' := by
 have HA := zz Mp
 go_enter Tryz.func7, Tryz.ntmps7
 go_wp2_with fail
 refine (H.out _).mono ?_
 rintro e w1 ⟨a, n, cap, rfl, hn, hn2, hr, -, hb1⟩
 replace hb1 := zz hb1
 clear hr hn H
 go_wp2_with fail
 refine (HA.out _).mono ?_
 rintro e w2 ⟨rfl, hb2⟩
 replace hb2 := zz (Ab (Ab hb1.out (Aa _ _)) hb2)
 go_wp2_with fail
 go_ret
 exact ⟨rfl, hb2.out⟩
theorem a19 (s : ByteArray) (w : World) (hs : s.size ≤ 2000) (S : ByteArray) (L M : List Nd) (H1 : Hid (b4h s L)) (H2 : Hid (a1q L S)) (H3 : Hid (b4h S M)) (H4 : Hid (a1q M S)) (H5 : Hid (b4f L M)) : Calls Tryz.prog 7 #[.string s] w fun e w' => e = .returned (.bool true) ∧ Below w.heap.size w w' := by
 have HA := zz Mp
 go_enter Tryz.func7, Tryz.ntmps7
 go_wp2_with fail
 refine (H1.out _).mono ?_
 rintro e w1 ⟨a, n, cap, rfl, hn, hn2, hr, -, hb1⟩
 have HP := zz (fun w2 (h : Below w1.heap.size w1 w2) => H2.out w2 a n cap hn (hr.carry h))
 have HS := zz (fun w2 (h : Below w1.heap.size w1 w2) a' n' cap' hn' hr' => H5.out w2 a n cap a' n' cap' hn hn' (hr.carry h) hr')
 replace hb1 := zz hb1
 clear hr hn H1 H2 H5
 go_wp2_with fail
 refine (HP.out _ (Aa _ _)).mono ?_
 rintro e w2 ⟨rfl, hb2⟩
 have hc2 := zz (Ab (Aa _ _) hb2)
 clear hb2
 go_wp2_with fail
 refine (H3.out _).mono ?_
 rintro e w3 ⟨a', n', cap', rfl, hn', hn2', hr', -, hb3⟩
 have HQ := zz (fun w4 (h : Below w3.heap.size w3 w4) => H4.out w4 a' n' cap' hn' (hr'.carry h))
 have HT := zz (fun w4 (h : Below w1.heap.size w1 w4) (h' : Below w3.heap.size w3 w4) => HS.out w4 h a' n' cap' hn' (hr'.carry h'))
 have hc3 := zz (Ab hc2.out hb3)
 replace hb3 := zz hb3
 clear hr' hn' H3 H4 HS
 go_wp2_with fail
 refine (HQ.out _ (Aa _ _)).mono ?_
 rintro e w4 ⟨rfl, hb4⟩
 have x0 : w4.cell? ⟨w3.heap.size, 0, none⟩ = some (.int .i64 0) := Ad hb4 (by first | simp [go_sem] | simp [World.cell?, World.alloc])
 have hd4 := zz (Ab (Aa _ _) hb4)
 have hc4 := zz (Ab hc3.out hd4.out)
 clear hb4
 go_wp2_with fail
 refine (HT.out _ hc4.out hd4.out).mono ?_
 rintro e w5 ⟨rfl, hb5⟩
 have hc5 := zz (Ab (Ab hb1.out hc4.out) hb5)
 clear hb5
 go_wp2_with fail
 refine (HA.out _).mono ?_
 rintro e w6 ⟨rfl, hb6⟩
 have hc6 := zz (Ab hc5.out hb6)
 clear hb6
 go_wp2_with fail
 go_ret
 exact ⟨rfl, hc6.out⟩
theorem Kl (s : ByteArray) (w : World) (h2 : s.size ≤ maxLen) : Calls Tryz.prog 7 #[.string s] w fun e w' => e = .returned (.bool true) ∧ Below w.heap.size w w' := by
 by_cases hs : 2000 < s.size
 ·exact Up s w hs h2
 ·have hl : s.data.toList.length ≤ 2000 := by show s.data.size ≤ 2000; exact Nat.le_of_not_lt hs
  rcases a2a hl with ⟨c, l, k, hc, h⟩ | ⟨L, S, M, r1, f1, p1, r2, f2, p2, sm⟩
  ·exact W9 s w (by omega) c l k hc (zz fun w => by have := K9 s w; rwa [h] at this)
  ·have e : (bs S).data.toList = S := rfl
   exact a19 s w (by omega) (bs S) L M (zz fun w => by have := K9 s w; rwa [r1] at this) (zz (Pq f1 p1)) (zz fun w => by have := K9 (bs S) w; rwa [e, r2] at this) (zz (Pq f2 p2)) (zz (a2r f1 f2 sm))
end Go.Proofs.YtoaplbljflhheaaGreat
