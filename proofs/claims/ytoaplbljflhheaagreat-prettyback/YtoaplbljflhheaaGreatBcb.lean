/-
 Contracts and plain facts on the way to PrettyBack. Conditions: as each says.
-/
import Derived.Test.YtoaplbljflhheaaGreatBca
import Derived.Test.YtoaplbljflhheaaGreatBbz
import Derived.Test.YtoaplbljflhheaaGreatBbo
import Derived.Test.YtoaplbljflhheaaGreatBap
import Derived.Test.YtoaplbljflhheaaGreatBag
import Derived.Test.YtoaplbljflhheaaGreatBby
import Derived.Test.YtoaplbljflhheaaGreatBam
import Derived.Test.YtoaplbljflhheaaGreatBbl
import Derived.Test.YtoaplbljflhheaaGreatBay
import Derived.Test.YtoaplbljflhheaaGreatBai
import Derived.Test.YtoaplbljflhheaaGreatBbn
import Derived.Test.YtoaplbljflhheaaGreatBbv
set_option maxHeartbeats 40000000
set_option maxRecDepth 100000
set_option linter.unusedVariables false
set_option linter.unusedSimpArgs false
namespace Go.Proofs.YtoaplbljflhheaaGreat
open _root_.Go.Proofs.Tryz
section
def Aq : Fo -> List Nat
 | .nil => []
 | .cons i _ r => i.kind :: Aq r
def Eo (i : Inf) (K : Fo) : Bool := Bc i.kind i.text && Bk i.kind i.num && Hl i.kind i.num (Aq K)
def A0 : Fo -> Bool
 | .nil => true
 | .cons i K r => Eo i K && A0 K && A0 r
def Gj (i : Inf) : Inf := ⟨i.kind, 0, 0, i.num, i.text⟩
def Ax : Fo -> Fo
 | .nil => .nil
 | .cons i k r => .cons (Gj i) (Ax k) (Ax r)
theorem b0e {F : Fo} (h : A0 F = true) : ∀ x ∈ Dh F, Eo x.1 x.2 = true := by
 induction F with
 | nil => intro x hx; cases hx
 | cons i k r ihk ihr =>
  rw [A0, Bool.and_eq_true, Bool.and_eq_true] at h;intro x hx;simp only [Dh, List.mem_cons, List.mem_append] at hx;rcases hx with rfl | hx | hx
  ·exact h.1.1
  ·exact ihk h.1.2 x hx
  ·exact ihr h.2 x hx
def b6i (l : List Nd) (p : Nat) (G : Fo) : Prop := ∀ j, j < G.cnt -> l[p + j]? = G.pre[j]?
theorem Ua {l : List Nd} {p : Nat} {i : Inf} {k r : Fo} (h : b6i l p (.cons i k r)) : nd l p = i.nd k.cnt ∧ b6i l (p + 1) k ∧ b6i l (p + 1 + k.cnt) r := by
 refine ⟨?_, fun j hj => ?_, fun j hj => ?_⟩
 ·have := h 0 (by simp [Fo.cnt]; omega);rw [Nat.add_zero] at this;unfold nd;rw [List.getD_eq_getElem?_getD, this];rfl
 ·have := h (j + 1) (by simp [Fo.cnt]; omega);rw [show p + (j + 1) = p + 1 + j by omega] at this;rw [this, Fo.pre, List.getElem?_cons_succ, List.getElem?_append_left (by rw [Cz]; exact hj)]
 ·have := h (k.cnt + j + 1) (by simp [Fo.cnt]; omega);rw [show p + (k.cnt + j + 1) = p + 1 + k.cnt + j by omega] at this;rw [this, Fo.pre, List.getElem?_cons_succ, List.getElem?_append_right (by rw [Cz]; omega), Cz, Nat.add_sub_cancel_left]
theorem a57 {l : List Nd} : ∀ (G : Fo) (p : Nat), b6i l p G -> Cq (sz l) (p + G.cnt) p = some (D4 G p) := by
 intro G
 induction G with
 | nil => intro p _; rw [Fo.cnt, Bj (by omega)]; rfl
 | cons i k r _ ihr =>
  intro p h;obtain ⟨h1, h2, h3⟩ := Ua h;have hs : sz l p = k.cnt := by unfold sz; rw [h1]; rfl
  rw [Fo.cnt, Bh (by omega) (by rw [hs]; omega), hs, Int.toNat_natCast, show p + (k.cnt + 1 + r.cnt) = p + 1 + k.cnt + r.cnt by omega, ihr _ h3];rfl
theorem c0g {l : List Nd} : ∀ (G : Fo) (f p : Nat), b6i l p G -> G.cnt <= f -> fo l f p (p + G.cnt) = Ax G := by
 intro G
 induction G with
 | nil => intro f p _ _; rw [Fo.cnt, Nat.add_zero, b2e]; rfl
 | cons i k r ihk ihr =>
  intro f p h hf;rw [Fo.cnt] at hf;obtain ⟨f, rfl⟩ : ∃ f', f = f' + 1 := ⟨f - 1, by omega⟩;obtain ⟨h1, h2, h3⟩ := Ua h;have hs : sz l p = k.cnt := by unfold sz; rw [h1]; rfl
  rw [Fo.cnt, fo, if_pos (by omega), hs, Int.toNat_natCast, ihk f (p + 1) h2 (by omega), show p + (k.cnt + 1 + r.cnt) = p + 1 + k.cnt + r.cnt by omega, ihr f _ h3 (by omega), h1, Ax];congr 1
theorem a2u (F : Fo) : b6i F.pre 0 F := fun j _ => by rw [Nat.zero_add]
theorem a8a {F G : Fo} {p : Nat} (h : Seg F p G) : b6i F.pre p G := fun j hj => by
 rw [Me, Me, List.getElem?_map, List.getElem?_map, h j hj]
theorem a8i (F : Fo) : Ie F.pre = Ax F := by
 have := c0g F F.pre.length 0 (a2u F) (by rw [Cz]; omega);rw [Nat.zero_add] at this;rw [Ie, Cz];rw [Cz] at this;exact this
theorem Ka {F : Fo} {p : Nat} (hp : p < F.cnt) : nd F.pre p = (Ag F p).1.nd (Ag F p).2.cnt := by
 unfold nd Ag;rw [List.getD_eq_getElem?_getD, Me, List.getElem?_map, List.getD_eq_getElem?_getD, List.getElem?_eq_getElem (by rw [Bd]; exact hp)];rfl
theorem Us {F : Fo} {p : Nat} (hp : p < F.cnt) : Cq (sz F.pre) (p + 1 + (sz F.pre p).toNat) (p + 1) = some (D4 (Ag F p).2 (p + 1)) := by
 have hs : sz F.pre p = (Ag F p).2.cnt := by unfold sz; rw [Ka hp]; rfl
 rw [hs, Int.toNat_natCast];exact a57 _ _ (a8a (I1 hp))
theorem a3d (i : Inf) (K : Fo) : Right (sz (Fo.cons i K .nil).pre) (Fo.cons i K .nil).cnt := by
 refine ⟨by simp [Fo.cnt], ?_, fun j hj => ?_⟩
 ·unfold sz;rw [Ka (by simp [Fo.cnt])];simp [Ag, Dh, Inf.nd, Fo.cnt]
 ·have hs : sz (Fo.cons i K .nil).pre j = (Ag (Fo.cons i K .nil) j).2.cnt := by unfold sz; rw [Ka hj]; rfl
  have := J6 hj;exact ⟨by omega, by omega, by rw [Us hj]; rfl⟩
theorem T9 {F G : Fo} : ∀ {p : Nat}, Seg F p G -> (D4 G p).map (Ai F.pre) = Aq G := by
 induction G with
 | nil => intro p _; rfl
 | cons i k r _ ihr =>
  intro p h;obtain ⟨h1, h2, h3⟩ := Od h
  have hp : p < F.cnt := by
   have := (List.getElem?_eq_some_iff.1 h1).1
   rwa [Bd] at this
  rw [D4, List.map_cons, ihr h3, Aq, Ai, Ka hp];simp [Ag, List.getD_eq_getElem?_getD, h1, Inf.nd]
theorem b9p {F : Fo} (h : A0 F = true) {p : Nat} (hp : p < F.cnt) : a69 F.pre p := by
 have hk : A7 (sz F.pre) p = D4 (Ag F p).2 (p + 1) := by unfold A7; rw [Us hp]; rfl
 have hg := b0e h (Ag F p) (by
  unfold Ag;rw [List.getD_eq_getElem?_getD, List.getElem?_eq_getElem (by rw [Bd]; exact hp)]
  exact List.getElem_mem _)
 unfold Eo at hg;rw [Bool.and_eq_true, Bool.and_eq_true] at hg;unfold a69;rw [hk, T9 (I1 hp), Ka hp];refine ⟨?_, hg.1.2, hg.2⟩;show Bc (Ag F p).1.kind (bs (Ag F p).1.text).data.toList = true;rw [B9];exact hg.1.1
theorem b4n {i : Inf} {K : Fo} (hi : i.kind = 1) (h : A0 (.cons i K .nil) = true) : Rq (Fo.cons i K .nil).pre = true := by
 unfold Rq;rw [Bool.and_eq_true, Bool.and_eq_true, decide_eq_true_eq];refine ⟨⟨Ec (by rw [Cz]; exact a3d i K), ?_⟩, List.all_eq_true.2 fun j hj => ?_⟩
 ·rw [Ai, Ka (by simp [Fo.cnt])];simpa [Ag, Dh, Inf.nd] using hi
 ·rw [List.mem_range, Cz] at hj;obtain ⟨a, b, c⟩ := b9p h hj;rw [Bool.and_eq_true, C3, Bool.and_eq_true, Kg];exact ⟨⟨a, b⟩, c⟩
def b41 (k : Nat) (t : List UInt8) : Inf := ⟨k, 0, 0, 0, t⟩
theorem S7 {i : Inf} {K : Fo} (h1 : 21 <= i.kind) (h2 : i.kind <= 32) (h : A0 (.cons i K .nil) = true) : Vp (Fo.cons i K .nil).pre = true := by
 unfold Vp
 have e : N5 (Fo.cons i K .nil).pre.length ++ (Fo.cons i K .nil).pre = (Fo.cons (b41 1 []) (.cons (b41 4 [102]) (.cons (b41 14 []) .nil (.cons (b41 6 []) (.cons (b41 12 []) (.cons i K .nil) .nil) .nil)) .nil) .nil).pre := by
  rw [Cz];simp only [Fo.pre, List.append_nil, List.nil_append, List.cons_append, Fo.cnt, Nat.add_zero, N5, Inf.nd, b41];simp only [List.cons.injEq, Nd.mk.injEq, true_and, and_true]
  and_intros <;> first | rfl | omega
 rw [e];refine b4n rfl ?_;have h' := h;simp only [A0, Bool.and_true, Eo] at h';simp only [A0, Bool.and_true, Eo, Aq, b41, h']
 have hk : Hl 12 0 [i.kind] = true := by
  show Ak [Am] [i.kind] = true;simp [Ak, Am, List.range, List.range.loop, h1, h2]
 rw [hk];rfl
theorem Ph (F : Fo) : Di F.pre = (txt (Ax F) 0 0).2 := by rw [Di, a8i]
end
section
open Go.RowKit Go.Sort
theorem b2v {H l : List Nd} (hH : ∀ x ∈ H, x.wf) (hl : ∀ i, i < l.length -> (nd l i).wf) : ∀ i, i < (H ++ l).length -> (nd (H ++ l) i).wf := fun i hi => by
 by_cases h : i < H.length
 ·rw [Xa h]; exact a11 hH i h
 ·obtain ⟨j, rfl⟩ : ∃ j, i = j + H.length := ⟨i - H.length, by omega⟩;rw [U2];rw [List.length_append] at hi;exact hl j (by omega)
theorem a26 {w : World} {a : Option Addr} {l : List Nd} (h : Row w a l) : ∀ i, i < l.length -> (nd l i).wf := fun i hi => by
 obtain ⟨_, _, _, _, h⟩ := h i hi;exact h
theorem b4o {w : World} {B : Nat} {v : Value} {H l : List Nd} (h : Ov w B v (H ++ l)) (hp : 0 < H.length) (hH : ∀ x ∈ H, x.wf) (hl : ∀ i, i < l.length -> (nd l i).wf) (hn : (H ++ l).length <= 1000000) (p : Bool) (hm : Rq (H ++ l) = p) :
  ∃ g N cap, v = .slice (some ⟨g, 0, none⟩) N cap ∧ Calls prog 23 #[.slice (some ⟨g, 0, none⟩) N cap] w fun e w' => e = .returned (.bool p) ∧ Below w.heap.size w w' := by
 obtain ⟨g, cap, rfl, hr, -⟩ := b32 h (by rw [List.length_append]; omega) (b2v hH hl);exact ⟨g, _, cap, rfl, Xf _ _ _ _ _ rfl hn hr p hm⟩
theorem W0 {w : World} {a : Option Addr} {n cap : Nat} {l : List Nd} (hlen : l.length = n) (hn : n <= 4000) (hrow : Row w a l) (hlow : a6z w a) (hb : (l.map fun x => x.text.size).sum <= 100000)
  (hR : Right (sz l) l.length) (h0 : 15 <= (nd l 0).kind ∧ (nd l 0).kind <= 32) (A : ∀ p, p < l.length -> a69 l p) :
  Calls prog 24 #[.slice a n cap] w fun e w' => e = .returned (.string (bs (Di l))) ∧ Below w.heap.size w w' := by
 subst hlen;have hwf := a26 hrow;obtain ⟨hc, hall⟩ := Gu hR;have hp := hR.pos;have hL := Ur hR hwf hn hb;refine Rh (F := Ie l) (S := Di l) (fun mb => a5m hR (by omega) A hwf (fun i hi => Nat.le_trans (a2h hi) hb) a cap mb) hrow rfl (by omega) (by omega) hlow ?_ rfl (by rw [hc]; exact hL);rw [(hall 0 hp).1];show (nd l 0).kind ≠ 14;omega
theorem b0t {w : World} {a : Option Addr} {n cap : Nat} {l : List Nd} {p : Bool} (hz : a = none -> n = 0 ∧ cap = 0) (hlen : l.length = n) (hn : n <= 4000) (hrow : Row w a l) (hlow : p = true -> a6z w a) (hb : (l.map fun x => x.text.size).sum <= 100000) (hm : Vp l = p) :
  Calls prog 13 #[.slice a n cap] w fun e w' => e = .returned (if p then .tuple #[.string (bs (Di l)), .int .i64 0] else .tuple #[.string (bs []), .int .i64 1]) ∧ Below w.heap.size w w' := by
 have hwf := a26 hrow;have HA := zz (a1p (w := w) (cap := cap) hz hlen (by omega) hrow);have HM := zz (fun (w1 : World) (B : Nat) (v : Value) (h : Ov w1 B v (N5 n ++ l)) => b4o h (by simp [N5]) (Yb (by omega)) hwf (by rw [List.length_append, hlen]; simp [N5]; omega) p (by rw [<- hlen]; exact hm))
 have HP := zz (fun (h : p = true) (w1 : World) (hb1 : Below w.heap.size w w1) => by
  obtain ⟨q1, q2, q3⟩ := b0v (hm.trans h);rw [Am, decide_eq_true_eq] at q2
  exact W0 (w := w1) (a := a) (cap := cap) hlen hn (hrow.carry hb1) ((hlow h).carry hb1) hb q1 (by omega) q3)
 clear hz hlen hn hrow hlow hb hm hwf;go_enter func13, ntmps13;go_wp2_with fail;refine HA.out.mono ?_;rintro e w1 ⟨v, rfl, ho, hb1⟩;obtain ⟨g, N, c, rfl, hcall⟩ := HM.out _ _ _ ho;replace hcall := zz hcall;replace hb1 := zz hb1;clear ho HM HA
 cases p with
 | false =>
  clear HP;go_wp2_with fail;refine hcall.out.mono ?_;rintro e w2 ⟨rfl, hb2⟩;replace hb2 := zz (Ab hb1.out hb2);go_wp2_with fail
  exact bodyPost_ret (v := .tuple #[.string (bs []), .int .i64 1]) (by simp [results, results13, go_sem, bs]) rfl ⟨rfl, hb2.out⟩
 | true =>
  go_wp2_with fail;refine hcall.out.mono ?_;rintro e w2 ⟨rfl, hb2⟩;replace hb2 := zz (Ab hb1.out hb2);go_wp2_with fail;refine (HP.out True.intro _ hb2.out).mono ?_;rintro e w3 ⟨rfl, hb3⟩;replace hb3 := zz (Ab hb2.out hb3);go_wp2_with fail;exact bodyPost_ret (v := .tuple #[.string (bs (Di l)), .int .i64 0]) (by simp [results, results13, go_sem]) rfl ⟨rfl, hb3.out⟩
end
section
open Go.RowKit Go.Sort
def Z6 : Nat -> List UInt8 -> Nat -> Nat -> Res
 | 0, _, _, _ => .error (0, 0, 0)
 | n + 1, l, line, col =>
  if l.isEmpty then .ok [⟨8, line, col, 0, []⟩]
  else if l.headD 0 = 10 then Z6 n l.tail (line + 1) 1
  else if l.headD 0 = 32 ∨ l.headD 0 = 9 ∨ l.headD 0 = 13 then Z6 n l.tail line (col + 1)
  else if l.headD 0 = 35 then Z6 n (l.tail.drop (Bz nlf l.tail)) line (col + (Bz nlf l.tail + 1))
  else if (one l).err = 0 then (Z6 n (l.drop (one l).size) line (col + (one l).size)).map (⟨(one l).kind, line, col, (one l).num, (one l).text⟩ :: ·)
  else .error ((one l).err, line, col)
theorem R5 (n : Nat) : ∀ (l : List UInt8) (a b : Nat), l.length < n -> Z6 n l a b = F8 l a b := by
 induction n with
 | zero => intro l a b h; omega
 | succ n ih =>
  intro l a b h;rw [Z6, F8];by_cases hl : l = []
  ·subst hl; rfl
  ·have hp : 0 < l.length := List.length_pos_iff.2 hl;rw [if_neg (by simpa using hl), dif_neg hl];split
   ·exact ih _ _ _ (by simp; omega)
   ·split
    ·exact ih _ _ _ (by simp; omega)
    ·split
     ·exact ih _ _ _ (by simp; omega)
     ·split
      ·rename_i h4;have := Pk l hl h4;rw [ih _ _ _ (by simp; omega)]
      ·rfl
def c1i : Fo := .cons ⟨31, 1, 6, 3, []⟩ (.cons ⟨31, 1, 3, 1, []⟩ (.cons ⟨26, 1, 2, 0, [97]⟩ .nil (.cons ⟨26, 1, 4, 0, [98]⟩ .nil .nil)) (.cons ⟨26, 1, 8, 0, [99]⟩ .nil .nil)) .nil
def c1h : Fo := .cons ⟨31, 1, 8, 2, []⟩ (.cons ⟨31, 1, 2, 2, []⟩ (.cons ⟨26, 1, 1, 0, [97]⟩ .nil (.cons ⟨31, 1, 5, 2, []⟩ (.cons ⟨26, 1, 4, 0, [98]⟩ .nil (.cons ⟨26, 1, 6, 0, [99]⟩ .nil .nil)) .nil)) (.cons ⟨26, 1, 9, 0, [100]⟩ .nil .nil)) .nil
def c1g : Fo := .cons ⟨30, 1, 1, 12, []⟩ (.cons ⟨30, 1, 3, 12, []⟩ (.cons ⟨26, 1, 4, 0, [120]⟩ .nil .nil) .nil) .nil
theorem c4m : Jt Bu [40, 97, 43, 98, 41, 42, 40, 99, 41] = (c1i.pre, (0, 0, 0)) := by
 unfold Jt;rw [if_neg (by decide), <- R5 20 _ _ _ (by decide)];rfl
theorem c4l : Jt Bu [97, 45, 40, 98, 45, 99, 41, 45, 100] = (c1h.pre, (0, 0, 0)) := by
 unfold Jt;rw [if_neg (by decide), <- R5 20 _ _ _ (by decide)];rfl
theorem c4k : Jt Bu [45, 40, 45, 120, 41] = (c1g.pre, (0, 0, 0)) := by
 unfold Jt;rw [if_neg (by decide), <- R5 20 _ _ _ (by decide)];rfl
theorem c4p : Di c1i.pre = [40, 97, 32, 43, 32, 98, 41, 32, 42, 32, 99] := by rw [Ph]; rfl
theorem c4o : Di c1h.pre = [97, 32, 45, 32, 40, 98, 32, 45, 32, 99, 41, 32, 45, 32, 100] := by rw [Ph]; rfl
theorem c4n : Di c1g.pre = [45, 45, 120] := by rw [Ph]; rfl
theorem c4s : Vp c1i.pre = true := S7 (by decide) (by decide) (by rfl)
theorem c4r : Vp c1h.pre = true := S7 (by decide) (by decide) (by rfl)
theorem c4q : Vp c1g.pre = true := S7 (by decide) (by decide) (by rfl)
def wfB (x : Nd) : Bool := decide (x.kind < 256) && decide (-9223372036854775808 <= x.line ∧ x.line <= 9223372036854775807) && decide (-9223372036854775808 <= x.col ∧ x.col <= 9223372036854775807) && decide (-9223372036854775808 <= x.size ∧ x.size <= 9223372036854775807) && decide (-9223372036854775808 <= x.num ∧ x.num <= 9223372036854775807) && decide (x.text.size <= 100000)
theorem a12 {l : List Nd} (h : l.all wfB = true) : ∀ i, i < l.length -> (nd l i).wf := fun i hi => by
 have e : nd l i = l[i] := by simp [nd, List.getD_eq_getElem?_getD, List.getElem?_eq_getElem hi]
 have := List.all_eq_true.1 h _ (List.getElem_mem hi);rw [e];simp only [wfB, Bool.and_eq_true, decide_eq_true_eq] at this;obtain ⟨⟨⟨⟨⟨h1, h2⟩, h3⟩, h4⟩, h5⟩, h6⟩ := this;exact ⟨h1, h2, h3, h4, h5, by unfold maxLen; omega⟩
theorem Y3 {w : World} {a : Option Addr} {l : List Nd} (h : a6y w a l) (hwf : ∀ i, i < l.length -> (nd l i).wf) : Row w a l := fun i hi => by
 obtain ⟨g, o, h1, h2⟩ := h i hi;exact ⟨g, o, h1, h2, hwf i hi⟩
theorem a9b {w : World} {a : Option Addr} {l : List Nd} (h : a6y w a l) (hl : 0 < l.length) : a6z w a := fun g o e => by
 obtain ⟨g', o', h1, h2⟩ := h 0 hl;rw [e] at h1;cases h1;exact block_lt_of_cell h2.c0
theorem Qj (s : ByteArray) (L : List Nd) (T : List UInt8) (hread : Jt Bu s.data.toList = (L, (0, 0, 0))) (hp : 0 < L.length) (hn : L.length <= 4000) (hwf : ∀ i, i < L.length -> (nd L i).wf) (ht : (L.map fun x => x.text.size).sum <= 100000) (he : Vp L = true) (hT : Di L = T) (w : World) :
  Calls prog 22 #[.string s] w fun e w' => e = .returned (.string (bs T)) ∧ Below w.heap.size w w' := by
 have H := zz (fun w => b0u s w);rw [hread] at H
 have HE := zz (fun (w : World) (a : Option Addr) (n cap : Nat) (hz : a = none -> n = 0 ∧ cap = 0) (hlen : L.length = n) (hr : Row w a L) (hlow : a6z w a) => by
  have := b0t (cap := cap) hz hlen (by omega) hr (fun _ => hlow) ht he;rw [if_pos rfl, hT] at this
  exact this)
 replace hwf := zz hwf;replace hp := zz hp;clear hread ht he hT hn;go_enter func22, ntmps22;go_wp2_with fail;refine (H.out _).mono ?_;rintro e w1 ⟨a, n, cap, rfl, hn, hn2, hr, -, hb1⟩
 have hz : a = none -> n = 0 ∧ cap = 0 := fun ea => by
  obtain ⟨g, o, h1, -⟩ := hr 0 hp.out;rw [ea] at h1; cases h1
 have HX := zz (fun w2 (h : Below w1.heap.size w1 w2) => HE.out w2 a n cap hz hn (Y3 (hr.carry h) hwf.out) (a9b (hr.carry h) hp.out));replace hb1 := zz hb1;clear hn hr hz H HE hwf hp;go_wp2_with fail;refine (HX.out _ (Aa _ _)).mono ?_;rintro e w2 ⟨rfl, hb2⟩;replace hb2 := zz (Ab (Ab hb1.out (Aa _ _)) hb2);go_wp2_with fail;go_ret;exact ⟨rfl, hb2.out⟩
theorem Mw (w : World) : Calls prog 9 #[] w fun e w' => e = .returned (.bool true) ∧ Below w.heap.size w w' := by
 have H1 := zz (fun w => Qj { data := #[40, 97, 43, 98, 41, 42, 40, 99, 41] } c1i.pre _ c4m (by decide) (by decide) (a12 (by decide)) (by decide) c4s c4p w);have H2 := zz (fun w => Qj { data := #[97, 45, 40, 98, 45, 99, 41, 45, 100] } c1h.pre _ c4l (by decide) (by decide) (a12 (by decide)) (by decide) c4r c4o w);have H3 := zz (fun w => Qj { data := #[45, 40, 45, 120, 41] } c1g.pre _ c4k (by decide) (by decide) (a12 (by decide)) (by decide) c4q c4n w);go_enter func9, ntmps9;go_wp2_with fail;refine (H1.out _).mono ?_;rintro e w1 ⟨rfl, hb1⟩;replace hb1 := zz hb1;simp only [bs];go_wp2_with fail;refine (H2.out _).mono ?_;rintro e w2 ⟨rfl, hb2⟩;replace hb2 := zz (Ab hb1.out hb2);simp only [bs];go_wp2_with fail;refine (H3.out _).mono ?_;rintro e w3 ⟨rfl, hb3⟩;replace hb3 := zz (Ab hb2.out hb3);simp only [bs];go_wp2_with fail;go_ret;exact ⟨rfl, hb3.out⟩
end
section
def tkB (t : Tok) : Tok := ⟨t.kind, 0, 0, t.num, t.text⟩
def NB (m : List UInt8) : Prop := ∀ c, m.head? = some c -> nam c = false
def NE (m : List UInt8) : Prop := ∀ c, m.head? = some c -> c ≠ 61
def Lx (b : Bool) (s : List UInt8) (T : List Tok) : Prop := ∀ m line col, (b = true -> NB m) -> NE m -> ∃ l' c' T', T'.map tkB = T ∧ F8 (s ++ m) line col = (F8 m l' c').map (T' ++ ·)
theorem Lx.weak {s : List UInt8} {T : List Tok} (h : Lx false s T) (b : Bool) : Lx b s T := fun m line col _ h2 => h m line col (by intro h; cases h) h2
theorem b2a (b : Bool) : Lx b [] [] := fun m line col _ _ => ⟨line, col, [], rfl, by cases h : F8 m line col <;> simp [Except.map, h]⟩
theorem Xg {x : Res} {A B : List Tok} : ((x.map (B ++ ·)).map (A ++ ·) : Res) = x.map ((A ++ B) ++ ·) := by
 cases x <;> simp [Except.map]
theorem Lx.app {b c : Bool} {s u : List UInt8} {T U : List Tok} (h : Lx b s T) (k : Lx c u U) (hu : u ≠ []) (hb : b = true -> NB u) (he : NE u) : Lx c (s ++ u) (T ++ U) := fun m line col h1 h2 => by
 have hd : ∀ x, (u ++ m).head? = some x -> u.head? = some x := fun x hx => by
  cases u with
  | nil => exact absurd rfl hu
  | cons y r => simpa using hx
 obtain ⟨l1, c1, T1, e1, f1⟩ := h (u ++ m) line col (fun q x hx => hb q x (hd x hx)) (fun x hx => he x (hd x hx));obtain ⟨l2, c2, T2, e2, f2⟩ := k m l1 c1 h1 h2;exact ⟨l2, c2, T1 ++ T2, by rw [List.map_append, e1, e2], by rw [List.append_assoc, f1, f2, Xg]⟩
theorem Hq {c : UInt8} (hc : c = 32 ∨ c = 9 ∨ c = 13 ∨ c = 10) {b : Bool} {s : List UInt8} {T : List Tok} (h : Lx b s T) : Lx b (c :: s) T := fun m line col h1 h2 => by
 rw [List.cons_append];rcases hc with rfl | rfl | rfl | rfl
 ·rw [Eg _ _ _ _ (by simp)]; exact h m _ _ h1 h2
 ·rw [Eg _ _ _ _ (by simp)]; exact h m _ _ h1 h2
 ·rw [Eg _ _ _ _ (by simp)]; exact h m _ _ h1 h2
 ·rw [R3]; exact h m _ _ h1 h2
theorem Rs {b : Bool} {c : UInt8} {s : List UInt8} {t : Tok} (hg : ¬ Fy c) (h : ∀ m, (b = true -> NB m) -> NE m -> one (c :: s ++ m) = ⟨0, s.length + 1, t.kind, t.num, t.text⟩) : Lx b (c :: s) [tkB t] := fun m line col h1 h2 => by
 have e := h m h1 h2;refine ⟨line, col + (s.length + 1), [⟨t.kind, line, col, t.num, t.text⟩], rfl, ?_⟩;rw [List.cons_append] at e ⊢;rw [Oa _ _ _ _ hg (by rw [e]), e];simp only;rw [List.drop_succ_cons, List.drop_left];rfl
abbrev sg (x : List UInt8) : Tok := ⟨7, 0, 0, 0, x⟩
abbrev wd (x : List UInt8) : Tok := ⟨6, 0, 0, 0, x⟩
abbrev nmT (x : List UInt8) : Tok := ⟨1, 0, 0, 0, x⟩
abbrev bgT (x : List UInt8) : Tok := ⟨2, 0, 0, 0, x⟩
theorem By {c : UInt8} (hc : c ∈ Qt) : Lx false [c] [sg [c]] := by
 have hk : ¬ Fy c ∧ (sml c || grt c) = false ∧ dgt c = false ∧ c ≠ 34 ∧ ∀ d : UInt8, d ≠ 61 -> [c, d] ∉ J0 := by
  simp only [Qt, List.mem_cons, List.not_mem_nil, or_false] at hc;refine ⟨by rcases hc with rfl | rfl | rfl | rfl | rfl | rfl | rfl | rfl | rfl | rfl | rfl | rfl | rfl | rfl | rfl | rfl | rfl | rfl | rfl <;> unfold Fy <;> decide, by rcases hc with rfl | rfl | rfl | rfl | rfl | rfl | rfl | rfl | rfl | rfl | rfl | rfl | rfl | rfl | rfl | rfl | rfl | rfl | rfl <;> decide, by rcases hc with rfl | rfl | rfl | rfl | rfl | rfl | rfl | rfl | rfl | rfl | rfl | rfl | rfl | rfl | rfl | rfl | rfl | rfl | rfl <;> decide, by rcases hc with rfl | rfl | rfl | rfl | rfl | rfl | rfl | rfl | rfl | rfl | rfl | rfl | rfl | rfl | rfl | rfl | rfl | rfl | rfl <;> decide, fun d hd hm => ?_⟩;simp only [J0, List.mem_cons, List.not_mem_nil, or_false, List.cons.injEq, and_true] at hm;rcases hm with ⟨rfl, rfl⟩ | ⟨rfl, rfl⟩ | ⟨rfl, rfl⟩ | ⟨rfl, rfl⟩ | ⟨rfl, rfl⟩ | ⟨rfl, rfl⟩
  ·revert hc; decide
  ·revert hc; decide
  all_goals exact hd rfl
 obtain ⟨g1, g2, g3, g4, g5⟩ := hk;refine Rs (t := sg [c]) g1 fun m _ h2 => ?_
 show one (c :: m) = _;unfold one;rw [List.headD_cons, g2, g3, if_neg (by simp), if_neg (by simp), if_neg g4];unfold Lh
 have ht : ¬ (c :: m).take 2 ∈ J0 := by
  cases m with
  | nil =>
   intro hm;have h6 : ∀ x ∈ J0, x.length = 2 := by decide
   have := h6 _ hm
   simp at this
  | cons d r => exact g5 d (h2 d rfl)
 have hs : sgn (c :: m) = 1 := by rw [sgn, if_neg ht, List.headD_cons, if_pos hc]
 rw [hs];rfl
theorem Kx {c d : UInt8} (hc : [c, d] ∈ J0) : Lx false [c, d] [sg [c, d]] := by
 have hk : ¬ Fy c ∧ (sml c || grt c) = false ∧ dgt c = false ∧ c ≠ 34 := by
  simp only [J0, List.mem_cons, List.not_mem_nil, or_false, List.cons.injEq, and_true] at hc;rcases hc with ⟨rfl, rfl⟩ | ⟨rfl, rfl⟩ | ⟨rfl, rfl⟩ | ⟨rfl, rfl⟩ | ⟨rfl, rfl⟩ | ⟨rfl, rfl⟩ <;> exact ⟨by unfold Fy; decide, by decide, by decide, by decide⟩
 obtain ⟨g1, g2, g3, g4⟩ := hk;refine Rs (t := sg [c, d]) g1 fun m _ h2 => ?_
 show one (c :: d :: m) = _;unfold one;rw [List.headD_cons, g2, g3, if_neg (by simp), if_neg (by simp), if_neg g4];unfold Lh;have hs : sgn (c :: d :: m) = 2 := by rw [sgn, if_pos (show List.take 2 (c :: d :: m) ∈ J0 from hc)]
 rw [hs];rfl
theorem Ma {t m : List UInt8} (h : t.all nam = true) (hm : NB m) : Bz nam (t ++ m) = t.length := by
 rw [Oe (by simpa using h), J7 hm]; rfl
theorem Sq {c : UInt8} {s : List UInt8} (hc : (sml c || grt c) = true) (ha : (c :: s).all nam = true) : Lx true (c :: s) [⟨Kf (c :: s), 0, 0, 0, c :: s⟩] := by
 have hg : ¬ Fy c := by
  intro hg;unfold Fy at hg;rcases hg with rfl | rfl | rfl | rfl | rfl <;> revert hc <;> decide
 refine Rs (t := ⟨Kf (c :: s), 0, 0, 0, c :: s⟩) hg fun m h1 _ => ?_
 have hr := Ma ha (h1 rfl);unfold one;rw [show (c :: s ++ m).headD 0 = c from rfl, if_pos hc, hr, List.take_left]
 have hn : Kf (c :: s ++ m) = Kf (c :: s) := by
  unfold Kf
  rw [hr, List.take_left, show Bz nam (c :: s) = (c :: s).length by
   have := Ma (m := []) ha (fun x hx => by cases hx)
   rwa [List.append_nil] at this, List.take_length]
  rfl
 rw [hn];rfl
theorem Xh {w : List UInt8} (h : w ∈ Lb) : Lx true w [wd w] := by
 have hk : ∃ c s, w = c :: s ∧ (sml c || grt c) = true ∧ w.all nam = true := by
  simp only [Lb, List.mem_cons, List.not_mem_nil, or_false] at h;rcases h with rfl | rfl | rfl | rfl | rfl | rfl | rfl | rfl | rfl | rfl | rfl | rfl | rfl | rfl | rfl | rfl <;> exact ⟨_, _, rfl, by decide, by decide⟩
 obtain ⟨c, s, rfl, h1, h2⟩ := hk;have := Sq h1 h2
 have e : Kf (c :: s) = 6 := by
  unfold Kf
  rw [show Bz nam (c :: s) = (c :: s).length by
   have := Ma (m := []) h2 (fun x hx => by cases hx)
   rwa [List.append_nil] at this, List.take_length, Dj, decide_eq_true h, if_pos rfl]
 rw [e] at this;exact this
theorem Kq {q : Int -> Bool} {l : List UInt8} (h : J4 q l = true) : ∃ c s, l = c :: s ∧ q c.toNat = true ∧ l.all nam = true := by
 unfold J4 at h;rw [Bool.and_eq_true, Bool.and_eq_true] at h
 cases l with
 | nil => simp at h
 | cons c s => exact ⟨c, s, rfl, h.1.2, h.2⟩
theorem b8a (c : UInt8) : Qp (c.toNat : Int) = sml c := by
 unfold Qp sml;rw [Bool.eq_iff_iff];simp only [Bool.or_eq_true, Bool.and_eq_true, decide_eq_true_eq];have : c = 95 ↔ (c.toNat : Int) = 95 := ⟨fun h => by rw [h]; rfl, fun h => UInt8.toNat_inj.1 (by show c.toNat = 95; omega)⟩;rw [this];omega
theorem b95 (c : UInt8) : Tn (c.toNat : Int) = grt c := by
 unfold Tn grt;rw [Bool.eq_iff_iff];simp only [Bool.and_eq_true, decide_eq_true_eq];omega
theorem Sr {t : List UInt8} (h : Ed t = true) : Lx true t [nmT t] := by
 unfold Ed at h;rw [Bool.and_eq_true, Bool.not_eq_true'] at h;obtain ⟨c, s, rfl, h1, h2⟩ := Kq h.1;rw [b8a] at h1
 have hg : grt c = false := by
  cases hh : grt c with
  | false => rfl
  | true =>
   simp [sml, grt] at h1 hh;rcases h1 with h1 | h1
   ·omega
   ·subst h1; revert hh; decide
 have := Sq (c := c) (s := s) (by rw [h1]; rfl) h2
 have e : Kf (c :: s) = 1 := by
  unfold Kf
  rw [show Bz nam (c :: s) = (c :: s).length by
   have := Ma (m := []) h2 (fun x hx => by cases hx)
   rwa [List.append_nil] at this, List.take_length, h.2, List.headD_cons, hg]
  rfl
 rw [e] at this;exact this
theorem a9u {t : List UInt8} (h : Ew t = true) : Lx true t [bgT t] := by
 unfold Ew at h;obtain ⟨c, s, rfl, h1, h2⟩ := Kq h;rw [b95] at h1;have := Sq (c := c) (s := s) (by rw [h1]; simp) h2
 have hw : Dj (c :: s) = false := by
  cases hh : Dj (c :: s) with
  | false => rfl
  | true =>
   rw [Dj, decide_eq_true_eq] at hh;have : ∀ w ∈ Lb, grt (w.headD 0) = false := by decide
   have := this _ hh;rw [List.headD_cons, h1] at this;cases this
 have e : Kf (c :: s) = 2 := by
  unfold Kf
  rw [show Bz nam (c :: s) = (c :: s).length by
   have := Ma (m := []) h2 (fun x hx => by cases hx)
   rwa [List.append_nil] at this, List.take_length, hw, List.headD_cons, h1]
  rfl
 rw [e] at this;exact this
theorem b9s (t : List UInt8) : Lx false (lit t) [⟨5, 0, 0, 0, t⟩] := by
 obtain ⟨r, hr⟩ : ∃ r, lit t = 34 :: r := ⟨_, rfl⟩;rw [hr];refine Rs (t := ⟨5, 0, 0, 0, t⟩) (by unfold Fy; decide) fun m _ _ => ?_
 have := a8q t m;rw [hr] at this;unfold one;rw [show (34 :: r ++ m).headD 0 = (34 : UInt8) from rfl, if_neg (by decide), if_neg (by decide), if_pos rfl, Ll, this];rfl
theorem Ta (n : Nat) : ∀ c ∈ Nm.dec n, dgt c = true := fun c hc => List.all_eq_true.1 (Nm.dec_all n) c hc
theorem b5r {c : UInt8} (h : dgt c = true) : nam c = true := by unfold nam; rw [h]; simp
theorem a5x {c : UInt8} (h : dgt c = true) : (sml c || grt c) = false ∧ ¬ Fy c ∧ c ≠ 105 ∧ c ≠ 45 := by
 simp only [dgt, Bool.and_eq_true, decide_eq_true_eq] at h;refine ⟨?_, ?_, ?_, ?_⟩
 ·rw [Bool.or_eq_false_iff];constructor
  ·unfold sml;rw [Bool.or_eq_false_iff];constructor
   ·simp; omega
   ·rw [decide_eq_false_iff_not]; rintro rfl; revert h; decide
  ·unfold grt; simp; omega
 ·unfold Fy;rintro (rfl | rfl | rfl | rfl | rfl) <;> revert h <;> decide
 ·rintro rfl; revert h; decide
 ·rintro rfl; revert h; decide
theorem Ye (n : Nat) : b1w (Nm.dec n) = Nm.dec n := by
 unfold b1w
 have : Bz nou (Nm.dec n).dropLast = 0 := by
  cases hd : (Nm.dec n).dropLast with
  | nil => rfl
  | cons c r =>
   have h1 : (Nm.dec n).headD 0 = c := by
    cases he : Nm.dec n with
    | nil => rw [he] at hd; simp at hd
    | cons x y =>
     rw [he] at hd
     cases y with
     | nil => simp at hd
     | cons z w => simp at hd; rw [List.headD_cons]; exact hd.1
   have h2 : 0 < n := by
    by_cases h0 : n = 0
    ·subst h0;rw [Nm.dec_small (by omega)] at hd;simp at hd
    ·omega
   have h3 := Nm.dec_head n h2;rw [h1] at h3;unfold Bz nou;rw [if_neg (by simpa using h3)]
 rw [this, List.drop_zero]
theorem Uu (n : Nat) (h : n <= 9223372036854775807) : Nm.parseE (Nm.dec n) = 0 ∧ Nm.parseN (Nm.dec n) = n := by
 have hn : Nm.negB (Nm.dec n) = false := by
  unfold Nm.negB
  cases he : Nm.dec n with
  | nil => exact absurd he (Nm.dec_ne n)
  | cons x y =>
   have := Ta n x (by rw [he]; simp);have := (a5x this).2.2.2;simpa using this
 have hb : Nm.body (Nm.dec n) = Nm.dec n := by unfold Nm.body; rw [hn]; rfl
 have hg : Nm.good (Nm.dec n) = true := by unfold Nm.good; rw [hb, Nm.isDec_dec, hn]; rfl
 have hm : ¬ Nm.mostOf false < Nm.valL (Nm.dec n) := by rw [Nm.valL_dec]; show ¬ 9223372036854775807 < n; omega
 unfold Nm.parseE Nm.parseN;rw [hg, hb, hn, if_neg hm, Nm.valL_dec];simp only [if_true, if_neg (show ¬ Nm.mostOf false < n by rw [Nm.valL_dec] at hm; exact hm)];exact ⟨trivial, by simp⟩
theorem b9u (n : Nat) (h : n <= 9223372036854775807) : Lx true (Nm.dec n) [⟨3, 0, 0, n, []⟩] := by
 obtain ⟨c, s, hcs⟩ : ∃ c s, Nm.dec n = c :: s := by
  cases he : Nm.dec n with
  | nil => exact absurd he (Nm.dec_ne n)
  | cons x y => exact ⟨x, y, rfl⟩
 have ha := Ta n;have ht := Ye n;have hp := Uu n h;rw [hcs] at ha ht hp ⊢;obtain ⟨g1, g2, g3, _⟩ := a5x (ha c (by simp));refine Rs (t := ⟨3, 0, 0, n, []⟩) g2 fun m h1 _ => ?_
 have hnb := h1 rfl
 have hr : Bz dgt (c :: s ++ m) = (c :: s).length := by
  rw [Oe ha, J7 fun x hx => by
   cases hd : dgt x with
   | false => rfl
   | true => have := hnb x hx; rw [b5r hd] at this; cases this]
  rfl
 have hC : isC (c :: s ++ m) = false := by
  unfold isC;rw [hr, List.drop_left, decide_eq_false_iff_not];intro hm;have := hnb 105 hm
  revert this; decide
 have hK : Y2 (c :: s ++ m) = (c :: s).length := by unfold Y2; rw [hC, hr]; rfl
 have hD : W9 (c :: s ++ m) = c :: s := by unfold W9; rw [hr, List.take_left, ht]
 have hM : a4a (c :: s ++ m) = 9223372036854775807 := by unfold a4a; rw [hC]; rfl
 unfold one;rw [show (c :: s ++ m).headD 0 = c from rfl, g1, if_neg (by simp), if_pos (ha c (by simp))];unfold Mh;rw [hK, List.drop_left, J7 hnb, if_neg (by simp), hD, hM, hp.1, hp.2, if_neg (by omega), hC];rfl
theorem b4u (n : Nat) (h : n <= 8388607) : Lx true (Nm.dec n ++ [105]) [⟨4, 0, 0, n, []⟩] := by
 obtain ⟨c, s, hcs⟩ : ∃ c s, Nm.dec n = c :: s := by
  cases he : Nm.dec n with
  | nil => exact absurd he (Nm.dec_ne n)
  | cons x y => exact ⟨x, y, rfl⟩
 have ha := Ta n;have ht := Ye n;have hp := Uu n (by omega);rw [hcs] at ha ht hp ⊢;obtain ⟨g1, g2, g3, _⟩ := a5x (ha c (by simp));rw [List.cons_append];refine Rs (t := ⟨4, 0, 0, n, []⟩) g2 fun m h1 _ => ?_
 have hnb := h1 rfl;have e : c :: (s ++ [105]) ++ m = c :: s ++ (105 :: m) := by simp
 rw [e]
 have hr : Bz dgt (c :: s ++ (105 :: m)) = (c :: s).length := by
  rw [Oe ha, J7 fun x hx => by
   simp at hx; subst hx; decide]
  rfl
 have hC : isC (c :: s ++ (105 :: m)) = true := by
  unfold isC;rw [hr, List.drop_left];rfl
 have hK : Y2 (c :: s ++ (105 :: m)) = (c :: s).length + 1 := by unfold Y2; rw [hC, hr]; rfl
 have hD : W9 (c :: s ++ (105 :: m)) = c :: s := by unfold W9; rw [hr, List.take_left, ht]
 have hM : a4a (c :: s ++ (105 :: m)) = 8388607 := by unfold a4a; rw [hC]; rfl
 have hdr : (c :: s ++ (105 :: m)).drop ((c :: s).length + 1) = m := by
  rw [<- List.drop_drop, List.drop_left]; rfl
 unfold one;rw [show (c :: s ++ (105 :: m)).headD 0 = c from rfl, g1, if_neg (by simp), if_pos (ha c (by simp))];unfold Mh;rw [hK, hdr, J7 hnb, if_neg (by simp), hD, hM, hp.1, hp.2, if_neg (by omega), hC];simp
end
section
abbrev TT := Inf × List Tok
def H8 (ts : List TT) (j : Nat) : TT := ts.getD j (c1f, [])
def Qn (m : Nat) (x : TT) : List Tok := if lvl x.1 < m then sg [40] :: (x.2 ++ [sg [41]]) else x.2
def Ap : List TT -> List Tok
 | [] => []
 | x :: l => x.2 ++ l.flatMap fun y => sg [44] :: y.2
def U7 (ts : List TT) : List Tok := [sg [123]] ++ (ts.flatMap fun x => x.2) ++ [sg [125]]
def b6e (i : Inf) : Tok :=
 if i.kind = 21 then ⟨3, 0, 0, i.num, []⟩ else if i.kind = 22 then ⟨4, 0, 0, i.num, []⟩ else if i.kind = 23 then ⟨5, 0, 0, 0, i.text⟩
 else if i.kind = 24 then (if i.num = 0 then wd [102, 97, 108, 115, 101] else wd [116, 114, 117, 101]) else if i.kind = 25 then wd [110, 105, 108] else nmT i.text
def c1q (i : Inf) (ts : List TT) : List Tok :=
 if i.kind = 15 then [wd [105, 110, 116]] else if i.kind = 16 then [wd [98, 111, 111, 108]] else if i.kind = 17 then [wd [115, 116, 114]] else if i.kind = 18 then [wd [99, 111, 109, 112]]
 else if i.kind = 19 then [bgT i.text] else [sg [91]] ++ (H8 ts 0).2 ++ [sg [93]]
def tkN (i : Inf) (ts : List TT) : List Tok := match i.kind with
 | 1 => ts.flatMap fun x => x.2
 | 2 => [wd [114, 101, 99], bgT i.text] ++ U7 ts
 | 3 => [nmT i.text, sg [58]] ++ (H8 ts 0).2 ++ [sg [59]]
 | 4 => [wd [102, 110], nmT i.text, sg [40]] ++ Ap (ts.take i.num.toNat) ++ [sg [41]] ++ (if (H8 ts i.num.toNat).1.kind = 14 then [] else [sg [58]] ++ (H8 ts i.num.toNat).2) ++ (H8 ts (i.num.toNat + 1)).2
 | 5 => [nmT i.text, sg [58]] ++ (H8 ts 0).2
 | 6 => U7 ts
 | 7 => [wd [118, 97, 114], nmT i.text, sg [58]] ++ (H8 ts 0).2 ++ [sg [61]] ++ (H8 ts 1).2 ++ [sg [59]]
 | 8 => (H8 ts 0).2 ++ [sg [61]] ++ (H8 ts 1).2 ++ [sg [59]]
 | 9 => [wd [105, 102]] ++ (H8 ts 0).2 ++ (H8 ts 1).2 ++ (if ts.length = 3 then [wd [101, 108, 115, 101]] ++ (H8 ts 2).2 else [])
 | 10 => [wd [119, 104, 105, 108, 101]] ++ (H8 ts 0).2 ++ (H8 ts 1).2
 | 11 => [wd [114, 101, 116, 117, 114, 110]] ++ (if ts.length = 1 then (H8 ts 0).2 else []) ++ [sg [59]]
 | 12 => [wd [112, 114, 105, 110, 116]] ++ (H8 ts 0).2 ++ [sg [59]]
 | 13 => (H8 ts 0).2 ++ [sg [59]]
 | 14 => []
 | 15 | 16 | 17 | 18 | 19 | 20 => c1q i ts
 | 21 | 22 | 23 | 24 | 25 | 26 => [b6e i]
 | 27 => [nmT i.text, sg [40]] ++ Ap ts ++ [sg [41]]
 | 28 => Qn 8 (H8 ts 0) ++ [sg [91]] ++ (H8 ts 1).2 ++ [sg [93]]
 | 29 => Qn 8 (H8 ts 0) ++ [sg [46], nmT i.text]
 | 30 => [sg (opS i.num).1] ++ Qn 7 (H8 ts 0)
 | 31 => Qn (Fh (opS i.num).2) (H8 ts 0) ++ [sg (opS i.num).1] ++ Qn ((opS i.num).2 + 1) (H8 ts 1)
 | 32 => [wd [109, 97, 107, 101]] ++ (H8 ts 0).2 ++ [sg [40]] ++ Ap ts.tail ++ [sg [41]]
 | _ => []
def tkF : Fo -> List TT
 | .nil => []
 | .cons i k r => (i, tkN i (tkF k)) :: tkF r
def Hd (s : List UInt8) : Prop := ∃ c r, s = c :: r ∧ c ≠ 61
theorem Hd.app {s : List UInt8} (h : Hd s) (u : List UInt8) : Hd (s ++ u) := by
 obtain ⟨c, r, rfl, h2⟩ := h;exact ⟨c, r ++ u, rfl, h2⟩
def Sub (s : List UInt8) (T : List Tok) : Prop := Lx true s T ∧ Hd s
theorem Lx.sub {s u : List UInt8} {T U : List Tok} (h : Lx false s T) (k : Sub u U) : Lx true (s ++ u) (T ++ U) := by
 obtain ⟨k1, c, r, rfl, k2⟩ := k;exact h.app k1 (by simp) (fun h => by cases h) (fun x hx => by simp at hx; subst hx; exact k2)
theorem Lx.lit {b d : Bool} {s r : List UInt8} {T U : List Tok} {c : UInt8} (h : Lx b s T) (k : Lx d (c :: r) U) (hc : nam c = false ∧ c ≠ 61) : Lx d (s ++ c :: r) (T ++ U) :=
 h.app k (by simp) (fun _ x hx => by simp at hx; subst hx; exact hc.1) (fun x hx => by simp at hx; subst hx; exact hc.2)
theorem bl (b : Bool) : Lx b [32] [] := Hq (by simp) (b2a b)
theorem b9t : Lx false [32, 61, 32] [sg [61]] := Hq (by simp) ((By (c := 61) (by decide)).lit (bl false) (by decide))
theorem Oj : Lx false [58, 32] [sg [58]] := (By (c := 58) (by decide)).lit (bl false) (by decide)
theorem a9v : Lx false [44, 32] [sg [44]] := (By (c := 44) (by decide)).lit (bl false) (by decide)
theorem Lw : Lx false [59] [sg [59]] := By (by decide)
theorem Xj : Lx false [40] [sg [40]] := By (by decide)
theorem Xi : Lx false [41] [sg [41]] := By (by decide)
theorem De {w : List UInt8} (h : w ∈ Lb) : Lx false (w ++ [32]) [wd w] := by
 have := (Xh h).lit (bl false) (by decide)
 rwa [List.append_nil] at this
theorem b4t : Lx false [32, 101, 108, 115, 101, 32] [wd [101, 108, 115, 101]] := Hq (by simp) (De (w := [101, 108, 115, 101]) (by decide))
theorem b9r (n : Nat) {b : Bool} {s : List UInt8} {T : List Tok} (h : Lx b s T) : Lx b (nl n ++ s) T := by
 have : Lx b (List.replicate n 9 ++ s) T := by
  induction n with
  | zero => simpa using h
  | succ n ih =>
   rw [List.replicate_succ, List.cons_append];exact Hq (by simp) ih
 exact Hq (by simp) this
def Pr (x : Tx) (y : TT) : Prop := x.1 = y.1 ∧ (x.1.kind ≠ 14 -> Sub x.2 y.2)
def PrL : List Tx -> List TT -> Prop
 | [], [] => True
 | x :: l, y :: t => Pr x y ∧ PrL l t
 | _, _ => False
theorem a3s : ∀ {ks : List Tx} {ts : List TT}, PrL ks ts -> ks.length = ts.length
 | [], [], _ => rfl
 | _ :: l, _ :: t, h => by rw [List.length_cons, List.length_cons, a3s h.2]
theorem I6 {x : Tx} {ts : List TT} (h : PrL [x] ts) : ∃ x', ts = [x'] ∧ Pr x x' := by
 match ts, h with
 | [x'], h => exact ⟨x', rfl, h.1⟩
theorem Kb {x y : Tx} {ts : List TT} (h : PrL [x, y] ts) : ∃ x' y', ts = [x', y'] ∧ Pr x x' ∧ Pr y y' := by
 match ts, h with
 | [x', y'], h => exact ⟨x', y', rfl, h.1, h.2.1⟩
theorem a3r {x y z : Tx} {ts : List TT} (h : PrL [x, y, z] ts) : ∃ x' y' z', ts = [x', y', z'] ∧ Pr x x' ∧ Pr y y' ∧ Pr z z' := by
 match ts, h with
 | [x', y', z'], h => exact ⟨x', y', z', rfl, h.1, h.2.1, h.2.2.1⟩
theorem a3t : ∀ {ks ls : List Tx} {ts : List TT}, PrL (ks ++ ls) ts -> ∃ us vs, ts = us ++ vs ∧ PrL ks us ∧ PrL ls vs
 | [], ls, ts, h => ⟨[], ts, rfl, trivial, h⟩
 | x :: l, ls, y :: t, h => by
  obtain ⟨us, vs, rfl, h1, h2⟩ := a3t (ks := l) h.2;exact ⟨y :: us, vs, rfl, ⟨h.1, h1⟩, h2⟩
theorem Pr.brk {x : Tx} {y : TT} (h : Pr x y) (hk : x.1.kind ≠ 14) (m : Nat) : Sub (brk m x) (Qn m y) := by
 have hs := h.2 hk;unfold YtoaplbljflhheaaGreat.brk Qn;rw [<- h.1];split
 ·exact ⟨((Xj.sub hs).lit Xi (by decide)).weak true, 40, _, rfl, by decide⟩
 ·exact hs
def a6x (ks : List Tx) : Prop := ∀ x ∈ ks, x.1.kind ≠ 14
theorem a4p : ∀ {l : List Tx} {t : List TT}, PrL l t -> a6x l -> ∀ {s : List UInt8} {T : List Tok}, Lx true s T -> Lx true (s ++ l.flatMap fun y => [44, 32] ++ y.2) (T ++ t.flatMap fun y => sg [44] :: y.2)
 | [], [], _, _, s, T, h => by simpa using h
 | x :: l, y :: t, hp, hn, s, T, h => by
  have h1 := (h.lit a9v (by decide)).sub (hp.1.2 (hn x (by simp)));have h2 := a4p hp.2 (fun z hz => hn z (by simp [hz])) h1;simp only [List.flatMap_cons];simpa using h2
theorem Ss {ks : List Tx} {ts : List TT} (hp : PrL ks ts) (hn : a6x ks) : Lx false ([40] ++ Fz ks ++ [41]) ([sg [40]] ++ Ap ts ++ [sg [41]]) := by
 match ks, ts, hp with
 | [], [], _ => exact Xj.lit Xi (by decide)
 | x :: l, y :: t, hp =>
  have h1 := Xj.sub (hp.1.2 (hn x (by simp)));have h2 := a4p hp.2 (fun z hz => hn z (by simp [hz])) h1;have h3 := h2.lit Xi (by decide);simp only [Fz, Ap];simpa using h3
theorem a4n (n : Nat) : ∀ {l : List Tx} {t : List TT}, PrL l t -> a6x l -> ∀ {b : Bool} {s : List UInt8} {T : List Tok}, Lx b s T -> Lx true (s ++ l.flatMap fun x => nl n ++ x.2) (T ++ t.flatMap fun y => y.2)
 | [], [], _, _, b, s, T, h => by
  cases b
  ·simpa using h.weak true
  ·simpa using h
 | x :: l, y :: t, hp, hn, b, s, T, h => by
  obtain ⟨k1, c, r, k2, k3⟩ := hp.1.2 (hn x (by simp));have h0 : Lx true (10 :: (List.replicate n 9 ++ x.2)) y.2 := b9r n k1;have h1 := h.lit h0 (by decide);have h2 := a4n n hp.2 (fun z hz => hn z (by simp [hz])) h1;simp only [List.flatMap_cons];simpa [nl] using h2
theorem Y9 (n : Nat) {ks : List Tx} {ts : List TT} (hp : PrL ks ts) (hn : a6x ks) : Lx false (lines n ks) (U7 ts) := by
 have h1 := a4n (n + 1) hp hn (By (c := 123) (by decide));have h0 : Lx false (10 :: (List.replicate n 9 ++ [125])) [sg [125]] := b9r n (By (c := 125) (by decide));have h2 := h1.lit h0 (by decide);unfold lines U7;simpa [nl] using h2
theorem a4o : ∀ {l : List Tx} {t : List TT}, PrL l t -> a6x l -> Lx false (l.flatMap fun x => x.2 ++ [10]) (t.flatMap fun y => y.2)
 | [], [], _, _ => b2a false
 | x :: l, y :: t, hp, hn => by
  have ih := a4o hp.2 (fun z hz => hn z (by simp [hz]));have h0 : Lx false (10 :: (l.flatMap fun x => x.2 ++ [10])) (t.flatMap fun y => y.2) := Hq (by simp) ih;have h1 := (hp.1.2 (hn x (by simp))).1.lit h0 (by decide);simp only [List.flatMap_cons];simpa using h1
theorem jx1 {P : Nat -> Bool} {xs : List Tx} (h : Ak [P] (xs.map fun x => x.1.kind) = true) : ∃ x, xs = [x] ∧ P x.1.kind = true := by
 have hl := Dr h;rw [List.length_map] at hl
 match xs, hl with
 | [x], _ => exact ⟨x, rfl, Cb h (i := 0) (by simp)⟩
theorem jx2 {P Q : Nat -> Bool} {xs : List Tx} (h : Ak [P, Q] (xs.map fun x => x.1.kind) = true) : ∃ x y, xs = [x, y] ∧ P x.1.kind = true ∧ Q y.1.kind = true := by
 have hl := Dr h;rw [List.length_map] at hl
 match xs, hl with
 | [x, y], _ => exact ⟨x, y, rfl, Cb h (i := 0) (by simp), Cb h (i := 1) (by simp)⟩
theorem jx3 {P Q R : Nat -> Bool} {xs : List Tx} (h : Ak [P, Q, R] (xs.map fun x => x.1.kind) = true) : ∃ x y z, xs = [x, y, z] ∧ P x.1.kind = true ∧ Q y.1.kind = true ∧ R z.1.kind = true := by
 have hl := Dr h;rw [List.length_map] at hl
 match xs, hl with
 | [x, y, z], _ => exact ⟨x, y, z, rfl, Cb h (i := 0) (by simp), Cb h (i := 1) (by simp), Cb h (i := 2) (by simp)⟩
theorem e14 {k : Nat} (h : Am k = true) : k ≠ 14 := by rw [Am, decide_eq_true_eq] at h; omega
theorem t14 {k : Nat} (h : Ck k = true) : k ≠ 14 := by rw [Ck, decide_eq_true_eq] at h; omega
theorem c14 {k : Nat} {l : List Nat} (hl : l.contains 14 = false) (h : l.contains k = true) : k ≠ 14 := by
 rintro rfl;rw [hl] at h; cases h
end
section
theorem So {t : List UInt8} (h : Ed t = true) : Hd t := by
 unfold Ed at h;rw [Bool.and_eq_true] at h;obtain ⟨c, s, rfl, h1, h2⟩ := Kq h.1;refine ⟨c, s, rfl, ?_⟩;rintro rfl
 revert h1; decide
theorem b0c {t : List UInt8} (h : Ew t = true) : Hd t := by
 unfold Ew at h;obtain ⟨c, s, rfl, h1, h2⟩ := Kq h;refine ⟨c, s, rfl, ?_⟩;rintro rfl
 revert h1; decide
theorem Ob {t : List UInt8} (h : Ed t = true) : Sub t [nmT t] := ⟨Sr h, So h⟩
theorem Tw {t : List UInt8} (h : Ew t = true) : Sub t [bgT t] := ⟨a9u h, b0c h⟩
theorem Iz {w : List UInt8} (h : w ∈ Lb) (hd : Hd w) : Sub w [wd w] := ⟨Xh h, hd⟩
theorem Du {c : UInt8} {r : List UInt8} (h : c ≠ 61) : Hd (c :: r) := ⟨c, r, rfl, h⟩
theorem b2g (n : Nat) : Hd (Nm.dec n) := by
 cases he : Nm.dec n with
 | nil => exact absurd he (Nm.dec_ne n)
 | cons x y =>
  refine ⟨x, y, rfl, ?_⟩;rintro rfl;have := Ta n 61 (by rw [he]; simp)
  revert this; decide
theorem b8o {n : Int} (h : n ∈ sgE.map (·.1)) : Lx false (opS n).1 [sg (opS n).1] ∧ ∃ c r, (opS n).1 = c :: r := by
 simp only [sgE, List.map_cons, List.map_nil, List.mem_cons, List.not_mem_nil, or_false] at h;rcases h with rfl | rfl | rfl | rfl | rfl | rfl | rfl | rfl | rfl | rfl | rfl | rfl | rfl | rfl | rfl
 ·exact ⟨Kx (c := 124) (d := 124) (by decide), _, _, rfl⟩
 ·exact ⟨Kx (c := 38) (d := 38) (by decide), _, _, rfl⟩
 ·exact ⟨Kx (c := 61) (d := 61) (by decide), _, _, rfl⟩
 ·exact ⟨Kx (c := 33) (d := 61) (by decide), _, _, rfl⟩
 ·exact ⟨By (c := 60) (by decide), _, _, rfl⟩
 ·exact ⟨Kx (c := 60) (d := 61) (by decide), _, _, rfl⟩
 ·exact ⟨By (c := 62) (by decide), _, _, rfl⟩
 ·exact ⟨Kx (c := 62) (d := 61) (by decide), _, _, rfl⟩
 ·exact ⟨By (c := 43) (by decide), _, _, rfl⟩
 ·exact ⟨By (c := 45) (by decide), _, _, rfl⟩
 ·exact ⟨By (c := 42) (by decide), _, _, rfl⟩
 ·exact ⟨By (c := 47) (by decide), _, _, rfl⟩
 ·exact ⟨By (c := 37) (by decide), _, _, rfl⟩
 ·exact ⟨By (c := 45) (by decide), _, _, rfl⟩
 ·exact ⟨By (c := 33) (by decide), _, _, rfl⟩
theorem c18 {n : Int} (h : n ∈ sgE.map (·.1)) : Lx false ([32] ++ (opS n).1 ++ [32]) [sg (opS n).1] := by
 obtain ⟨h1, c, r, h2⟩ := b8o h;rw [List.append_assoc];have := h1.lit (bl false) (by decide);rw [List.append_nil] at this;exact Hq (by simp) this
theorem b8m {n : Int} {k : Nat} (h : Bk k n = true) (hk : k = 30 ∨ k = 31) : n ∈ sgE.map (·.1) := by
 rcases hk with rfl | rfl
 ·simp [Bk] at h;rcases h with e | e <;> rw [e] <;> simp [sgE]
 ·simp [Bk] at h;have : n = 1 ∨ n = 2 ∨ n = 3 ∨ n = 4 ∨ n = 5 ∨ n = 6 ∨ n = 7 ∨ n = 8 ∨ n = 9 ∨ n = 10 ∨ n = 11 ∨ n = 14 ∨ n = 15 := by omega
  rcases this with rfl | rfl | rfl | rfl | rfl | rfl | rfl | rfl | rfl | rfl | rfl | rfl | rfl <;> simp [sgE]
theorem a6t {P : Nat -> Bool} {ks : List Tx} (hP : ∀ k, P k = true -> k ≠ 14) (h : (ks.map fun x => x.1.kind).all P = true) : a6x ks := fun x hx =>
 hP _ (List.all_eq_true.1 h _ (List.mem_map_of_mem (f := fun x : Tx => x.1.kind) hx))
theorem b4s (n : Nat) (i : Inf) (ks : List Tx) (ts : List TT) (hk1 : 2 <= i.kind) (hk2 : i.kind <= 32) (hk14 : i.kind ≠ 14) (ht : Bc i.kind i.text = true) (hn : Bk i.kind i.num = true) (hmx : i.num <= 9223372036854775807) (ha : Hl i.kind i.num (ks.map fun x => x.1.kind) = true) (hp : PrL ks ts) : Sub (Jw n i ks) (tkN i ts) := by
 obtain ⟨kd, ln, cl, num, tx⟩ := i;simp only at hk1 hk2 hk14 ht hn ha hmx;have hk : kd = 2 ∨ kd = 3 ∨ kd = 4 ∨ kd = 5 ∨ kd = 6 ∨ kd = 7 ∨ kd = 8 ∨ kd = 9 ∨ kd = 10 ∨ kd = 11 ∨ kd = 12 ∨ kd = 13 ∨ kd = 15 ∨ kd = 16 ∨ kd = 17 ∨ kd = 18 ∨ kd = 19 ∨ kd = 20 ∨ kd = 21 ∨ kd = 22 ∨ kd = 23 ∨ kd = 24 ∨ kd = 25 ∨ kd = 26 ∨ kd = 27 ∨ kd = 28 ∨ kd = 29 ∨ kd = 30 ∨ kd = 31 ∨ kd = 32 := by omega
 rcases hk with rfl | rfl | rfl | rfl | rfl | rfl | rfl | rfl | rfl | rfl | rfl | rfl | rfl | rfl | rfl | rfl | rfl | rfl | rfl | rfl | rfl | rfl | rfl | rfl | rfl | rfl | rfl | rfl | rfl | rfl
 ·
  have hg : Ew tx = true := ht;have h14 : a6x ks := a6t (P := [3].contains) (fun k => c14 (by decide)) ha;have h1 := (De (w := [114, 101, 99]) (by decide)).sub (Tw hg);have h2 := (h1.lit (Hq (c := 32) (by simp) (Y9 n hp h14)) (by decide)).weak true;refine ⟨?_, Du (c := 114) (by decide)⟩;show Lx true ([114, 101, 99, 32] ++ tx ++ [32] ++ lines n ks) ([wd [114, 101, 99], bgT tx] ++ U7 ts);simpa using h2
 ·
  have hg : Ed tx = true := ht;obtain ⟨x, rfl, hx⟩ := jx1 (P := Ck) ha;obtain ⟨x', rfl, px⟩ := I6 hp;have h1 := ((((Sr hg).lit Oj (by decide)).sub (px.2 (t14 hx))).lit Lw (by decide)).weak true;refine ⟨?_, ((So hg).app _).app _ |>.app _⟩;show Lx true (tx ++ [58, 32] ++ x.2 ++ [59]) ([nmT tx, sg [58]] ++ x'.2 ++ [sg [59]]);simpa using h1
 ·
  have hg : Ed tx = true := ht;have hA : Iu num [5].contains (Ak [Fi, [6].contains]) (ks.map fun x => x.1.kind) = true := ha;rw [Iu, Bool.and_eq_true, Bool.and_eq_true, decide_eq_true_eq] at hA;obtain ⟨h1, h2, h3⟩ := hA;rw [<- List.map_take] at h2;rw [<- List.map_drop] at h3;obtain ⟨r, b, hrb, er, eb⟩ := jx2 h3;have hps : ks = ks.take num.toNat ++ [r, b] := by rw [<- hrb, List.take_append_drop]
  have hlen : (ks.take num.toNat).length = num.toNat := by
   have h4 : (ks.drop num.toNat).length = 2 := by rw [hrb]; rfl
   rw [List.length_drop] at h4;rw [List.length_take]; omega
  obtain ⟨ps, hps2⟩ : ∃ ps, ks.take num.toNat = ps := ⟨_, rfl⟩;rw [hps2] at hps hlen h2;obtain ⟨us, vs, rfl, q1, q2⟩ := a3t (by rw [<- hps]; exact hp);obtain ⟨r', b', rfl, pr, pb⟩ := Kb q2;have hul : us.length = num.toNat := by rw [<- a3s q1, hlen]
  have eb' : b.1.kind ≠ 14 := by
   have : b.1.kind = 6 := by simpa using eb
   omega
  have k1 : kth (ps ++ [r, b]) num.toNat = r := by rw [kth, <- hlen, List.getD_eq_getElem?_getD, List.getElem?_append_right (Nat.le_refl _)]; simp
  have k2 : kth (ps ++ [r, b]) (num.toNat + 1) = b := by rw [kth, <- hlen, List.getD_eq_getElem?_getD, List.getElem?_append_right (by omega)]; simp
  have k3 : H8 (us ++ [r', b']) num.toNat = r' := by rw [H8, <- hul, List.getD_eq_getElem?_getD, List.getElem?_append_right (Nat.le_refl _)]; simp
  have k4 : H8 (us ++ [r', b']) (num.toNat + 1) = b' := by rw [H8, <- hul, List.getD_eq_getElem?_getD, List.getElem?_append_right (by omega)]; simp
  have k5 : (us ++ [r', b']).take num.toNat = us := by rw [<- hul, List.take_left]
  have h14 : a6x ps := a6t (P := [5].contains) (fun k => c14 (by decide)) h2;have g1 := (De (w := [102, 110]) (by decide)).sub (Ob hg);have g2 := g1.lit (Ss q1 h14) (by decide);refine ⟨?_, Du (c := 102) (by decide)⟩
  show Lx true ([102, 110, 32] ++ tx ++ [40] ++ Fz (ks.take num.toNat) ++ [41] ++ (if (kth ks num.toNat).1.kind = 14 then [] else [58, 32] ++ (kth ks num.toNat).2) ++ [32] ++ (kth ks (num.toNat + 1)).2)
   ([wd [102, 110], nmT tx, sg [40]] ++ Ap ((us ++ [r', b']).take num.toNat) ++ [sg [41]] ++ (if (H8 (us ++ [r', b']) num.toNat).1.kind = 14 then [] else [sg [58]] ++ (H8 (us ++ [r', b']) num.toNat).2) ++ (H8 (us ++ [r', b']) (num.toNat + 1)).2)
  rw [hps2, hps, k1, k2, k3, k4, k5, <- pr.1];by_cases hr : r.1.kind = 14
  ·rw [if_pos hr, if_pos hr];have g3 := (g2.lit (bl false) (by decide)).sub (pb.2 eb');simpa using g3
  ·rw [if_neg hr, if_neg hr];have g3 := (((g2.lit Oj (by decide)).sub (pr.2 hr)).lit (bl false) (by decide)).sub (pb.2 eb');simpa using g3
 ·
  have hg : Ed tx = true := ht;obtain ⟨x, rfl, hx⟩ := jx1 (P := Ck) ha;obtain ⟨x', rfl, px⟩ := I6 hp;have h1 := ((Sr hg).lit Oj (by decide)).sub (px.2 (t14 hx));refine ⟨?_, ((So hg).app _).app _⟩;show Lx true (tx ++ [58, 32] ++ x.2) ([nmT tx, sg [58]] ++ x'.2);simpa using h1
 ·
  have h14 : a6x ks := a6t (P := Dt) (fun k h => by rw [Dt, decide_eq_true_eq] at h; omega) ha;exact ⟨(Y9 n hp h14).weak true, Du (c := 123) (by decide)⟩
 ·
  have hg : Ed tx = true := ht;obtain ⟨x, y, rfl, hx, hy⟩ := jx2 (P := Ck) (Q := Am) ha;obtain ⟨x', y', rfl, px, py⟩ := Kb hp;have h1 := (De (w := [118, 97, 114]) (by decide)).sub (Ob hg);have h2 := (h1.lit Oj (by decide)).sub (px.2 (t14 hx));have h3 := ((h2.lit b9t (by decide)).sub (py.2 (e14 hy))).lit Lw (by decide);refine ⟨?_, Du (c := 118) (by decide)⟩;show Lx true ([118, 97, 114, 32] ++ tx ++ [58, 32] ++ x.2 ++ [32, 61, 32] ++ y.2 ++ [59]) ([wd [118, 97, 114], nmT tx, sg [58]] ++ x'.2 ++ [sg [61]] ++ y'.2 ++ [sg [59]]);simpa using h3.weak true
 ·
  obtain ⟨x, y, rfl, hx, hy⟩ := jx2 (P := [26, 28, 29].contains) (Q := Am) ha;obtain ⟨x', y', rfl, px, py⟩ := Kb hp;have sx := px.2 (c14 (by decide) hx);have h3 := ((sx.1.lit b9t (by decide)).sub (py.2 (e14 hy))).lit Lw (by decide);refine ⟨?_, ((sx.2.app _).app _).app _⟩;show Lx true (x.2 ++ [32, 61, 32] ++ y.2 ++ [59]) (x'.2 ++ [sg [61]] ++ y'.2 ++ [sg [59]]);simpa using h3.weak true
 ·
  have hA : (Ak [Am, [6].contains] (ks.map fun x => x.1.kind) || Ak [Am, [6].contains, [6].contains] (ks.map fun x => x.1.kind)) = true := ha;rw [Bool.or_eq_true] at hA;rcases hA with hA | hA
  ·obtain ⟨x, y, rfl, hx, hy⟩ := jx2 hA;obtain ⟨x', y', rfl, px, py⟩ := Kb hp;have h1 := (De (w := [105, 102]) (by decide)).sub (px.2 (e14 hx));have h2 := (h1.lit (bl false) (by decide)).sub (py.2 (c14 (by decide) hy));refine ⟨?_, Du (c := 105) (by decide)⟩;show Lx true ([105, 102, 32] ++ x.2 ++ [32] ++ y.2 ++ []) ([wd [105, 102]] ++ x'.2 ++ y'.2 ++ []);simpa using h2
  ·obtain ⟨x, y, z, rfl, hx, hy, hz⟩ := jx3 hA;obtain ⟨x', y', z', rfl, px, py, pz⟩ := a3r hp;have h1 := (De (w := [105, 102]) (by decide)).sub (px.2 (e14 hx));have h2 := (h1.lit (bl false) (by decide)).sub (py.2 (c14 (by decide) hy));have h3 := (h2.lit b4t (by decide)).sub (pz.2 (c14 (by decide) hz));refine ⟨?_, Du (c := 105) (by decide)⟩;show Lx true ([105, 102, 32] ++ x.2 ++ [32] ++ y.2 ++ ([32, 101, 108, 115, 101, 32] ++ z.2)) ([wd [105, 102]] ++ x'.2 ++ y'.2 ++ ([wd [101, 108, 115, 101]] ++ z'.2));simpa using h3
 ·
  obtain ⟨x, y, rfl, hx, hy⟩ := jx2 (P := Am) (Q := [6].contains) ha;obtain ⟨x', y', rfl, px, py⟩ := Kb hp;have h1 := (De (w := [119, 104, 105, 108, 101]) (by decide)).sub (px.2 (e14 hx));have h2 := (h1.lit (bl false) (by decide)).sub (py.2 (c14 (by decide) hy));refine ⟨?_, Du (c := 119) (by decide)⟩;show Lx true ([119, 104, 105, 108, 101, 32] ++ x.2 ++ [32] ++ y.2) ([wd [119, 104, 105, 108, 101]] ++ x'.2 ++ y'.2);simpa using h2
 ·
  have hA : (Ak [] (ks.map fun x => x.1.kind) || Ak [Am] (ks.map fun x => x.1.kind)) = true := ha;rw [Bool.or_eq_true] at hA;rcases hA with hA | hA
  ·have hl := Dr hA;rw [List.length_map] at hl;obtain rfl := List.eq_nil_of_length_eq_zero hl
   match ts, hp with
   | [], _ =>
    have h1 := ((Xh (w := [114, 101, 116, 117, 114, 110]) (by decide)).lit Lw (by decide)).weak true;exact ⟨h1, Du (c := 114) (by decide)⟩
  ·obtain ⟨x, rfl, hx⟩ := jx1 hA;obtain ⟨x', rfl, px⟩ := I6 hp;have h1 := ((De (w := [114, 101, 116, 117, 114, 110]) (by decide)).sub (px.2 (e14 hx))).lit Lw (by decide);refine ⟨?_, Du (c := 114) (by decide)⟩;show Lx true ([114, 101, 116, 117, 114, 110] ++ ([32] ++ x.2) ++ [59]) ([wd [114, 101, 116, 117, 114, 110]] ++ x'.2 ++ [sg [59]]);simpa using h1.weak true
 ·
  obtain ⟨x, rfl, hx⟩ := jx1 (P := Am) ha;obtain ⟨x', rfl, px⟩ := I6 hp;have h1 := ((De (w := [112, 114, 105, 110, 116]) (by decide)).sub (px.2 (e14 hx))).lit Lw (by decide);refine ⟨?_, Du (c := 112) (by decide)⟩;show Lx true ([112, 114, 105, 110, 116, 32] ++ x.2 ++ [59]) ([wd [112, 114, 105, 110, 116]] ++ x'.2 ++ [sg [59]]);simpa using h1.weak true
 ·
  obtain ⟨x, rfl, hx⟩ := jx1 (P := [27].contains) ha;obtain ⟨x', rfl, px⟩ := I6 hp;have sx := px.2 (c14 (by decide) hx);have h1 := sx.1.lit Lw (by decide);exact ⟨h1.weak true, sx.2.app _⟩
 ·exact Iz (w := [105, 110, 116]) (by decide) (Du (c := 105) (by decide))
 ·exact Iz (w := [98, 111, 111, 108]) (by decide) (Du (c := 98) (by decide))
 ·exact Iz (w := [115, 116, 114]) (by decide) (Du (c := 115) (by decide))
 ·exact Iz (w := [99, 111, 109, 112]) (by decide) (Du (c := 99) (by decide))
 ·exact Tw ht
 ·
  obtain ⟨x, rfl, hx⟩ := jx1 (P := Ck) ha;obtain ⟨x', rfl, px⟩ := I6 hp;have h1 := ((By (c := 91) (by decide)).sub (px.2 (t14 hx))).lit (By (c := 93) (by decide)) (by decide);exact ⟨h1.weak true, Du (c := 91) (by decide)⟩
 ·
  have h0 : 0 <= num := by simpa [Bk] using hn
  have := b9u num.toNat (by omega);rw [show ((num.toNat : Nat) : Int) = num by omega] at this;exact ⟨this, b2g _⟩
 ·
  have h0 : 0 <= num ∧ num < 8388608 := by simpa [Bk] using hn
  have := b4u num.toNat (by omega);rw [show ((num.toNat : Nat) : Int) = num by omega] at this;exact ⟨this, (b2g _).app _⟩
 ·exact ⟨(b9s tx).weak true, Du (c := 34) (by decide)⟩
 ·
  have h01 : num = 0 ∨ num = 1 := by simpa [Bk] using hn
  rcases h01 with rfl | rfl
  ·exact Iz (w := [102, 97, 108, 115, 101]) (by decide) (Du (c := 102) (by decide))
  ·exact Iz (w := [116, 114, 117, 101]) (by decide) (Du (c := 116) (by decide))
 ·exact Iz (w := [110, 105, 108]) (by decide) (Du (c := 110) (by decide))
 ·exact Ob ht
 ·
  have hg : Ed tx = true := ht;have h14 : a6x ks := a6t (P := Am) (fun k => e14) ha;have h1 := (Sr hg).lit (Ss hp h14) (by decide);refine ⟨?_, ((So hg).app _).app _ |>.app _⟩;show Lx true (tx ++ [40] ++ Fz ks ++ [41]) ([nmT tx, sg [40]] ++ Ap ts ++ [sg [41]]);simpa using h1.weak true
 ·
  obtain ⟨x, y, rfl, hx, hy⟩ := jx2 (P := Am) (Q := Am) ha;obtain ⟨x', y', rfl, px, py⟩ := Kb hp;have sx := px.brk (e14 hx) 8;have h1 := ((sx.1.lit (By (c := 91) (by decide)) (by decide)).sub (py.2 (e14 hy))).lit (By (c := 93) (by decide)) (by decide);exact ⟨h1.weak true, ((sx.2.app _).app _).app _⟩
 ·
  have hg : Ed tx = true := ht;obtain ⟨x, rfl, hx⟩ := jx1 (P := Am) ha;obtain ⟨x', rfl, px⟩ := I6 hp;have sx := px.brk (e14 hx) 8;have h1 := (sx.1.lit (By (c := 46) (by decide)) (by decide)).sub (Ob hg);refine ⟨?_, (sx.2.app _).app _⟩;show Lx true (brk 8 x ++ [46] ++ tx) (Qn 8 x' ++ [sg [46], nmT tx]);simpa using h1
 ·
  obtain ⟨x, rfl, hx⟩ := jx1 (P := Am) ha;obtain ⟨x', rfl, px⟩ := I6 hp;obtain ⟨h1, c, r, h2⟩ := b8o (b8m hn (.inl rfl));have h3 := h1.sub (px.brk (e14 hx) 7);refine ⟨h3, Hd.app ?_ _⟩;have h12 : num = 12 ∨ num = 13 := by simpa [Bk] using hn
  rcases h12 with rfl | rfl
  ·exact Du (c := 45) (by decide)
  ·exact Du (c := 33) (by decide)
 ·
  obtain ⟨x, y, rfl, hx, hy⟩ := jx2 (P := Am) (Q := Am) ha;obtain ⟨x', y', rfl, px, py⟩ := Kb hp;have sx := px.brk (e14 hx) (Fh (opS num).2);have sy := py.brk (e14 hy) ((opS num).2 + 1);have h0 : Lx false (32 :: ((opS num).1 ++ [32])) [sg (opS num).1] := c18 (b8m hn (.inr rfl));have h1 := (sx.1.lit h0 (by decide)).sub sy;refine ⟨?_, (((sx.2.app _).app _).app _).app _⟩;show Lx true (brk (Fh (opS num).2) x ++ [32] ++ (opS num).1 ++ [32] ++ brk ((opS num).2 + 1) y) (Qn (Fh (opS num).2) x' ++ [sg (opS num).1] ++ Qn ((opS num).2 + 1) y');simpa using h1
 ·
  have hA : (Ak [[19].contains] (ks.map fun x => x.1.kind) || Ak [[20].contains, Am] (ks.map fun x => x.1.kind)) = true := ha;have hw := De (w := [109, 97, 107, 101]) (by decide);rw [Bool.or_eq_true] at hA;rcases hA with hA | hA
  ·obtain ⟨x, rfl, hx⟩ := jx1 hA;obtain ⟨x', rfl, px⟩ := I6 hp;have h1 := (hw.sub (px.2 (c14 (by decide) hx))).lit (Ss (ks := []) (ts := []) trivial (fun z hz => by cases hz)) (by decide);refine ⟨?_, Du (c := 109) (by decide)⟩;show Lx true ([109, 97, 107, 101, 32] ++ x.2 ++ [40] ++ Fz [] ++ [41]) ([wd [109, 97, 107, 101]] ++ x'.2 ++ [sg [40]] ++ Ap [] ++ [sg [41]]);simpa using h1.weak true
  ·obtain ⟨x, y, rfl, hx, hy⟩ := jx2 hA;obtain ⟨x', y', rfl, px, py⟩ := Kb hp;have h1 := (hw.sub (px.2 (c14 (by decide) hx))).lit (Ss (ks := [y]) (ts := [y']) ⟨py, trivial⟩ (fun z hz => by simp at hz; subst hz; exact e14 hy)) (by decide);refine ⟨?_, Du (c := 109) (by decide)⟩;show Lx true ([109, 97, 107, 101, 32] ++ x.2 ++ [40] ++ Fz [y] ++ [41]) ([wd [109, 97, 107, 101]] ++ x'.2 ++ [sg [40]] ++ Ap [y'] ++ [sg [41]]);simpa using h1.weak true
theorem O9 (n : Nat) (F : Fo) : (F9 n F).map (fun x => x.1.kind) = Aq F := by
 induction F with
 | nil => rfl
 | cons i k r _ ihr => simp [F9, Aq, ihr]
theorem a4q {F : Fo} : ∀ n, A0 F = true -> Nu F -> (∀ x ∈ Dh F, 2 <= x.1.kind ∧ x.1.kind <= 32) -> PrL (F9 n F) (tkF F) := by
 induction F with
 | nil => intro n _ _ _; trivial
 | cons i k r ihk ihr =>
  intro n h hn hk;rw [A0, Bool.and_eq_true, Bool.and_eq_true] at h;have hg := h.1.1;unfold Eo at hg;rw [Bool.and_eq_true, Bool.and_eq_true] at hg;have h1 := ihk (E9 n i) h.1.2 (fun x hx => hn x (by simp [Dh, hx])) (fun x hx => hk x (by simp [Dh, hx]));have h2 := ihr n h.2 (fun x hx => hn x (by simp [Dh, hx])) (fun x hx => hk x (by simp [Dh, hx]));have hki := hk (i, k) (by simp [Dh]);exact ⟨⟨rfl, fun h14 => b4s n i _ _ hki.1 hki.2 h14 hg.1.1 hg.1.2 (hn (i, k) (by simp [Dh])) (by rw [O9]; exact hg.2) h1⟩, h2⟩
end
section
def CG (o X : Out) (b : Prop) : Prop := (b ∧ o = X) ∨ (¬ b ∧ ∃ l k, o = .bad 6 l k)
theorem CG.bind {o X : Out} {F : Fo} {r : List Tok} {b c : Prop} {f : Fo -> List Tok -> Out} (h : CG o (.ok F r) b) (k : CG (f F r) X c) : CG (o.bind f) X (b ∧ c) := by
 rcases h with ⟨hb, rfl⟩ | ⟨hb, l, m, rfl⟩
 ·rcases k with ⟨hc, e⟩ | ⟨hc, l, m, e⟩
  ·exact .inl ⟨⟨hb, hc⟩, e⟩
  ·exact .inr ⟨fun h => hc h.2, l, m, e⟩
 ·exact .inr ⟨fun h => hb h.1, l, m, rfl⟩
theorem CG.imp {o X : Out} {b c : Prop} (h : CG o X b) (e : b ↔ c) : CG o X c := by rw [<- e]; exact h
theorem CG.ok {X : Out} {b : Prop} (h : b) : CG X X b := .inl ⟨h, rfl⟩
theorem CG.to {o X Y : Out} {b : Prop} (h : CG o X b) (e : X = Y) : CG o Y b := e ▸ h
def dpB (m : Nat) (x : Inf × Nat) : Nat := if lvl x.1 < m then x.2 + 1 else x.2
def Ly (ds : List (Inf × Nat)) (j : Nat) : Inf × Nat := ds.getD j (c1f, 0)
def Jx : List (Inf × Nat) -> Nat
 | [] => 0
 | x :: l => max x.2 (Jx l)
def dpN (i : Inf) (ds : List (Inf × Nat)) : Nat := match i.kind with
 | 1 => Jx ds
 | 2 => 1 + Jx ds
 | 3 => (Ly ds 0).2
 | 4 => max (1 + Jx (ds.take i.num.toNat)) (max (Ly ds i.num.toNat).2 (Ly ds (i.num.toNat + 1)).2)
 | 5 => (Ly ds 0).2
 | 6 => 1 + Jx ds
 | 7 => max (Ly ds 0).2 (Ly ds 1).2
 | 8 => max (Ly ds 0).2 (Ly ds 1).2
 | 9 => max (Ly ds 0).2 (max (Ly ds 1).2 (Ly ds 2).2)
 | 10 => max (Ly ds 0).2 (Ly ds 1).2
 | 11 => (Ly ds 0).2
 | 12 => (Ly ds 0).2
 | 13 => (Ly ds 0).2
 | 20 => 1 + (Ly ds 0).2
 | 27 => 1 + Jx ds
 | 28 => max (dpB 8 (Ly ds 0)) (1 + (Ly ds 1).2)
 | 29 => dpB 8 (Ly ds 0)
 | 30 => 1 + dpB 7 (Ly ds 0)
 | 31 => max (dpB (Fh (opS i.num).2) (Ly ds 0)) (dpB ((opS i.num).2 + 1) (Ly ds 1))
 | 32 => max (Ly ds 0).2 (1 + (Ly ds 1).2)
 | _ => 0
def dpF : Fo -> List (Inf × Nat)
 | .nil => []
 | .cons i k r => (i, dpN i (dpF k)) :: dpF r
theorem fx1 {P : Nat -> Bool} {k : Fo} (h : Ak [P] (Aq k) = true) : ∃ i1 k1, k = .cons i1 k1 .nil ∧ P i1.kind = true := by
 have hl := Dr h
 match k, h, hl with
 | .cons i1 k1 .nil, h, _ => exact ⟨i1, k1, rfl, Cb h (i := 0) (by simp)⟩
theorem fx2 {P Q : Nat -> Bool} {k : Fo} (h : Ak [P, Q] (Aq k) = true) : ∃ i1 k1 i2 k2, k = .cons i1 k1 (.cons i2 k2 .nil) ∧ P i1.kind = true ∧ Q i2.kind = true := by
 have hl := Dr h
 match k, h, hl with
 | .cons i1 k1 (.cons i2 k2 .nil), h, _ => exact ⟨i1, k1, i2, k2, rfl, Cb h (i := 0) (by simp), Cb h (i := 1) (by simp)⟩
theorem fx3 {P Q R : Nat -> Bool} {k : Fo} (h : Ak [P, Q, R] (Aq k) = true) : ∃ i1 k1 i2 k2 i3 k3, k = .cons i1 k1 (.cons i2 k2 (.cons i3 k3 .nil)) ∧ P i1.kind = true ∧ Q i2.kind = true ∧ R i3.kind = true := by
 have hl := Dr h
 match k, h, hl with
 | .cons i1 k1 (.cons i2 k2 (.cons i3 k3 .nil)), h, _ => exact ⟨i1, k1, i2, k2, i3, k3, rfl, Cb h (i := 0) (by simp), Cb h (i := 1) (by simp), Cb h (i := 2) (by simp)⟩
theorem fx0 {k : Fo} (h : Ak [] (Aq k) = true) : k = .nil := by
 have hl := Dr h
 match k, hl with
 | .nil, _ => rfl
abbrev TK (i : Inf) (k : Fo) : List Tok := tkN i (tkF k)
abbrev BT (L : Nat) (i : Inf) (k : Fo) : List Tok := Qn L (i, TK i k)
abbrev DP (i : Inf) (k : Fo) : Nat := dpN i (dpF k)
abbrev BD (L : Nat) (i : Inf) (k : Fo) : Nat := dpB L (i, DP i k)
abbrev BE (i : Inf) (k : Fo) : Fo := .cons (Gj i) (Ax k) .nil
theorem A9 (x y : List UInt8) (r : List Tok) : sees x (sg y :: r) = decide (y = x) := by simp [sees, Lr, hd]
theorem Sa (x y : List UInt8) (r : List Tok) : sees x (wd y :: r) = decide (y = x) := by simp [sees, Lr, hd]
theorem I2 {x : List UInt8} {t : Tok} {r : List Tok} (h : t.kind ≠ 6 ∧ t.kind ≠ 7) : sees x (t :: r) = false := by
 have h1 := h.1;have h2 := h.2;simp [sees, Lr, hd, h1, h2]
theorem b3f (x : List UInt8) (d : Nat) (F : Fo) (r : List Tok) : ((take x d (sg x :: r)).bind fun G r' => .ok (F.app G) r') = .ok F r := by
 unfold take Jv;rw [A9, decide_eq_true rfl, if_pos rfl];show Out.ok (F.app .nil) r = _;rw [Nl]
theorem P8 {p : Pt} {d : Nat} {t : Tok} {T : List Tok} {X : Out} {D : Nat} (hd : d <= 40) (h : d < 40 -> CG (p (d + 1) T) X (d + 1 + D <= 40)) : CG (C9 p d (t :: T)) X (d + 1 + D <= 40) := by
 unfold C9;by_cases h40 : d = 40
 ·rw [if_pos h40];exact .inr ⟨by omega, _, _, rfl⟩
 ·rw [if_neg h40];exact h (by omega)
theorem G7 {o c : List UInt8} {p : Pt} {d : Nat} {T r : List Tok} {F : Fo} {D : Nat} (hd : d <= 40) (h : d < 40 -> CG (p (d + 1) (T ++ sg c :: r)) (.ok F (sg c :: r)) (d + 1 + D <= 40)) : CG (Az o c p d (sg o :: (T ++ sg c :: r))) (.ok F r) (d + 1 + D <= 40) := by
 unfold Az;rw [A9, decide_eq_true rfl, if_pos rfl];unfold Fd
 have h1 : CG ((take c d (sg c :: r)).bind fun G r' => .ok (F.app G) r') (.ok F r) True := by
  rw [b3f]; exact CG.ok trivial
 exact ((P8 hd h).bind h1).imp (by simp)
theorem Bv {i : Inf} {k : Fo} (h : Eo i k = true) : Bc i.kind i.text = true ∧ Bk i.kind i.num = true ∧ Hl i.kind i.num (Aq k) = true := by
 unfold Eo at h;rw [Bool.and_eq_true, Bool.and_eq_true] at h;exact ⟨h.1.1, h.1.2, h.2⟩
theorem b2c : ∀ s i k, k.cnt < s -> Eo i k = true -> A0 k = true -> 15 <= i.kind -> i.kind <= 20 -> ∀ n d r, (TK i k).length < n -> d <= 40 -> CG (Eb n d (TK i k ++ r)) (.ok (BE i k) r) (d + DP i k <= 40) := by
 intro s
 induction s with
 | zero => intro i k h; omega
 | succ s ih =>
  intro i k hs hg hG k1 k2 n d r hn hd;obtain ⟨ht, hm, ha⟩ := Bv hg;obtain ⟨n, rfl⟩ : ∃ m, n = m + 1 := ⟨n - 1, by omega⟩;obtain ⟨kd, ln, cl, num, tx⟩ := i;simp only at ht hm ha k1 k2;have hk : kd = 15 ∨ kd = 16 ∨ kd = 17 ∨ kd = 18 ∨ kd = 19 ∨ kd = 20 := by omega
  rcases hk with rfl | rfl | rfl | rfl | rfl | rfl
  ·obtain rfl := fx0 (show Ak [] (Aq k) = true from ha);obtain rfl : tx = [] := by simpa [Bc] using ht
   obtain rfl : num = 0 := by simpa [Bk] using hm
   exact .inl ⟨by show d + 0 <= 40; omega, rfl⟩
  ·obtain rfl := fx0 (show Ak [] (Aq k) = true from ha);obtain rfl : tx = [] := by simpa [Bc] using ht
   obtain rfl : num = 0 := by simpa [Bk] using hm
   exact .inl ⟨by show d + 0 <= 40; omega, rfl⟩
  ·obtain rfl := fx0 (show Ak [] (Aq k) = true from ha);obtain rfl : tx = [] := by simpa [Bc] using ht
   obtain rfl : num = 0 := by simpa [Bk] using hm
   exact .inl ⟨by show d + 0 <= 40; omega, rfl⟩
  ·obtain rfl := fx0 (show Ak [] (Aq k) = true from ha);obtain rfl : tx = [] := by simpa [Bc] using ht
   obtain rfl : num = 0 := by simpa [Bk] using hm
   exact .inl ⟨by show d + 0 <= 40; omega, rfl⟩
  ·obtain rfl := fx0 (show Ak [] (Aq k) = true from ha);obtain rfl : num = 0 := by simpa [Bk] using hm
   refine .inl ⟨by show d + 0 <= 40; omega, ?_⟩;show Hp [91] (Bq (Eb n)) Ba d (bgT tx :: r) = _;unfold Hp;rw [I2 ⟨by show (2 : Nat) ≠ 6; decide, by show (2 : Nat) ≠ 7; decide⟩, if_neg (by simp)];rfl
  ·obtain ⟨i1, k1', rfl, hx⟩ := fx1 (P := Ck) ha;obtain rfl : tx = [] := by simpa [Bc] using ht
   obtain rfl : num = 0 := by simpa [Bk] using hm
   rw [Ck, decide_eq_true_eq] at hx;rw [A0, Bool.and_eq_true, Bool.and_eq_true] at hG
   have e : TK ⟨20, ln, cl, 0, []⟩ (.cons i1 k1' .nil) ++ r = sg [91] :: (TK i1 k1' ++ sg [93] :: r) := by
    show [sg [91]] ++ TK i1 k1' ++ [sg [93]] ++ r = _;simp
   have hl : (TK ⟨20, ln, cl, 0, []⟩ (.cons i1 k1' .nil)).length = (TK i1 k1').length + 2 := by
    show ([sg [91]] ++ TK i1 k1' ++ [sg [93]]).length = _;simp
   rw [hl] at hn;rw [e];have hw := G7 (o := [91]) (c := [93]) (p := Eb n) (d := d) (T := TK i1 k1') (r := r) (F := BE i1 k1') (D := DP i1 k1') hd (fun hlt => ih i1 k1' (by simp [Fo.cnt] at hs; omega) hG.1.1 hG.1.2 hx.1 hx.2 n (d + 1) _ (by omega) (by omega));show CG (Hp [91] (Bq (Eb n)) Ba d _) _ _;unfold Hp;rw [A9, decide_eq_true rfl, if_pos rfl];unfold Bq B7;refine ((hw.bind (X := .ok (BE ⟨20, ln, cl, 0, []⟩ (.cons i1 k1' .nil)) r) (c := True) (CG.ok trivial))).imp ?_;show d + 1 + DP i1 k1' <= 40 ∧ True ↔ d + (1 + DP i1 k1') <= 40;rw [and_true];omega
end
section
def Sg (L : Nat) : List (List UInt8) := match L with
 | 1 => [[124, 124]]
 | 2 => [[38, 38]]
 | 3 => [[61, 61], [33, 61]]
 | 4 => [[60], [60, 61], [62], [62, 61]]
 | 5 => [[43], [45]]
 | 6 => [[42], [47], [37]]
 | _ => []
def PL (n L : Nat) : Pt := match L with
 | 1 => orP (unP n) n
 | 2 => c2x (unP n) n
 | 3 => a5r (unP n) n
 | 4 => b4x (unP n) n
 | 5 => c1u (unP n) n
 | 6 => b3e (unP n) n
 | 7 => unP n
 | _ => I7 (Bu (n - 1)) n
def Stp (L : Nat) (r : List Tok) : Prop := ∀ l, L <= l -> l <= 6 -> anyS (Sg l) r = false
def Po (r : List Tok) : Prop := sees [91] r = false ∧ sees [46] r = false ∧ sees [40] r = false
theorem Stp.mono {L L' : Nat} {r : List Tok} (h : Stp L r) (hl : L <= L') : Stp L' r := fun l h1 h2 => h l (by omega) h2
theorem Zw (S : List (List UInt8)) (x : List UInt8) (r : List Tok) : anyS S (sg x :: r) = decide (x ∈ S) := by
 unfold anyS;rw [Bool.eq_iff_iff];simp [A9]
theorem J3 {x : List UInt8} (h : (List.range 7).all (fun l => decide (x ∉ Sg l)) = true) (r : List Tok) (L : Nat) : Stp L (sg x :: r) := fun l _ h2 => by
 rw [Zw, decide_eq_false_iff_not];have := List.all_eq_true.1 h l (List.mem_range.2 (by omega));simpa using this
theorem Qs {x : List UInt8} (h : x ≠ [91] ∧ x ≠ [46] ∧ x ≠ [40]) (r : List Tok) : Po (sg x :: r) := by
 refine ⟨?_, ?_, ?_⟩ <;> rw [A9, decide_eq_false_iff_not]
 ·exact h.1
 ·exact h.2.1
 ·exact h.2.2
theorem a82 {n : Int} (h : Bk 31 n = true) : 1 <= (opS n).2 ∧ (opS n).2 <= 6 ∧ (opS n).1 ∈ Sg (opS n).2 ∧ Lf (opS n).1 = n ∧ ((opS n).1 ≠ [91] ∧ (opS n).1 ≠ [46] ∧ (opS n).1 ≠ [40]) ∧ ∀ r, Stp ((opS n).2 + 1) (sg (opS n).1 :: r) := by
 simp [Bk] at h;have : n = 1 ∨ n = 2 ∨ n = 3 ∨ n = 4 ∨ n = 5 ∨ n = 6 ∨ n = 7 ∨ n = 8 ∨ n = 9 ∨ n = 10 ∨ n = 11 ∨ n = 14 ∨ n = 15 := by omega
 have K : ∀ (x : List UInt8) (L : Nat), (List.range 7).all (fun l => decide (l <= L) || decide (x ∉ Sg l)) = true -> ∀ r, Stp (L + 1) (sg x :: r) := fun x L hh r l h1 h2 => by
  rw [Zw, decide_eq_false_iff_not];have := List.all_eq_true.1 hh l (List.mem_range.2 (by omega));rw [Bool.or_eq_true, decide_eq_true_eq, decide_eq_true_eq] at this;rcases this with h | h
  ·omega
  ·exact h
 rcases this with rfl | rfl | rfl | rfl | rfl | rfl | rfl | rfl | rfl | rfl | rfl | rfl | rfl <;> exact ⟨by decide, by decide, by decide, by decide, by decide, K _ _ (by decide)⟩
theorem Qc {p : Pt} {S : List (List UInt8)} {n d : Nat} {F : Fo} {r : List Tok} (hn : 1 <= n) (h : anyS S r = false) : C4 p S n F d r = .ok F r := by
 obtain ⟨m, rfl⟩ : ∃ m, n = m + 1 := ⟨n - 1, by omega⟩;unfold C4;rw [h]; rfl
theorem c2o {n L d : Nat} {ts r : List Tok} {F : Fo} {b : Prop} (hn : 1 <= n) (h1 : 1 <= L) (h6 : L <= 6) (h : CG (PL n (L + 1) d ts) (.ok F r) b) (hs : anyS (Sg L) r = false) : CG (PL n L d ts) (.ok F r) b := by
 have hc : L = 1 ∨ L = 2 ∨ L = 3 ∨ L = 4 ∨ L = 5 ∨ L = 6 := by omega
 have K : ∀ p, CG (p d ts) (.ok F r) b -> CG (Dc p (Sg L) n d ts) (.ok F r) b := fun p hp => by
  unfold Dc;exact (hp.bind (X := .ok F r) (c := True) (by rw [Qc hn hs]; exact CG.ok trivial)).imp (by simp)
 have K2 : ∀ p, CG (p d ts) (.ok F r) b -> CG (Ld p (Sg L) d ts) (.ok F r) b := fun p hp => by
  unfold Ld;exact (hp.bind (X := .ok F r) (c := True) (by rw [hs]; exact CG.ok trivial)).imp (by simp)
 rcases hc with rfl | rfl | rfl | rfl | rfl | rfl
 ·exact K _ h
 ·exact K _ h
 ·exact K2 _ h
 ·exact K2 _ h
 ·exact K _ h
 ·exact K _ h
theorem b03 {n d : Nat} {ts r : List Tok} {F : Fo} {b : Prop} (hn : 1 <= n) (j : Nat) : ∀ {L a : Nat}, a = L + j -> 1 <= L -> a <= 7 -> CG (PL n a d ts) (.ok F r) b -> Stp L r -> CG (PL n L d ts) (.ok F r) b := by
 induction j with
 | zero => intro L a ha _ _ h _; rw [ha] at h; exact h
 | succ j ih =>
  intro L a ha h1 h7 h hs;exact c2o hn h1 (by omega) (ih (L := L + 1) (by omega) (by omega) h7 h (hs.mono (by omega))) (hs L (Nat.le_refl _) (by omega))
theorem c0n {n d : Nat} {ts r : List Tok} {F : Fo} {b : Prop} (hn : 1 <= n) (h : CG (PL n 8 d ts) (.ok F r) b) (h1 : sees [45] ts = false) (h2 : sees [33] ts = false) : CG (PL n 7 d ts) (.ok F r) b := by
 obtain ⟨m, rfl⟩ : ∃ m, n = m + 1 := ⟨n - 1, by omega⟩;show CG (unP (m + 1) d ts) _ _;rw [Yd];unfold Dm;rw [h1, h2];exact h
theorem Ri {E : Pt} {n d : Nat} {F : Fo} {r : List Tok} (hn : 1 <= n) (h : Po r) : Dl E n F d r = .ok F r := by
 obtain ⟨m, rfl⟩ : ∃ m, n = m + 1 := ⟨n - 1, by omega⟩;unfold Dl;rw [h.1, h.2.1];rfl
structure Cl (i : Inf) (k : Fo) : Prop where
 A : ∀ L n d r, 1 <= L -> L <= 8 -> (BT L i k).length < n -> d <= 40 -> Stp L r -> Po r -> CG (PL n L d (BT L i k ++ r)) (.ok (BE i k) r) (d + BD L i k <= 40)
 B : ∀ L n d r, L = 1 ∨ L = 2 ∨ L = 5 ∨ L = 6 -> (BT L i k).length < n -> d <= 40 -> Stp (L + 1) r -> Po r -> ∃ n1, n <= n1 + (BT L i k).length ∧ CG (Dc (PL n (L + 1)) (Sg L) n d (BT L i k ++ r)) (C4 (PL n (L + 1)) (Sg L) n1 (BE i k) d r) (d + BD L i k <= 40)
 C : ∀ n d r, (BT 8 i k).length < n -> d <= 40 -> sees [40] r = false -> ∃ n1, n <= n1 + (BT 8 i k).length ∧ CG (I7 (Bu (n - 1)) n d (BT 8 i k ++ r)) (Dl (Bu (n - 1)) n1 (BE i k) d r) (d + BD 8 i k <= 40)
 H : 7 < lvl i -> ∀ r, sees [45] (TK i k ++ r) = false ∧ sees [33] (TK i k ++ r) = false
theorem Ln {L : Nat} {i : Inf} {k : Fo} (h : lvl i < L) : BT L i k = sg [40] :: (TK i k ++ [sg [41]]) := by
 show Qn L (i, TK i k) = _;unfold Qn; rw [if_pos h]
theorem Gh {L : Nat} {i : Inf} {k : Fo} (h : ¬ lvl i < L) : BT L i k = TK i k := by
 show Qn L (i, TK i k) = _;unfold Qn; rw [if_neg h]
theorem N2 {L : Nat} {i : Inf} {k : Fo} (h : lvl i < L) : BD L i k = DP i k + 1 := by
 show dpB L (i, DP i k) = _;unfold dpB; rw [if_pos h]
theorem Hk {L : Nat} {i : Inf} {k : Fo} (h : ¬ lvl i < L) : BD L i k = DP i k := by
 show dpB L (i, DP i k) = _;unfold dpB; rw [if_neg h]
theorem Td {i : Inf} {k : Fo} (hl : 1 <= lvl i ∧ lvl i <= 8)
  (own : ∀ L n d r, 1 <= L -> L <= lvl i -> (TK i k).length < n -> d <= 40 -> Stp L r -> Po r -> CG (PL n L d (TK i k ++ r)) (.ok (BE i k) r) (d + DP i k <= 40))
  (chn : ∀ n d r, lvl i = 1 ∨ lvl i = 2 ∨ lvl i = 5 ∨ lvl i = 6 -> (TK i k).length < n -> d <= 40 -> Stp (lvl i + 1) r -> Po r -> ∃ n1, n <= n1 + (TK i k).length ∧ CG (Dc (PL n (lvl i + 1)) (Sg (lvl i)) n d (TK i k ++ r)) (C4 (PL n (lvl i + 1)) (Sg (lvl i)) n1 (BE i k) d r) (d + DP i k <= 40))
  (pst : lvl i = 8 -> ∀ n d r, (TK i k).length < n -> d <= 40 -> sees [40] r = false -> ∃ n1, n <= n1 + (TK i k).length ∧ CG (I7 (Bu (n - 1)) n d (TK i k ++ r)) (Dl (Bu (n - 1)) n1 (BE i k) d r) (d + DP i k <= 40))
  (hh : 7 < lvl i -> ∀ r, sees [45] (TK i k ++ r) = false ∧ sees [33] (TK i k ++ r) = false) : Cl i k := by
 have hC : ∀ n d r, (BT 8 i k).length < n -> d <= 40 -> sees [40] r = false -> ∃ n1, n <= n1 + (BT 8 i k).length ∧ CG (I7 (Bu (n - 1)) n d (BT 8 i k ++ r)) (Dl (Bu (n - 1)) n1 (BE i k) d r) (d + BD 8 i k <= 40) := by
  intro n d r hn hd hr;by_cases h8 : lvl i < 8
  ·rw [Ln h8] at hn ⊢;rw [N2 h8];simp only [List.length_cons, List.length_append, List.length_nil] at hn;obtain ⟨m, rfl⟩ : ∃ m, n = m + 2 := ⟨n - 2, by omega⟩;refine ⟨m + 2, by omega, ?_⟩
   have hw := G7 (o := [40]) (c := [41]) (p := Bu (m + 1)) (d := d) (T := TK i k) (r := r) (F := BE i k) (D := DP i k) hd (fun hlt => by
    rw [Nc]
    exact own 1 (m + 1) (d + 1) _ (by decide) hl.1 (by omega) (by omega) (J3 (by decide) _ _) (Qs (by decide) _))
   unfold I7;have e : sg [40] :: (TK i k ++ [sg [41]]) ++ r = sg [40] :: (TK i k ++ sg [41] :: r) := by simp
   rw [e]
   have ha : Fk (Bu (m + 1)) (m + 2) d (sg [40] :: (TK i k ++ sg [41] :: r)) = Az [40] [41] (Bu (m + 1)) d (sg [40] :: (TK i k ++ sg [41] :: r)) := by
    unfold Fk;rw [A9, decide_eq_true rfl, if_pos rfl]
   show CG ((Fk (Bu (m + 1)) (m + 2) d (sg [40] :: (TK i k ++ sg [41] :: r))).bind _) _ _;rw [ha];exact (hw.bind (c := True) (CG.ok trivial)).imp (by rw [and_true]; omega)
  ·rw [Gh h8] at hn ⊢;rw [Hk h8];exact pst (by omega) n d r hn hd hr
 have hA : ∀ L n d r, 1 <= L -> L <= 8 -> (BT L i k).length < n -> d <= 40 -> Stp L r -> Po r -> CG (PL n L d (BT L i k ++ r)) (.ok (BE i k) r) (d + BD L i k <= 40) := by
  intro L n d r h1 h8 hn hd hs hp;by_cases hL : lvl i < L
  ·have h88 : lvl i < 8 := by omega
   have e1 : BT L i k = BT 8 i k := by rw [Ln hL, Ln h88]
   have e2 : BD L i k = BD 8 i k := by rw [N2 hL, N2 h88]
   rw [e1] at hn ⊢;rw [e2];obtain ⟨n1, q1, q2⟩ := hC n d r hn hd hp.2.2;rw [Ri (by omega) hp] at q2;have q8 : CG (PL n 8 d (BT 8 i k ++ r)) (.ok (BE i k) r) (d + BD 8 i k <= 40) := q2;by_cases hL8 : L = 8
   ·rw [hL8]; exact q8
   ·have q7 := c0n (by omega) q8 (by rw [Ln h88]; show sees [45] (sg [40] :: _) = false; rw [A9]; rfl) (by rw [Ln h88]; show sees [33] (sg [40] :: _) = false; rw [A9]; rfl);exact b03 (by omega) (7 - L) (by omega) h1 (Nat.le_refl _) q7 hs
  ·rw [Gh hL] at hn ⊢;rw [Hk hL];exact own L n d r h1 (by omega) hn hd hs hp
 refine ⟨hA, fun L n d r hc hn hd hs hp => ?_, hC, hh⟩;by_cases hL : lvl i = L
 ·rw [Gh (by omega)] at hn ⊢;rw [Hk (by omega)];subst hL;exact chn n d r hc hn hd hs hp
 ·have e1 : BT L i k = BT (L + 1) i k := by
   by_cases h : lvl i < L
   ·rw [Ln h, Ln (by omega)]
   ·rw [Gh h, Gh (by omega)]
  have e2 : BD L i k = BD (L + 1) i k := by
   by_cases h : lvl i < L
   ·rw [N2 h, N2 (by omega)]
   ·rw [Hk h, Hk (by omega)]
  rw [e1] at hn ⊢;rw [e2];refine ⟨n, by omega, ?_⟩;unfold Dc;exact ((hA (L + 1) n d r (by omega) (by omega) hn hd hs hp).bind (c := True) (CG.ok trivial)).imp (by simp)
end
section
theorem a55 {i : Inf} {k : Fo} (h8 : lvl i = 8)
  (pst : ∀ n d r, (TK i k).length < n -> d <= 40 -> sees [40] r = false -> ∃ n1, n <= n1 + (TK i k).length ∧ CG (I7 (Bu (n - 1)) n d (TK i k ++ r)) (Dl (Bu (n - 1)) n1 (BE i k) d r) (d + DP i k <= 40))
  (hh : ∀ r, sees [45] (TK i k ++ r) = false ∧ sees [33] (TK i k ++ r) = false) : Cl i k :=
 Td (by omega) (fun L n d r h1 hL hn hd hs hp => by
  obtain ⟨n1, q1, q2⟩ := pst n d r hn hd hp.2.2;rw [Ri (by omega) hp] at q2;have q8 : CG (PL n 8 d (TK i k ++ r)) (.ok (BE i k) r) (d + DP i k <= 40) := q2;by_cases hL8 : L = 8
  ·rw [hL8]; exact q8
  ·exact b03 (by omega) (7 - L) (by omega) h1 (Nat.le_refl _) (c0n (by omega) q8 (hh r).1 (hh r).2) hs) (fun n d r hc => by omega) (fun _ => pst) (fun _ => hh)
theorem Df {i : Inf} {k : Fo} (h8 : lvl i = 8)
  (atm : ∀ n d r, (TK i k).length < n -> d <= 40 -> sees [40] r = false -> CG (Fk (Bu (n - 1)) n d (TK i k ++ r)) (.ok (BE i k) r) (d + DP i k <= 40))
  (hh : ∀ r, sees [45] (TK i k ++ r) = false ∧ sees [33] (TK i k ++ r) = false) : Cl i k :=
 a55 h8 (fun n d r hn hd hr => ⟨n, by omega, by
  unfold I7
  exact ((atm n d r hn hd hr).bind (c := True) (CG.ok trivial)).imp (by simp)⟩) hh
theorem G2 {E : Pt} {n d : Nat} {t : Tok} {r : List Tok} (h40 : sees [40] (t :: r) = false) (hm : sees [109, 97, 107, 101] (t :: r) = false) (h1 : t.kind ≠ 1) : Fk E n d (t :: r) = Hv d (t :: r) := by
 unfold Fk;rw [h40, hm, if_neg (by simp), if_neg (by simp)];exact if_neg h1
def a65 : Fo -> Prop
 | .nil => True
 | .cons i k r => (Cl i k ∧ 1 <= lvl i) ∧ a65 r
theorem Qa (i : Inf) (k r : Fo) : Ap (tkF (.cons i k r)) = TK i k ++ (match r with | .nil => [] | r => sg [44] :: Ap (tkF r)) := by
 cases r with
 | nil => simp [tkF, Ap]
 | cons i2 k2 r2 => simp [tkF, Ap]
theorem c0c {m : Nat} (hm : 1 <= m) : ∀ (k : Fo), k ≠ .nil -> a65 k -> ∀ n d r, (Ap (tkF k)).length < n -> (Ap (tkF k)).length < m -> d <= 40 -> CG (I8 (Bu m) n d (Ap (tkF k) ++ sg [41] :: r)) (.ok (Ax k) (sg [41] :: r)) (d + Jx (dpF k) <= 40) := by
 intro k
 induction k with
 | nil => intro h; exact absurd rfl h
 | cons i k r _ ihr =>
  intro _ hA n d q hn hnm hd;obtain ⟨n, rfl⟩ : ∃ n', n = n' + 1 := ⟨n - 1, by omega⟩;obtain ⟨m, rfl⟩ : ∃ m', m = m' + 1 := ⟨m - 1, by omega⟩;have e1 : BT 1 i k = TK i k := Gh (by have := hA.1.2; omega);have e2 : BD 1 i k = DP i k := Hk (by have := hA.1.2; omega);rw [Qa] at hn hnm ⊢;unfold I8;rw [Nc]
  cases r with
  | nil =>
   simp only [List.append_nil] at hn hnm ⊢;have h1 := hA.1.1.A 1 (m + 1) d (sg [41] :: q) (by decide) (by decide) (by rw [e1]; exact hnm) hd (J3 (by decide) _ _) (Qs (by decide) _);rw [e1, e2] at h1;have h1 : CG (orP (unP (m + 1)) (m + 1) d (TK i k ++ sg [41] :: q)) _ _ := h1;refine (h1.bind (c := True) (X := .ok (Ax (.cons i k .nil)) (sg [41] :: q)) ?_).imp ?_
   ·rw [A9];exact CG.ok trivial
   ·show d + DP i k <= 40 ∧ True ↔ d + max (DP i k) 0 <= 40
    simp
  | cons i2 k2 r2 =>
   simp only [List.length_append, List.length_cons] at hn hnm;have h1 := hA.1.1.A 1 (m + 1) d (sg [44] :: (Ap (tkF (.cons i2 k2 r2)) ++ sg [41] :: q)) (by decide) (by decide) (by rw [e1]; omega) hd (J3 (by decide) _ _) (Qs (by decide) _);rw [e1, e2] at h1;have h1 : CG (orP (unP (m + 1)) (m + 1) d (TK i k ++ sg [44] :: (Ap (tkF (.cons i2 k2 r2)) ++ sg [41] :: q))) _ _ := h1;have h2 := ihr (by simp) hA.2 n d q (by omega) (by omega) hd;rw [Nc] at h2;have e3 : TK i k ++ sg [44] :: Ap (tkF (.cons i2 k2 r2)) ++ sg [41] :: q = TK i k ++ sg [44] :: (Ap (tkF (.cons i2 k2 r2)) ++ sg [41] :: q) := by simp
   rw [e3];refine (h1.bind (c := d + Jx (dpF (.cons i2 k2 r2)) <= 40) (X := .ok (Ax (.cons i k (.cons i2 k2 r2))) (sg [41] :: q)) ?_).imp ?_
   ·rw [A9, decide_eq_true rfl, if_pos rfl];exact (h2.bind (c := True) (X := .ok (Ax (.cons i k (.cons i2 k2 r2))) (sg [41] :: q)) (CG.ok trivial)).imp (by simp)
   ·show d + DP i k <= 40 ∧ d + Jx (dpF (.cons i2 k2 r2)) <= 40 ↔ d + max (DP i k) (Jx (dpF (.cons i2 k2 r2))) <= 40;omega
theorem b2j {P : Nat -> Bool} (hP : ∀ k, P k = true -> Am k = true) : ∀ (k : Fo), (Aq k).all P = true -> A0 k = true -> (∀ i1 k1, k1.cnt < k.cnt -> Eo i1 k1 = true -> A0 k1 = true -> 21 <= i1.kind -> i1.kind <= 32 -> Cl i1 k1 ∧ 1 <= lvl i1) -> a65 k
 | .nil, _, _, _ => trivial
 | .cons i k r, h, hg, ih => by
  rw [A0, Bool.and_eq_true, Bool.and_eq_true] at hg;rw [Aq, List.all_cons, Bool.and_eq_true] at h;have hk := hP _ h.1;rw [Am, decide_eq_true_eq] at hk;exact ⟨ih i k (by simp [Fo.cnt]; omega) hg.1.1 hg.1.2 hk.1 hk.2, b2j hP r h.2 hg.2 (fun i1 k1 h1 => ih i1 k1 (by simp [Fo.cnt]; omega))⟩
theorem c0e {m : Nat} (hm : 1 <= m) (k : Fo) (hA : a65 k) (hne : k ≠ .nil -> ∃ t T, Ap (tkF k) = t :: T ∧ Lr [41] t = false) (n d : Nat) (r : List Tok) (hn : (Ap (tkF k)).length < n) (hnm : (Ap (tkF k)).length < m) (hd : d <= 40) :
  CG (Az [40] [41] (Ee (Bu m) n) d (sg [40] :: (Ap (tkF k) ++ sg [41] :: r))) (.ok (Ax k) r) (d + 1 + Jx (dpF k) <= 40) := by
 refine G7 hd fun hlt => ?_
 unfold Ee Hp;by_cases h0 : k = .nil
 ·subst h0;show CG (if sees [41] (sg [41] :: r) = true then _ else _) _ _;rw [A9, decide_eq_true rfl, if_pos rfl];exact CG.ok (by show d + 1 + 0 <= 40; omega)
 ·obtain ⟨t, T, h1, h2⟩ := hne h0;have hs : sees [41] (Ap (tkF k) ++ sg [41] :: r) = false := by rw [h1]; exact h2
  rw [hs, if_neg (by simp)];exact c0c hm k h0 hA n (d + 1) r hn hnm (by omega)
theorem a5n (i : Inf) (ts : List TT) (h : 21 <= i.kind ∧ i.kind <= 32) (hm : Bk i.kind i.num = true) (hall : i.kind = 28 ∨ i.kind = 29 ∨ i.kind = 31 -> ∃ x l, ts = x :: l ∧ ∃ t T, x.2 = t :: T ∧ Lr [41] t = false) : ∃ t T, tkN i ts = t :: T ∧ Lr [41] t = false := by
 have hb : ∀ m (x : TT), (∃ t T, x.2 = t :: T ∧ Lr [41] t = false) -> ∃ t T, Qn m x = t :: T ∧ Lr [41] t = false := fun m x hx => by
  unfold Qn;split
  ·exact ⟨_, _, rfl, by decide⟩
  ·exact hx
 obtain ⟨kd, ln, cl, num, tx⟩ := i;simp only at h hm hall;have hk : kd = 21 ∨ kd = 22 ∨ kd = 23 ∨ kd = 24 ∨ kd = 25 ∨ kd = 26 ∨ kd = 27 ∨ kd = 28 ∨ kd = 29 ∨ kd = 30 ∨ kd = 31 ∨ kd = 32 := by omega
 rcases hk with rfl | rfl | rfl | rfl | rfl | rfl | rfl | rfl | rfl | rfl | rfl | rfl
 ·exact ⟨_, _, rfl, rfl⟩
 ·exact ⟨_, _, rfl, rfl⟩
 ·exact ⟨_, _, rfl, rfl⟩
 ·have h01 : num = 0 ∨ num = 1 := by simpa [Bk] using hm
  rcases h01 with rfl | rfl <;> exact ⟨_, _, rfl, rfl⟩
 ·exact ⟨_, _, rfl, rfl⟩
 ·exact ⟨_, _, rfl, rfl⟩
 ·exact ⟨_, _, rfl, rfl⟩
 ·obtain ⟨x, l, rfl, hx⟩ := hall (by simp);obtain ⟨t, T, e, f⟩ := hb 8 x hx;refine ⟨t, T ++ [sg [91]] ++ (H8 (x :: l) 1).2 ++ [sg [93]], ?_, f⟩;show Qn 8 x ++ [sg [91]] ++ (H8 (x :: l) 1).2 ++ [sg [93]] = _;rw [e]; simp
 ·obtain ⟨x, l, rfl, hx⟩ := hall (by simp);obtain ⟨t, T, e, f⟩ := hb 8 x hx;refine ⟨t, T ++ [sg [46], nmT tx], ?_, f⟩;show Qn 8 x ++ [sg [46], nmT tx] = _;rw [e]; simp
 ·have h12 : num = 12 ∨ num = 13 := by simpa [Bk] using hm
  rcases h12 with rfl | rfl <;> exact ⟨_, _, rfl, rfl⟩
 ·obtain ⟨x, l, rfl, hx⟩ := hall (by simp);obtain ⟨t, T, e, f⟩ := hb (Fh (opS num).2) x hx;refine ⟨t, T ++ [sg (opS num).1] ++ Qn ((opS num).2 + 1) (H8 (x :: l) 1), ?_, f⟩;show Qn (Fh (opS num).2) x ++ [sg (opS num).1] ++ Qn ((opS num).2 + 1) (H8 (x :: l) 1) = _;rw [e]; simp
 ·exact ⟨_, _, rfl, rfl⟩
theorem Sy : ∀ s i k, k.cnt < s -> Eo i k = true -> A0 k = true -> 21 <= i.kind -> i.kind <= 32 -> ∃ t T, TK i k = t :: T ∧ Lr [41] t = false := by
 intro s
 induction s with
 | zero => intro i k h; omega
 | succ s ih =>
  intro i k hs hg hG k1 k2;obtain ⟨ht, hm, ha⟩ := Bv hg;refine a5n i (tkF k) ⟨k1, k2⟩ hm fun hk => ?_
  have hx : ∃ i1 k1' r, k = .cons i1 k1' r ∧ Am i1.kind = true := by
   rcases hk with e | e | e
   ·rw [e] at ha;obtain ⟨i1, k1', i2, k2', rfl, h1, _⟩ := fx2 (P := Am) (Q := Am) ha;exact ⟨_, _, _, rfl, h1⟩
   ·rw [e] at ha;obtain ⟨i1, k1', rfl, h1⟩ := fx1 (P := Am) ha;exact ⟨_, _, _, rfl, h1⟩
   ·rw [e] at ha;obtain ⟨i1, k1', i2, k2', rfl, h1, _⟩ := fx2 (P := Am) (Q := Am) ha;exact ⟨_, _, _, rfl, h1⟩
  obtain ⟨i1, k1', r, rfl, h1⟩ := hx;rw [Am, decide_eq_true_eq] at h1;rw [A0, Bool.and_eq_true, Bool.and_eq_true] at hG;exact ⟨_, _, rfl, ih i1 k1' (by simp [Fo.cnt] at hs; omega) hG.1.1 hG.1.2 h1.1 h1.2⟩
theorem b2d : ∀ s i k, k.cnt < s -> Eo i k = true -> A0 k = true -> 21 <= i.kind -> i.kind <= 32 -> Cl i k ∧ 1 <= lvl i := by
 intro s
 induction s with
 | zero => intro i k h; omega
 | succ s ih =>
  intro i k hs hg hG k1 k2;obtain ⟨ht, hm, ha⟩ := Bv hg;obtain ⟨kd, ln, cl, num, tx⟩ := i;simp only at ht hm ha k1 k2;have hk : kd = 21 ∨ kd = 22 ∨ kd = 23 ∨ kd = 24 ∨ kd = 25 ∨ kd = 26 ∨ kd = 27 ∨ kd = 28 ∨ kd = 29 ∨ kd = 30 ∨ kd = 31 ∨ kd = 32 := by omega
  rcases hk with rfl | rfl | rfl | rfl | rfl | rfl | rfl | rfl | rfl | rfl | rfl | rfl
  ·obtain rfl := fx0 (show Ak [] (Aq k) = true from ha);obtain rfl : tx = [] := by simpa [Bc] using ht
   refine ⟨Df rfl (fun n d r _ hd _ => .inl ⟨by show d + 0 <= 40; omega, ?_⟩) (fun r => ⟨rfl, rfl⟩), by show 1 <= 8; decide⟩;exact (G2 rfl rfl (by intro h; cases h)).trans rfl
  ·obtain rfl := fx0 (show Ak [] (Aq k) = true from ha);obtain rfl : tx = [] := by simpa [Bc] using ht
   refine ⟨Df rfl (fun n d r _ hd _ => .inl ⟨by show d + 0 <= 40; omega, ?_⟩) (fun r => ⟨rfl, rfl⟩), by show 1 <= 8; decide⟩;exact (G2 rfl rfl (by intro h; cases h)).trans rfl
  ·obtain rfl := fx0 (show Ak [] (Aq k) = true from ha);obtain rfl : num = 0 := by simpa [Bk] using hm
   refine ⟨Df rfl (fun n d r _ hd _ => .inl ⟨by show d + 0 <= 40; omega, ?_⟩) (fun r => ⟨rfl, rfl⟩), by show 1 <= 8; decide⟩;exact (G2 (t := ⟨5, 0, 0, 0, tx⟩) rfl rfl (by intro h; cases h)).trans rfl
  ·obtain rfl := fx0 (show Ak [] (Aq k) = true from ha);obtain rfl : tx = [] := by simpa [Bc] using ht
   have h01 : num = 0 ∨ num = 1 := by simpa [Bk] using hm
   rcases h01 with rfl | rfl
   ·refine ⟨Df rfl (fun n d r _ hd _ => .inl ⟨by show d + 0 <= 40; omega, ?_⟩) (fun r => ⟨rfl, rfl⟩), by show 1 <= 8; decide⟩;exact (G2 rfl rfl (by intro h; cases h)).trans rfl
   ·refine ⟨Df rfl (fun n d r _ hd _ => .inl ⟨by show d + 0 <= 40; omega, ?_⟩) (fun r => ⟨rfl, rfl⟩), by show 1 <= 8; decide⟩;exact (G2 rfl rfl (by intro h; cases h)).trans rfl
  ·obtain rfl := fx0 (show Ak [] (Aq k) = true from ha);obtain rfl : tx = [] := by simpa [Bc] using ht
   obtain rfl : num = 0 := by simpa [Bk] using hm
   refine ⟨Df rfl (fun n d r _ hd _ => .inl ⟨by show d + 0 <= 40; omega, ?_⟩) (fun r => ⟨rfl, rfl⟩), by show 1 <= 8; decide⟩;exact (G2 rfl rfl (by intro h; cases h)).trans rfl
  ·
   obtain rfl := fx0 (show Ak [] (Aq k) = true from ha);obtain rfl : num = 0 := by simpa [Bk] using hm
   refine ⟨Df rfl (fun n d r _ hd hr => .inl ⟨by show d + 0 <= 40; omega, ?_⟩) (fun r => ⟨rfl, rfl⟩), by show 1 <= 8; decide⟩;show Fk (Bu (n - 1)) n d (nmT tx :: r) = _;unfold Fk;rw [I2 ⟨by show (1 : Nat) ≠ 6; decide, by show (1 : Nat) ≠ 7; decide⟩, I2 ⟨by show (1 : Nat) ≠ 6; decide, by show (1 : Nat) ≠ 7; decide⟩, if_neg (by simp), if_neg (by simp)];show H7 (Bu (n - 1)) n d (nmT tx :: r) = _;unfold H7;show (if sees [40] r = true then _ else _) = _;rw [hr];rfl
  ·
   have hA : a65 k := b2j (P := Am) (fun _ h => h) k ha hG (fun i1 k1 h1 => ih i1 k1 (by omega));obtain rfl : num = 0 := by simpa [Bk] using hm
   have hne : k ≠ .nil -> ∃ t T, Ap (tkF k) = t :: T ∧ Lr [41] t = false := fun h0 => by
    cases k with
    | nil => exact absurd rfl h0
    | cons i1 k1' r =>
     rw [A0, Bool.and_eq_true, Bool.and_eq_true] at hG;have hk : Am i1.kind = true := List.all_eq_true.1 (show (Aq (.cons i1 k1' r)).all Am = true from ha) _ (by simp [Aq]);rw [Am, decide_eq_true_eq] at hk;obtain ⟨t, T, e, f⟩ := Sy _ i1 k1' (Nat.lt_succ_self _) hG.1.1 hG.1.2 hk.1 hk.2;rw [Qa, e];exact ⟨t, _, rfl, f⟩
   refine ⟨Df rfl (fun n d r hn hd hr => ?_) (fun r => ⟨rfl, rfl⟩), by show 1 <= 8; decide⟩
   have e : TK ⟨27, ln, cl, 0, tx⟩ k ++ r = nmT tx :: sg [40] :: (Ap (tkF k) ++ sg [41] :: r) := by
    show [nmT tx, sg [40]] ++ Ap (tkF k) ++ [sg [41]] ++ r = _;simp
   have hl : (TK ⟨27, ln, cl, 0, tx⟩ k).length = (Ap (tkF k)).length + 3 := by
    show ([nmT tx, sg [40]] ++ Ap (tkF k) ++ [sg [41]]).length = _;simp
   rw [hl] at hn;rw [e];unfold Fk;rw [I2 ⟨by show (1 : Nat) ≠ 6; decide, by show (1 : Nat) ≠ 7; decide⟩, I2 ⟨by show (1 : Nat) ≠ 6; decide, by show (1 : Nat) ≠ 7; decide⟩, if_neg (by simp), if_neg (by simp)];show CG (H7 (Bu (n - 1)) n d (nmT tx :: sg [40] :: (Ap (tkF k) ++ sg [41] :: r))) _ _;unfold H7;show CG (if sees [40] (sg [40] :: (Ap (tkF k) ++ sg [41] :: r)) = true then _ else _) _ _;rw [A9, decide_eq_true rfl, if_pos rfl];have hw := c0e (m := n - 1) (by omega) k hA hne n d r (by omega) (by omega) hd;unfold B7;refine (hw.bind (f := fun F r => Out.ok (.cons (mkX 27 (nmT tx :: sg [40] :: (Ap (tkF k) ++ sg [41] :: r))) F .nil) r) (c := True) (CG.ok trivial)).imp ?_;show d + 1 + Jx (dpF k) <= 40 ∧ True ↔ d + (1 + Jx (dpF k)) <= 40;rw [and_true]; omega
  ·
   obtain ⟨ix, kx, iy, ky, rfl, ex, ey⟩ := fx2 (P := Am) (Q := Am) ha;obtain rfl : num = 0 := by simpa [Bk] using hm
   obtain rfl : tx = [] := by simpa [Bc] using ht
   rw [Am, decide_eq_true_eq] at ex ey;rw [A0, A0, Bool.and_eq_true, Bool.and_eq_true, Bool.and_eq_true, Bool.and_eq_true] at hG;simp [Fo.cnt] at hs;obtain ⟨cx, lx⟩ := ih ix kx (by omega) hG.1.1 hG.1.2 ex.1 ex.2;obtain ⟨cy, ly⟩ := ih iy ky (by omega) hG.2.1.1 hG.2.1.2 ey.1 ey.2;have e1 : BT 1 iy ky = TK iy ky := Gh (by omega);have e2 : BD 1 iy ky = DP iy ky := Hk (by omega)
   have e : ∀ r, TK ⟨28, ln, cl, 0, []⟩ (.cons ix kx (.cons iy ky .nil)) ++ r = BT 8 ix kx ++ sg [91] :: (TK iy ky ++ sg [93] :: r) := fun r => by
    show BT 8 ix kx ++ [sg [91]] ++ TK iy ky ++ [sg [93]] ++ r = _;simp
   have hl : (TK ⟨28, ln, cl, 0, []⟩ (.cons ix kx (.cons iy ky .nil))).length = (BT 8 ix kx).length + (TK iy ky).length + 2 := by
    show (BT 8 ix kx ++ [sg [91]] ++ TK iy ky ++ [sg [93]]).length = _;simp; omega
   refine ⟨a55 rfl (fun n d r hn hd hr => ?_) (fun r => ?_), by show 1 <= 8; decide⟩
   ·rw [hl] at hn ⊢;rw [e];obtain ⟨n1, q1, q2⟩ := cx.C n d (sg [91] :: (TK iy ky ++ sg [93] :: r)) (by omega) hd (by rw [A9]; rfl);obtain ⟨n2, rfl⟩ : ∃ n2, n1 = n2 + 1 := ⟨n1 - 1, by omega⟩;obtain ⟨m, rfl⟩ : ∃ m, n = m + 2 := ⟨n - 2, by omega⟩;refine ⟨n2, by omega, ?_⟩
    have hw := G7 (o := [91]) (c := [93]) (p := Bu (m + 1)) (d := d) (T := TK iy ky) (r := r) (F := BE iy ky) (D := DP iy ky) hd (fun hlt => by
     have := cy.A 1 (m + 1) (d + 1) (sg [93] :: r) (by decide) (by decide) (by rw [e1]; omega) (by omega) (J3 (by decide) _ _) (Qs (by decide) _);rw [e1, e2] at this
     exact this)
    have q3 : CG (Dl (Bu (m + 1)) (n2 + 1) (BE ix kx) d (sg [91] :: (TK iy ky ++ sg [93] :: r))) (Dl (Bu (m + 1)) n2 (BE ⟨28, ln, cl, 0, []⟩ (.cons ix kx (.cons iy ky .nil))) d r) (d + 1 + DP iy ky <= 40) := by
     have e5 : Dl (Bu (m + 1)) (n2 + 1) (BE ix kx) d (sg [91] :: (TK iy ky ++ sg [93] :: r)) = (Az [91] [93] (Bu (m + 1)) d (sg [91] :: (TK iy ky ++ sg [93] :: r))).bind fun G r' => Dl (Bu (m + 1)) n2 (.cons (mkK 28 (sg [91] :: (TK iy ky ++ sg [93] :: r))) ((BE ix kx).app G) .nil) d r' := by
      rw [Dl];simp only;rw [A9, decide_eq_true rfl, if_pos rfl]
     rw [e5];exact (hw.bind (c := True) (CG.ok trivial)).imp (by simp)
    have q2 : CG (I7 (Bu (m + 1)) (m + 2) d (BT 8 ix kx ++ sg [91] :: (TK iy ky ++ sg [93] :: r))) (Dl (Bu (m + 1)) (n2 + 1) (BE ix kx) d (sg [91] :: (TK iy ky ++ sg [93] :: r))) (d + BD 8 ix kx <= 40) := q2;have hD : DP ⟨28, ln, cl, 0, []⟩ (.cons ix kx (.cons iy ky .nil)) = max (BD 8 ix kx) (1 + DP iy ky) := rfl;rw [hD];show CG (I7 (Bu (m + 1)) (m + 2) d (BT 8 ix kx ++ sg [91] :: (TK iy ky ++ sg [93] :: r))) (Dl (Bu (m + 1)) n2 _ d r) _;rcases q2 with ⟨hb, e4⟩ | ⟨hb, l', k', e4⟩
    ·rw [e4];refine q3.imp ?_;omega
    ·exact .inr ⟨by omega, l', k', e4⟩
   ·rw [e];by_cases h8 : lvl ix < 8
    ·rw [Ln h8];exact ⟨by show sees [45] (sg [40] :: _) = false; rw [A9]; rfl, by show sees [33] (sg [40] :: _) = false; rw [A9]; rfl⟩
    ·rw [Gh h8];exact cx.H (by omega) _
  ·
   obtain ⟨ix, kx, rfl, ex⟩ := fx1 (P := Am) ha;obtain rfl : num = 0 := by simpa [Bk] using hm
   rw [Am, decide_eq_true_eq] at ex;rw [A0, Bool.and_eq_true, Bool.and_eq_true] at hG;simp [Fo.cnt] at hs;obtain ⟨cx, lx⟩ := ih ix kx (by omega) hG.1.1 hG.1.2 ex.1 ex.2
   have e : ∀ r, TK ⟨29, ln, cl, 0, tx⟩ (.cons ix kx .nil) ++ r = BT 8 ix kx ++ sg [46] :: nmT tx :: r := fun r => by
    show BT 8 ix kx ++ [sg [46], nmT tx] ++ r = _;simp
   have hl : (TK ⟨29, ln, cl, 0, tx⟩ (.cons ix kx .nil)).length = (BT 8 ix kx).length + 2 := by
    show (BT 8 ix kx ++ [sg [46], nmT tx]).length = _;simp
   refine ⟨a55 rfl (fun n d r hn hd hr => ?_) (fun r => ?_), by show 1 <= 8; decide⟩
   ·rw [hl] at hn ⊢;rw [e];obtain ⟨n1, q1, q2⟩ := cx.C n d (sg [46] :: nmT tx :: r) (by omega) hd (by rw [A9]; rfl);obtain ⟨n2, rfl⟩ : ∃ n2, n1 = n2 + 1 := ⟨n1 - 1, by omega⟩;refine ⟨n2, by omega, ?_⟩
    have q3 : Dl (Bu (n - 1)) (n2 + 1) (BE ix kx) d (sg [46] :: nmT tx :: r) = Dl (Bu (n - 1)) n2 (BE ⟨29, ln, cl, 0, tx⟩ (.cons ix kx .nil)) d r := by
     rw [Dl];simp only;rw [A9, A9, decide_eq_false (by decide), decide_eq_true rfl, if_neg (by simp), if_pos rfl];rfl
    rw [q3] at q2;exact q2
   ·rw [e];by_cases h8 : lvl ix < 8
    ·rw [Ln h8];exact ⟨by show sees [45] (sg [40] :: _) = false; rw [A9]; rfl, by show sees [33] (sg [40] :: _) = false; rw [A9]; rfl⟩
    ·rw [Gh h8];exact cx.H (by omega) _
  ·
   obtain ⟨ix, kx, rfl, ex⟩ := fx1 (P := Am) ha;obtain rfl : tx = [] := by simpa [Bc] using ht
   rw [Am, decide_eq_true_eq] at ex;rw [A0, Bool.and_eq_true, Bool.and_eq_true] at hG;simp [Fo.cnt] at hs;obtain ⟨cx, lx⟩ := ih ix kx (by omega) hG.1.1 hG.1.2 ex.1 ex.2;have h12 : num = 12 ∨ num = 13 := by simpa [Bk] using hm
   have hlv : lvl (⟨30, ln, cl, num, []⟩ : Inf) = 7 := by rcases h12 with rfl | rfl <;> rfl
   have hl : (TK ⟨30, ln, cl, num, []⟩ (.cons ix kx .nil)).length = (BT 7 ix kx).length + 1 := by
    show ([sg (opS num).1] ++ BT 7 ix kx).length = _;simp
   refine ⟨Td (by omega) (fun L n d r h1 hL hn hd hs2 hp => ?_) (fun n d r hc => by omega) (fun h => by omega) (fun h => by omega), by omega⟩;rw [hl] at hn;rw [hlv] at hL;obtain ⟨m, rfl⟩ : ∃ m, n = m + 2 := ⟨n - 2, by omega⟩;refine b03 (by omega) (7 - L) (by omega) h1 (Nat.le_refl _) ?_ hs2;have hx := fun (hlt : d < 40) => cx.A 7 (m + 1) (d + 1) r (by decide) (by decide) (by omega) (by omega) (fun l h1 h2 => by omega) hp
   show CG (unP (m + 2) d (sg (opS num).1 :: (BT 7 ix kx ++ r))) _ _;rw [Yd];unfold Dm;have hD : DP ⟨30, ln, cl, num, []⟩ (.cons ix kx .nil) = 1 + BD 7 ix kx := rfl;rw [hD];rcases h12 with rfl | rfl
   ·rw [A9, decide_eq_true (show (opS 12).1 = [45] from rfl), if_pos rfl];unfold B7;exact ((P8 (t := sg [45]) hd (fun hlt => hx hlt)).bind (c := True) (CG.ok trivial)).imp (by rw [and_true]; omega)
   ·rw [A9, A9, decide_eq_true (show (opS 13).1 = [33] from rfl), decide_eq_false (by decide), if_neg (by simp), if_pos rfl];unfold B7;exact ((P8 (t := sg [33]) hd (fun hlt => hx hlt)).bind (c := True) (CG.ok trivial)).imp (by rw [and_true]; omega)
  ·
   obtain ⟨ix, kx, iy, ky, rfl, ex, ey⟩ := fx2 (P := Am) (Q := Am) ha;obtain rfl : tx = [] := by simpa [Bc] using ht
   rw [Am, decide_eq_true_eq] at ex ey;rw [A0, A0, Bool.and_eq_true, Bool.and_eq_true, Bool.and_eq_true, Bool.and_eq_true] at hG;simp [Fo.cnt] at hs;obtain ⟨cx, lx⟩ := ih ix kx (by omega) hG.1.1 hG.1.2 ex.1 ex.2;obtain ⟨cy, ly⟩ := ih iy ky (by omega) hG.2.1.1 hG.2.1.2 ey.1 ey.2;obtain ⟨o1, o2, o3, o4, o5, o6⟩ := a82 hm;obtain ⟨l, hlq⟩ : ∃ l, (opS num).2 = l := ⟨_, rfl⟩;obtain ⟨x, hxq⟩ : ∃ x, (opS num).1 = x := ⟨_, rfl⟩;have hlv : lvl (⟨31, ln, cl, num, []⟩ : Inf) = l := hlq
   have e : ∀ r, TK ⟨31, ln, cl, num, []⟩ (.cons ix kx (.cons iy ky .nil)) ++ r = BT (Fh l) ix kx ++ sg x :: (BT (l + 1) iy ky ++ r) := fun r => by
    show BT (Fh (opS num).2) ix kx ++ [sg (opS num).1] ++ BT ((opS num).2 + 1) iy ky ++ r = _;rw [hlq, hxq]; simp
   have hl : (TK ⟨31, ln, cl, num, []⟩ (.cons ix kx (.cons iy ky .nil))).length = (BT (Fh l) ix kx).length + (BT (l + 1) iy ky).length + 1 := by
    show (BT (Fh (opS num).2) ix kx ++ [sg (opS num).1] ++ BT ((opS num).2 + 1) iy ky).length = _;rw [hlq, hxq]; simp; omega
   have hD : DP ⟨31, ln, cl, num, []⟩ (.cons ix kx (.cons iy ky .nil)) = max (BD (Fh l) ix kx) (BD (l + 1) iy ky) := by
    show max (BD (Fh (opS num).2) ix kx) (BD ((opS num).2 + 1) iy ky) = _;rw [hlq]
   rw [hlq, hxq] at o6;rw [hlq] at o1 o2 o3;rw [hxq] at o3 o4 o5
   have stp : ∀ n d r, (BT (l + 1) iy ky).length < n -> d <= 40 -> Stp (l + 1) r -> Po r -> CG (Ds (PL n (l + 1)) (BE ix kx) d (sg x :: (BT (l + 1) iy ky ++ r))) (.ok (BE ⟨31, ln, cl, num, []⟩ (.cons ix kx (.cons iy ky .nil))) r) (d + BD (l + 1) iy ky <= 40) := fun n d r hn hd hs2 hp => by
    have h := cy.A (l + 1) n d r (by omega) (by omega) hn hd hs2 hp;unfold Ds;refine (h.bind (c := True) (X := .ok (BE ⟨31, ln, cl, num, []⟩ (.cons ix kx (.cons iy ky .nil))) r) ?_).imp (by simp);show CG (.ok (.cons ⟨31, 0, 0, Lf x, []⟩ _ .nil) r) _ _;rw [o4];exact CG.ok trivial
   have chn : ∀ n d r, l = 1 ∨ l = 2 ∨ l = 5 ∨ l = 6 -> (TK ⟨31, ln, cl, num, []⟩ (.cons ix kx (.cons iy ky .nil))).length < n -> d <= 40 -> Stp (l + 1) r -> Po r -> ∃ n1, n <= n1 + (TK ⟨31, ln, cl, num, []⟩ (.cons ix kx (.cons iy ky .nil))).length ∧ CG (Dc (PL n (l + 1)) (Sg l) n d (TK ⟨31, ln, cl, num, []⟩ (.cons ix kx (.cons iy ky .nil)) ++ r)) (C4 (PL n (l + 1)) (Sg l) n1 (BE ⟨31, ln, cl, num, []⟩ (.cons ix kx (.cons iy ky .nil))) d r) (d + DP ⟨31, ln, cl, num, []⟩ (.cons ix kx (.cons iy ky .nil)) <= 40) := by
    intro n d r hc hn hd hs2 hp;have hll : Fh l = l := by unfold Fh; rw [if_neg (by omega)]
    rw [hl, hll] at hn ⊢;rw [e, hD, hll];obtain ⟨n1, q1, q2⟩ := cx.B l n d (sg x :: (BT (l + 1) iy ky ++ r)) hc (by omega) hd (o6 _) (Qs o5 _);obtain ⟨n2, rfl⟩ : ∃ n2, n1 = n2 + 1 := ⟨n1 - 1, by omega⟩;refine ⟨n2, by omega, ?_⟩
    have q3 : CG (C4 (PL n (l + 1)) (Sg l) (n2 + 1) (BE ix kx) d (sg x :: (BT (l + 1) iy ky ++ r))) (C4 (PL n (l + 1)) (Sg l) n2 (BE ⟨31, ln, cl, num, []⟩ (.cons ix kx (.cons iy ky .nil))) d r) (d + BD (l + 1) iy ky <= 40) := by
     have e5 : C4 (PL n (l + 1)) (Sg l) (n2 + 1) (BE ix kx) d (sg x :: (BT (l + 1) iy ky ++ r)) = (Ds (PL n (l + 1)) (BE ix kx) d (sg x :: (BT (l + 1) iy ky ++ r))).bind fun G r' => C4 (PL n (l + 1)) (Sg l) n2 G d r' := by
      rw [C4];simp only;rw [Zw, decide_eq_true o3, if_pos rfl]
     rw [e5];exact ((stp n d r (by omega) hd hs2 hp).bind (c := True) (CG.ok trivial)).imp (by simp)
    rcases q2 with ⟨hb, e4⟩ | ⟨hb, l', k', e4⟩
    ·rw [e4];exact q3.imp (by omega)
    ·exact .inr ⟨by omega, l', k', e4⟩
   refine ⟨Td (by omega) (fun L n d r h1 hL hn hd hs2 hp => ?_) (fun n d r hc hn hd hs2 hp => ?_) (fun h => by omega) (fun h => by omega), by omega⟩
   ·rw [hlv] at hL
    have own : CG (PL n l d (TK ⟨31, ln, cl, num, []⟩ (.cons ix kx (.cons iy ky .nil)) ++ r)) (.ok (BE ⟨31, ln, cl, num, []⟩ (.cons ix kx (.cons iy ky .nil))) r) (d + DP ⟨31, ln, cl, num, []⟩ (.cons ix kx (.cons iy ky .nil)) <= 40) := by
     have hsl := hs2 l hL o2;by_cases h34 : l = 3 ∨ l = 4
     ·have hll : Fh l = l + 1 := by unfold Fh; rw [if_pos h34]
      rw [hl, hll] at hn;rw [e, hD, hll];have hx := cx.A (l + 1) n d (sg x :: (BT (l + 1) iy ky ++ r)) (by omega) (by omega) (by omega) hd (o6 _) (Qs o5 _);have hpair : PL n l = Ld (PL n (l + 1)) (Sg l) := by rcases h34 with h | h <;> rw [h] <;> rfl
      rw [hpair];unfold Ld;refine (hx.bind (c := d + BD (l + 1) iy ky <= 40) (X := .ok (BE ⟨31, ln, cl, num, []⟩ (.cons ix kx (.cons iy ky .nil))) r) ?_).imp (by omega);rw [Zw, decide_eq_true o3, if_pos rfl];exact stp n d r (by omega) hd (hs2.mono (by omega)) hp
     ·have hc : l = 1 ∨ l = 2 ∨ l = 5 ∨ l = 6 := by omega
      obtain ⟨n1, q1, q2⟩ := chn n d r hc hn hd (hs2.mono (by omega)) hp;rw [Qc (by omega) hsl] at q2;have hch : PL n l = Dc (PL n (l + 1)) (Sg l) n := by rcases hc with h | h | h | h <;> rw [h] <;> rfl
      rw [hch];exact q2
    exact b03 (by omega) (l - L) (by omega) h1 (by omega) own hs2
   ·rw [hlv] at hc hs2 ⊢;exact chn n d r hc hn hd hs2 hp
  ·
   obtain rfl : num = 0 := by simpa [Bk] using hm
   obtain rfl : tx = [] := by simpa [Bc] using ht
   have hA : (Ak [[19].contains] (Aq k) || Ak [[20].contains, Am] (Aq k)) = true := ha
   have hmk : ∀ n d r, Fk (Bu (n - 1)) n d (wd [109, 97, 107, 101] :: r) = (if (hd r).kind = 2 then Fd Ba (Az [40] [41] Bb) d r else Fd (Bq (Eb n)) (Az [40] [41] (Bu (n - 1))) d r).bind fun F q => .ok (.cons ⟨32, 0, 0, 0, []⟩ F .nil) q := fun n d r => by
    unfold Fk;rw [Sa, Sa, decide_eq_false (by decide), decide_eq_true rfl, if_neg (by simp), if_pos rfl];rfl
   rw [Bool.or_eq_true] at hA;rcases hA with hA | hA
   ·obtain ⟨ix, kx, rfl, ex⟩ := fx1 hA;have ex' : ix.kind = 19 := by simpa using ex
    rw [A0, Bool.and_eq_true, Bool.and_eq_true] at hG;obtain ⟨tx1, tx2, tx3⟩ := Bv hG.1.1;obtain ⟨kd, ln1, cl1, num1, t1⟩ := ix;have ex' : kd = 19 := ex';subst ex';obtain rfl := fx0 (show Ak [] (Aq kx) = true from tx3);obtain rfl : num1 = 0 := by simpa [Bk] using tx2
    refine ⟨Df rfl (fun n d r hn hd hr => ?_) (fun r => ⟨rfl, rfl⟩), by show 1 <= 8; decide⟩;show CG (Fk (Bu (n - 1)) n d (wd [109, 97, 107, 101] :: bgT t1 :: sg [40] :: sg [41] :: r)) _ _;rw [hmk, if_pos (show (YtoaplbljflhheaaGreat.hd (bgT t1 :: sg [40] :: sg [41] :: r)).kind = 2 from rfl)];have hw := G7 (o := [40]) (c := [41]) (p := Bb) (d := d) (T := []) (r := r) (F := .nil) (D := 0) hd (fun hlt => CG.ok (by omega))
    have hs1 : CG (Fd Ba (Az [40] [41] Bb) d (bgT t1 :: sg [40] :: sg [41] :: r)) (.ok (BE ⟨19, ln1, cl1, 0, t1⟩ .nil) r) (d + 1 + 0 <= 40) := by
     show CG ((Az [40] [41] Bb d (sg [40] :: sg [41] :: r)).bind fun G r' => .ok ((Fo.cons ⟨19, 0, 0, 0, t1⟩ .nil .nil).app G) r') _ _;exact (hw.bind (c := True) (CG.ok trivial)).imp (by simp)
    exact (hs1.bind (c := True) (CG.ok trivial)).imp (by
     show d + 1 + 0 <= 40 ∧ True ↔ d + max 0 (1 + 0) <= 40
     simp)
   ·obtain ⟨ix, kx, iy, ky, rfl, ex, ey⟩ := fx2 hA;have ex' : ix.kind = 20 := by simpa using ex
    rw [Am, decide_eq_true_eq] at ey;rw [A0, A0, Bool.and_eq_true, Bool.and_eq_true, Bool.and_eq_true, Bool.and_eq_true] at hG;simp [Fo.cnt] at hs;obtain ⟨cy, ly⟩ := ih iy ky (by omega) hG.2.1.1 hG.2.1.2 ey.1 ey.2;have e1 : BT 1 iy ky = TK iy ky := Gh (by omega);have e2 : BD 1 iy ky = DP iy ky := Hk (by omega)
    have hl : (TK ⟨32, ln, cl, 0, []⟩ (.cons ix kx (.cons iy ky .nil))).length = (TK ix kx).length + (TK iy ky).length + 3 := by
     show ([wd [109, 97, 107, 101]] ++ TK ix kx ++ [sg [40]] ++ Ap [(iy, TK iy ky)] ++ [sg [41]]).length = _;simp [Ap]; omega
    have e : ∀ r, TK ⟨32, ln, cl, 0, []⟩ (.cons ix kx (.cons iy ky .nil)) ++ r = wd [109, 97, 107, 101] :: (TK ix kx ++ sg [40] :: (TK iy ky ++ sg [41] :: r)) := fun r => by
     show [wd [109, 97, 107, 101]] ++ TK ix kx ++ [sg [40]] ++ Ap [(iy, TK iy ky)] ++ [sg [41]] ++ r = _;simp [Ap]
    refine ⟨Df rfl (fun n d r hn hd hr => ?_) (fun r => ⟨rfl, rfl⟩), by show 1 <= 8; decide⟩;rw [hl] at hn;obtain ⟨m, rfl⟩ : ∃ m, n = m + 2 := ⟨n - 2, by omega⟩;rw [e, hmk]
    obtain ⟨T, hT⟩ : ∃ T, TK ix kx = sg [91] :: T := by
     obtain ⟨kd, ln1, cl1, num1, t1⟩ := ix;have ex' : kd = 20 := ex';subst ex';exact ⟨_, rfl⟩
    have hk7 : (YtoaplbljflhheaaGreat.hd (TK ix kx ++ sg [40] :: (TK iy ky ++ sg [41] :: r))).kind = 7 := by rw [hT]; rfl
    rw [hk7, if_neg (by decide)];have ht1 := b2c _ ix kx (Nat.lt_succ_self _) hG.1.1 hG.1.2 (by omega) (by omega) (m + 3) d (sg [40] :: (TK iy ky ++ sg [41] :: r)) (by omega) hd
    have ht2 : Eb (m + 3) d (TK ix kx ++ sg [40] :: (TK iy ky ++ sg [41] :: r)) = Bq (Eb (m + 2)) d (TK ix kx ++ sg [40] :: (TK iy ky ++ sg [41] :: r)) := by
     show Hp [91] (Bq (Eb (m + 2))) Ba d _ = _;unfold Hp;rw [hT];show (if sees [91] (sg [91] :: (T ++ sg [40] :: (TK iy ky ++ sg [41] :: r))) = true then _ else _) = _;rw [A9, decide_eq_true rfl, if_pos rfl]
    rw [ht2] at ht1
    have hw := G7 (o := [40]) (c := [41]) (p := Bu (m + 1)) (d := d) (T := TK iy ky) (r := r) (F := BE iy ky) (D := DP iy ky) hd (fun hlt => by
     have := cy.A 1 (m + 1) (d + 1) (sg [41] :: r) (by decide) (by decide) (by rw [e1]; omega) (by omega) (J3 (by decide) _ _) (Qs (by decide) _);rw [e1, e2] at this
     exact this)
    have hs1 : CG (Fd (Bq (Eb (m + 2))) (Az [40] [41] (Bu (m + 1))) d (TK ix kx ++ sg [40] :: (TK iy ky ++ sg [41] :: r))) (.ok ((BE ix kx).app (BE iy ky)) r) ((d + DP ix kx <= 40) ∧ (d + 1 + DP iy ky <= 40)) := by
     unfold Fd;exact ht1.bind ((hw.bind (f := fun G r' => .ok ((BE ix kx).app G) r') (c := True) (CG.ok trivial)).imp (by simp))
    exact (hs1.bind (c := True) (CG.ok trivial)).imp (by
     show (d + DP ix kx <= 40 ∧ d + 1 + DP iy ky <= 40) ∧ True ↔ d + max (DP ix kx) (1 + DP iy ky) <= 40
     rw [and_true]; omega)
end
section
def WfT (t : Tok) : Prop := (t.kind = 1 -> Ed t.text = true) ∧ (t.kind = 2 -> Ew t.text = true) ∧ (t.kind = 3 -> 0 <= t.num ∧ t.num <= 9223372036854775807) ∧ (t.kind = 4 -> 0 <= t.num ∧ t.num < 8388608)
def WfL (ts : List Tok) : Prop := ∀ t ∈ ts, WfT t
def wT (t : Tok) : Nat := 22 + 4 * t.text.length
def wL : List Tok -> Nat
 | [] => 0
 | t :: l => wT t + wL l
def wF : Fo -> Nat
 | .nil => 0
 | .cons i k r => (22 + 4 * i.text.length) + wF k + wF r
theorem b67 (F G : Fo) : wF (F.app G) = wF F + wF G := by
 induction F with
 | nil => simp [Fo.app, wF]
 | cons i k r _ ih => simp [Fo.app, wF, ih]; omega
theorem a5f (F G : Fo) : A0 (F.app G) = (A0 F && A0 G) := by
 induction F with
 | nil => rfl
 | cons i k r _ ih => simp [Fo.app, A0, ih, Bool.and_assoc]
theorem a3a (F G : Fo) : Aq (F.app G) = Aq F ++ Aq G := by
 induction F with
 | nil => rfl
 | cons i k r _ ih => simp [Fo.app, Aq, ih]
theorem a9q (a b : List (Inf × Nat)) : Jx (a ++ b) = max (Jx a) (Jx b) := by
 induction a with
 | nil => simp [Jx]
 | cons x l ih => simp [Jx, ih, Nat.max_assoc]
theorem b5p (F G : Fo) : dpF (F.app G) = dpF F ++ dpF G := by
 induction F with
 | nil => rfl
 | cons i k r _ ih => simp [Fo.app, dpF, ih]
def Ge (i : Inf) (k : Fo) : Prop := Eo i k = true ∧ A0 k = true ∧ 21 <= i.kind ∧ i.kind <= 32
def Dx (L d : Nat) (F : Fo) (ts r : List Tok) : Prop := (∃ i k, F = .cons i k .nil ∧ Ge i k ∧ d + BD L i k <= 40) ∧ wF F + wL r <= wL ts ∧ WfL r
def DxP (L : Nat) (p : Pt) : Prop := ∀ d ts F r, d <= 40 -> WfL ts -> p d ts = .ok F r -> Dx L d F ts r
theorem b56 {L L' : Nat} {i : Inf} {k : Fo} (h : L <= L') : BD L i k <= BD L' i k := by
 by_cases h1 : lvl i < L
 ·rw [N2 h1, N2 (by omega)]; exact Nat.le_refl _
 ·rw [Hk h1];by_cases h2 : lvl i < L'
  ·rw [N2 h2]; omega
  ·rw [Hk h2]; exact Nat.le_refl _
theorem Dx.mono {L L' d : Nat} {F : Fo} {ts r : List Tok} (h : Dx L' d F ts r) (hl : L <= L') : Dx L d F ts r := by
 obtain ⟨⟨i, k, h1, h2, h3⟩, h4⟩ := h;exact ⟨⟨i, k, h1, h2, by have := b56 (i := i) (k := k) hl; omega⟩, h4⟩
theorem Ge.lvl {i : Inf} {k : Fo} (h : Ge i k) : 1 <= YtoaplbljflhheaaGreat.lvl i := (b2d _ i k (Nat.lt_succ_self _) h.1 h.2.1 h.2.2.1 h.2.2.2).2
theorem O1 {t : Tok} {q : Nat × List UInt8} (h : Lc t = some q) : (q = (19, t.text) ∧ t.kind = 2) ∨ (q.2 = [] ∧ 15 <= q.1 ∧ q.1 <= 18) := by
 unfold Lc at h;split at h
 ·rename_i h2;cases h;exact .inl ⟨rfl, h2⟩
 ·right
  repeat' split at h
  all_goals first | (cases h; simp) | cases h
end
section
section
variable {E : Pt} (hE : DxP 1 E)
include hE
end
end
section
end
section
def SmT (ts us : List Tok) : Prop := ts.map tkB = us.map tkB
def SmO : Out -> Out -> Prop
 | .ok F r, .ok G q => Ax F = Ax G ∧ SmT r q
 | .bad c _ _, .bad c' _ _ => c = c'
 | _, _ => False
def Npl (p : Pt) : Prop := ∀ d ts us, SmT ts us -> SmO (p d ts) (p d us)
theorem SmT.tail {ts us : List Tok} (h : SmT ts us) : SmT ts.tail us.tail := by
 unfold SmT at *;rw [List.map_tail, List.map_tail, h]
theorem SmT.hd {ts us : List Tok} (h : SmT ts us) : tkB (hd ts) = tkB (hd us) := by
 unfold SmT at h
 cases ts with
 | nil =>
  cases us with
  | nil => rfl
  | cons y l => cases h
 | cons x k =>
  cases us with
  | nil => cases h
  | cons y l => simp at h; exact h.1
theorem SmT.kind {ts us : List Tok} (h : SmT ts us) : (YtoaplbljflhheaaGreat.hd ts).kind = (YtoaplbljflhheaaGreat.hd us).kind := by have := congrArg Tok.kind h.hd; exact this
theorem SmT.text {ts us : List Tok} (h : SmT ts us) : (YtoaplbljflhheaaGreat.hd ts).text = (YtoaplbljflhheaaGreat.hd us).text := by have := congrArg Tok.text h.hd; exact this
theorem SmT.num {ts us : List Tok} (h : SmT ts us) : (YtoaplbljflhheaaGreat.hd ts).num = (YtoaplbljflhheaaGreat.hd us).num := by have := congrArg Tok.num h.hd; exact this
theorem SmT.sees {ts us : List Tok} (h : SmT ts us) (x : List UInt8) : sees x ts = sees x us := by
 unfold YtoaplbljflhheaaGreat.sees Lr;rw [h.kind, h.text]
theorem SmT.anyS {ts us : List Tok} (h : SmT ts us) (S : List (List UInt8)) : anyS S ts = anyS S us := by
 unfold YtoaplbljflhheaaGreat.anyS;congr 1;funext x;exact h.sees x
theorem D0 (F G : Fo) : Ax (F.app G) = (Ax F).app (Ax G) := by
 induction F with
 | nil => rfl
 | cons i k r _ ih => simp [Fo.app, Ax, ih]
theorem SmO.bind {o o' : Out} {f g : Fo -> List Tok -> Out} (h : SmO o o') (k : ∀ F G r q, Ax F = Ax G -> SmT r q -> SmO (f F r) (g G q)) : SmO (o.bind f) (o'.bind g) := by
 cases o with
 | ok F r =>
  cases o' with
  | ok G q => exact k F G r q h.1 h.2
  | bad => exact h.elim
 | bad c l m =>
  cases o' with
  | ok G q => exact h.elim
  | bad => exact h
theorem Hb : Npl Bb := fun d ts us h => ⟨rfl, h⟩
theorem Ha : Npl Jm := fun d ts us h => rfl
theorem Fl (x : List UInt8) : Npl (take x) := fun d ts us h => by
 unfold take Jv;rw [h.sees];split
 ·exact ⟨rfl, h.tail⟩
 ·exact rfl
theorem Mk (k : Nat) : Npl (Hc k) := fun d ts us h => by
 unfold Hc Jv;show SmO (if decide ((YtoaplbljflhheaaGreat.hd ts).kind = k) = true then _ else _) (if decide ((YtoaplbljflhheaaGreat.hd us).kind = k) = true then _ else _);rw [h.kind];split
 ·exact ⟨rfl, h.tail⟩
 ·exact rfl
theorem H4 {a b : Pt} (ha : Npl a) (hb : Npl b) : Npl (Fd a b) := fun d ts us h =>
 (ha d ts us h).bind fun F G r q e1 e2 => (hb d r q e2).bind fun F' G' r' q' e3 e4 => ⟨by rw [D0, D0, e1, e3], e4⟩
theorem Ir {p : Pt} (hp : Npl p) : Npl (Ci p) := fun d ts us h => hp d _ _ h.tail
theorem H5 {a b : Pt} (x : List UInt8) (ha : Npl a) (hb : Npl b) : Npl (Hp x a b) := fun d ts us h => by
 unfold Hp;rw [h.sees];split
 ·exact ha d _ _ h
 ·exact hb d _ _ h
theorem M7 {p : Pt} (hp : Npl p) : Npl (C9 p) := fun d ts us h => by
 unfold C9;split
 ·exact rfl
 ·exact hp _ _ _ h.tail
theorem Dw {p : Pt} (o c : List UInt8) (hp : Npl p) : Npl (Az o c p) := fun d ts us h => by
 unfold Az;rw [h.sees];split
 ·exact H4 (M7 hp) (Fl c) d _ _ h
 ·exact rfl
theorem Fm {mk : List Tok -> Inf} {p : Pt} (hm : ∀ ts us, SmT ts us -> Gj (mk ts) = Gj (mk us)) (hp : Npl p) : Npl (B7 mk p) := fun d ts us h =>
 (hp d ts us h).bind fun F G r q e1 e2 => ⟨by simp only [Ax]; rw [hm ts us h, e1], e2⟩
theorem c1e (k : Nat) (ts us : List Tok) (h : SmT ts us) : Gj (mkK k ts) = Gj (mkK k us) := rfl
theorem c29 (k : Nat) (n : Int) (ts us : List Tok) (h : SmT ts us) : Gj (mkN k n ts) = Gj (mkN k n us) := rfl
theorem c2e (k : Nat) (ts us : List Tok) (h : SmT ts us) : Gj (mkX k ts) = Gj (mkX k us) := by simp [Gj, mkX, h.text]
theorem c2d (k : Nat) (ts us : List Tok) (h : SmT ts us) : Gj (mkY k ts) = Gj (mkY k us) := by simp [Gj, mkY, h.tail.text]
theorem Pm {p : Pt} (x : List UInt8) (hp : Npl p) : ∀ n, Npl (Cx x p n)
 | 0 => Ha
 | n + 1 => fun d ts us h => by
  unfold Cx;rw [h.sees];split
  ·exact ⟨rfl, h⟩
  ·exact (hp d _ _ h).bind fun F G r q e1 e2 => (Pm x hp n d r q e2).bind fun F' G' r' q' e3 e4 => ⟨by rw [D0, D0, e1, e3], e4⟩
theorem Y6 {p : Pt} (hp : Npl p) : ∀ n, Npl (I8 p n)
 | 0 => Ha
 | n + 1 => fun d ts us h => by
  unfold I8;refine (hp d _ _ h).bind fun F G r q e1 e2 => ?_
  rw [e2.sees];split
  ·exact (Y6 hp n d _ _ e2.tail).bind fun F' G' r' q' e3 e4 => ⟨by rw [D0, D0, e1, e3], e4⟩
  ·exact ⟨e1, e2⟩
theorem Ro {p : Pt} (hp : Npl p) (n : Nat) : Npl (Ee p n) := H5 _ Hb (Y6 hp n)
theorem T3 {p : Pt} (hp : Npl p) {F G : Fo} (hF : Ax F = Ax G) (d : Nat) {ts us : List Tok} (h : SmT ts us) : SmO (Ds p F d ts) (Ds p G d us) :=
 (hp d _ _ h.tail).bind fun F' G' r q e1 e2 => ⟨by simp only [Ax, D0, hF, e1, Gj]; rw [h.text], e2⟩
theorem Yf {p : Pt} (hp : Npl p) (S : List (List UInt8)) : ∀ n {F G : Fo}, Ax F = Ax G -> ∀ d {ts us : List Tok}, SmT ts us -> SmO (C4 p S n F d ts) (C4 p S n G d us)
 | 0, _, _, _, _, _, _, _ => rfl
 | n + 1, F, G, hF, d, ts, us, h => by
  unfold C4;rw [h.anyS];split
  ·exact (T3 hp hF d h).bind fun F' G' r q e1 e2 => Yf hp S n e1 d e2
  ·exact ⟨hF, h⟩
theorem Ml {p : Pt} (hp : Npl p) (S : List (List UInt8)) (n : Nat) : Npl (Dc p S n) := fun d ts us h =>
 (hp d _ _ h).bind fun F G r q e1 e2 => Yf hp S n e1 d e2
theorem Y5 {p : Pt} (hp : Npl p) (S : List (List UInt8)) : Npl (Ld p S) := fun d ts us h =>
 (hp d _ _ h).bind fun F G r q e1 e2 => by
  rw [e2.anyS];split
  ·exact T3 hp e1 d e2
  ·exact ⟨e1, e2⟩
theorem b69 {t u : Tok} (h : tkB t = tkB u) : Lc t = Lc u := by
 have h1 : t.kind = u.kind := by have := congrArg Tok.kind h; exact this
 have h2 : t.text = u.text := by have := congrArg Tok.text h; exact this
 unfold Lc;rw [h1, h2]
theorem b5s {t u : Tok} (h : tkB t = tkB u) : Cc t = Cc u := by
 have h1 : t.kind = u.kind := by have := congrArg Tok.kind h; exact this
 have h2 : t.text = u.text := by have := congrArg Tok.text h; exact this
 have h3 : t.num = u.num := by have := congrArg Tok.num h; exact this
 unfold Cc;rw [h1, h2, h3]
theorem Uz : Npl Ba := fun d ts us h => by
 unfold Ba;rw [b69 h.hd];split
 ·exact ⟨rfl, h.tail⟩
 ·exact rfl
theorem Nv {p : Pt} (hp : Npl p) : Npl (Bq p) := Fm (c1e 20) (Dw _ _ hp)
theorem Mj : ∀ n, Npl (Eb n)
 | 0 => Ha
 | n + 1 => H5 _ (Nv (Mj n)) Uz
theorem a4d : Npl Hv := fun d ts us h => by
 unfold Hv;rw [b5s h.hd];split
 ·exact ⟨rfl, h.tail⟩
 ·exact rfl
section
variable {E : Pt} (hE : Npl E) (n : Nat)
include hE
theorem a9e : Npl (H7 E n) := fun d ts us h => by
 unfold H7;rw [h.tail.sees];split
 ·exact Fm (c2e 27) (Ir (Dw _ _ (Ro hE n))) d _ _ h
 ·exact ⟨by simp only [Ax]; rw [c2e 26 _ _ h], h.tail⟩
theorem a9f : Npl (Lu E n) := Fm (c1e 32) (Ir fun d ts us h => by
 show SmO (if _ then _ else _) (if _ then _ else _);rw [h.kind];split
 ·exact H4 Uz (Dw _ _ Hb) d _ _ h
 ·exact H4 (Nv (Mj n)) (Dw _ _ hE) d _ _ h)
theorem a9i : Npl (Fk E n) := fun d ts us h => by
 unfold Fk;rw [h.sees, h.sees, h.kind];split
 ·exact Dw _ _ hE d _ _ h
 ·split
  ·exact a9f hE n d _ _ h
  ·split
   ·exact a9e hE n d _ _ h
   ·exact a4d d _ _ h
theorem Wm : ∀ n {F G : Fo}, Ax F = Ax G -> ∀ d {ts us : List Tok}, SmT ts us -> SmO (Dl E n F d ts) (Dl E n G d us)
 | 0, _, _, _, _, _, _, _ => rfl
 | n + 1, F, G, hF, d, ts, us, h => by
  unfold Dl;rw [h.sees, h.sees];split
  ·exact (Dw _ _ hE d _ _ h).bind fun F' G' r q e1 e2 => Wm n (by simp only [Ax, D0, hF, e1]; rfl) d e2
  ·split
   ·exact (Mk 1 d _ _ h.tail).bind fun F' G' r q e1 e2 => Wm n (by simp only [Ax, hF]; rw [c2d 29 _ _ h]) d e2
   ·exact ⟨hF, h⟩
theorem a9d : Npl (I7 E n) := fun d ts us h => (a9i hE n d _ _ h).bind fun F G r q e1 e2 => Wm hE n e1 d e2
end
theorem a4c {U p : Pt} (hU : Npl U) (hp : Npl p) : Npl (Dm U p) := fun d ts us h => by
 unfold Dm;rw [h.sees, h.sees];split
 ·exact Fm (c29 30 12) (M7 hU) d _ _ h
 ·split
  ·exact Fm (c29 30 13) (M7 hU) d _ _ h
  ·exact hp d _ _ h
theorem b9f {u : Pt} (h : Npl u) (n : Nat) : Npl (orP u n) := Ml (Ml (Y5 (Y5 (Ml (Ml h _ n) _ n) _) _) _ n) _ n
theorem b18 : ∀ n, Npl (Bu n) ∧ Npl (unP n)
 | 0 => ⟨Ha, Ha⟩
 | n + 1 => by
  obtain ⟨h1, h2⟩ := b18 n;have h := a4c h2 (a9d h1 (n + 1));exact ⟨b9f h (n + 1), h⟩
theorem a9g (n : Nat) : Npl (Bu n) := (b18 n).1
theorem a4b {p : Pt} (h : Npl p) {ts us : List Tok} (e : SmT ts us) : SmO (Ig p ts) (Ig p us) :=
 (h 0 _ _ e).bind fun F G r q e1 e2 => by
  rw [e2.kind];split
  ·exact ⟨e1, e2⟩
  ·exact rfl
theorem Sl : ∀ {l : List Pt}, (∀ p ∈ l, Npl p) -> Npl (Cv l)
 | [], _ => Hb
 | p :: l, h => H4 (h p (by simp)) (Sl fun q hq => h q (by simp [hq]))
theorem Kw {k : Nat} {l : List Pt} (h : ∀ p ∈ l, Npl p) : Npl (C6 k l) := Fm (c1e k) (Ir (Sl h))
theorem a3b {F G : Fo} (h : Ax F = Ax G) : Ho F = Ho G := by
 cases F with
 | nil =>
  cases G with
  | nil => rfl
  | cons => cases h
 | cons i k r =>
  cases G with
  | nil => cases h
  | cons j m q =>
   simp only [Ax, Fo.cons.injEq] at h;have := congrArg Inf.kind h.1;exact this
theorem b4l {E : Pt} (hE : Npl E) : Npl (M2 E) := fun d ts us h => (hE d _ _ h).bind fun F G r q e1 e2 => by
 rw [a3b e1];split
 ·exact (H4 (Fl _) (H4 hE (Fl _)) d _ _ e2).bind fun F' G' r' q' e3 e4 => ⟨by simp only [Ax, D0, e1, e3]; rfl, e4⟩
 ·split
  ·exact (Fl _ d _ _ e2).bind fun F' G' r' q' e3 e4 => ⟨by simp only [Ax, D0, e1, e3]; rfl, e4⟩
  ·exact rfl
theorem a01 {E B : Pt} (hE : Npl E) (hB : Npl B) (n : Nat) : Npl (Ik E B n) := by
 refine H5 _ (Fm (c2d 7) (Ir (Sl fun p hp => ?_))) (H5 _ (Kw fun p hp => ?_) (H5 _ (Kw fun p hp => ?_) (H5 _ (Kw fun p hp => ?_) (H5 _ (Kw fun p hp => ?_) (b4l hE)))))
 ·simp only [List.mem_cons, List.not_mem_nil, or_false] at hp;rcases hp with rfl | rfl | rfl | rfl | rfl | rfl <;> first | exact Mk _ | exact Fl _ | exact Mj _ | exact hE
 ·simp only [List.mem_cons, List.not_mem_nil, or_false] at hp;rcases hp with rfl | rfl | rfl <;> first | exact hE | exact hB | exact H5 _ (Ir hB) Hb
 ·simp only [List.mem_cons, List.not_mem_nil, or_false] at hp;rcases hp with rfl | rfl <;> first | exact hE | exact hB
 ·simp only [List.mem_cons, List.not_mem_nil, or_false] at hp;rcases hp with rfl | rfl <;> first | exact Fl _ | exact H5 _ Hb hE
 ·simp only [List.mem_cons, List.not_mem_nil, or_false] at hp;rcases hp with rfl | rfl <;> first | exact Fl _ | exact hE
theorem U0 {S : Pt} (h : Npl S) (n : Nat) : Npl (Fb S n) := Fm (c1e 6) (Dw _ _ (Pm _ h n))
theorem Y4 : ∀ n, Npl (L7 n)
 | 0 => Ha
 | n + 1 => a01 (a9g _) (U0 (Y4 n) n) _
theorem Ux (k n : Nat) : Npl (Er k n) := Fm (c2e k) (Sl fun p hp => by
 simp only [List.mem_cons, List.not_mem_nil, or_false] at hp
 rcases hp with rfl | rfl | rfl <;> first | exact Mk _ | exact Fl _ | exact Mj _)
theorem b4m (n : Nat) : Npl (a8n n) := Fm (c2d 2) (Ir (H4 (Mk 2) (Dw _ _ (Pm _ (H4 (Ux 3 n) (Fl _)) n))))
theorem a02 (n : Nat) : Npl (Gb n) := fun d ts us h => by
 unfold Gb;rw [h.sees];split
 ·exact Mj n d _ _ h.tail
 ·exact ⟨rfl, h⟩
theorem Ru (F : Fo) : (Ax F).post.map (·.kind) = F.post.map (·.kind) := by
 induction F with
 | nil => rfl
 | cons i k r ihk ihr => simp [Ax, Fo.post, ihk, ihr, Inf.nd, Gj]
theorem a1l (k : Nat) (l m : List Nd) (h : l.map (·.kind) = m.map (·.kind)) : Lm k l = Lm k m := by
 have e : ∀ l : List Nd, Lm k l = ((l.map (·.kind)).filter fun x => decide (x = k)).length := fun l => by
  rw [List.filter_map, List.length_map]; rfl
 rw [e, e, h]
theorem b9g (n : Nat) : Npl (fnP n) := fun d ts us h => (Fl _ d _ _ h).bind fun _ _ r q _ e0 =>
 (H4 (Mk 1) (Dw _ _ (Ro (Ux 5 n) n)) d _ _ e0).bind fun F G r1 q1 e1 e2 =>
  (H4 (a02 n) (U0 (Y4 n) n) d _ _ e2).bind fun F' G' r2 q2 e3 e4 => ⟨by
   have hc : Lm 5 F.post = Lm 5 G.post := a1l _ _ _ (by rw [<- Ru F, <- Ru G, e1]);simp only [Ax, D0, e1, e3, Gj]
   rw [e0.text, hc], e4⟩
theorem a9h (n : Nat) : Npl (Ia n) := H5 _ (b4m n) (b9g n)
theorem Uy {p : Pt} (hp : Npl p) : ∀ n, Npl (Ip p n)
 | 0 => Ha
 | n + 1 => fun d ts us h => by
  unfold Ip;rw [h.kind];split
  ·exact ⟨rfl, h⟩
  ·exact (hp d _ _ h).bind fun F G r q e1 e2 => (Uy hp n d r q e2).bind fun F' G' r' q' e3 e4 => ⟨by rw [D0, D0, e1, e3], e4⟩
theorem a9c (n : Nat) : Npl (Ju n) := fun d ts us h => (Uy (a9h n) n d _ _ h).bind fun F G r q e1 e2 => ⟨by simp only [Ax, e1], e2⟩
end
section
def Gs (p : Pt) (T : List Tok) (F : Fo) (D : Nat) (Q : List Tok -> Prop) : Prop := ∀ d r, d <= 40 -> Q r -> CG (p d (T ++ r)) (.ok F r) (d + D <= 40)
def Any (r : List Tok) : Prop := True
def Sgn (x : List UInt8) (r : List Tok) : Prop := ∃ q, r = sg x :: q
theorem Gs.weak {p : Pt} {T : List Tok} {F : Fo} {D : Nat} {Q R : List Tok -> Prop} (h : Gs p T F D Q) (k : ∀ r, R r -> Q r) : Gs p T F D R := fun d r hd hr => h d r hd (k r hr)
theorem K3 (Q : List Tok -> Prop) : Gs Bb [] .nil 0 Q := fun d r hd _ => .inl ⟨hd, rfl⟩
theorem Ht {p q : Pt} {T U : List Tok} {F G : Fo} {D E : Nat} {Q R : List Tok -> Prop} (h : Gs p T F D Q) (k : Gs q U G E R) (e : ∀ r, R r -> Q (U ++ r)) : Gs (Fd p q) (T ++ U) (F.app G) (max D E) R := fun d r hd hr => by
 unfold Fd;rw [List.append_assoc];refine ((h d (U ++ r) hd (e r hr)).bind (X := .ok (F.app G) r) (c := d + E <= 40) ?_).imp (by omega);exact ((k d r hd hr).bind (f := fun G r' => Out.ok (F.app G) r') (X := .ok (F.app G) r) (c := True) (CG.ok trivial)).imp (by simp)
theorem Hf (x : List UInt8) : Gs (take x) [sg x] .nil 0 Any := fun d r hd _ => by
 refine .inl ⟨hd, ?_⟩;unfold take Jv;show (if sees x (sg x :: r) = true then _ else _) = _;rw [A9, decide_eq_true rfl, if_pos rfl];rfl
theorem S1 {k : Nat} {t : Tok} (h : t.kind = k) : Gs (Hc k) [t] .nil 0 Any := fun d r hd _ => by
 refine .inl ⟨hd, ?_⟩;unfold Hc Jv;show (if decide (t.kind = k) = true then Out.ok .nil r else _) = _;rw [h, decide_eq_true rfl, if_pos rfl]
theorem Gx {p : Pt} {T : List Tok} {F : Fo} {D : Nat} {Q : List Tok -> Prop} (t : Tok) (h : Gs p T F D Q) : Gs (Ci p) (t :: T) F D Q := fun d r hd hr => h d r hd hr
theorem H9 {mk : List Tok -> Inf} {p : Pt} {T : List Tok} {F : Fo} {D : Nat} {Q : List Tok -> Prop} {i : Inf} (h : Gs p T F D Q) (e : ∀ r, Q r -> mk (T ++ r) = i) : Gs (B7 mk p) T (.cons i F .nil) D Q := fun d r hd hr => by
 unfold B7;rw [e r hr];exact ((h d r hd hr).bind (X := .ok (.cons i F .nil) r) (c := True) (CG.ok trivial)).imp (by simp)
theorem He {x : List UInt8} {a b : Pt} {T : List Tok} {F : Fo} {D : Nat} {Q : List Tok -> Prop} (h : Gs a T F D Q) (e : ∀ r, Q r -> sees x (T ++ r) = true) : Gs (Hp x a b) T F D Q := fun d r hd hr => by
 unfold Hp;rw [e r hr, if_pos rfl];exact h d r hd hr
theorem Ch {x : List UInt8} {a b : Pt} {T : List Tok} {F : Fo} {D : Nat} {Q : List Tok -> Prop} (h : Gs b T F D Q) (e : ∀ r, Q r -> sees x (T ++ r) = false) : Gs (Hp x a b) T F D Q := fun d r hd hr => by
 unfold Hp;rw [e r hr, if_neg (by decide)];exact h d r hd hr
theorem P1 {o c : List UInt8} {p : Pt} {T : List Tok} {F : Fo} {D : Nat} (h : Gs p T F D (Sgn c)) : Gs (Az o c p) (sg o :: (T ++ [sg c])) F (1 + D) Any := fun d r hd _ => by
 have e : sg o :: (T ++ [sg c]) ++ r = sg o :: (T ++ sg c :: r) := by simp
 rw [e];exact (G7 hd fun _ => h (d + 1) (sg c :: r) (by omega) ⟨r, rfl⟩).imp (by omega)
def Nn (r : List Tok) : Prop := Stp 1 r ∧ Po r
theorem b44 {i : Inf} {k : Fo} (hg : Eo i k = true) (hG : A0 k = true) (k1 : 21 <= i.kind) (k2 : i.kind <= 32) {n : Nat} (hn : (TK i k).length < n) : Gs (Bu n) (TK i k) (BE i k) (DP i k) Nn := fun d r hd hr => by
 have hc := b2d _ i k (Nat.lt_succ_self _) hg hG k1 k2;have e1 : BT 1 i k = TK i k := Gh (by omega);have e2 : BD 1 i k = DP i k := Hk (by omega);have hA := hc.1.A 1 n d r (Nat.le_refl _) (by omega) (by rw [e1]; exact hn) hd hr.1 hr.2;rw [e1, e2] at hA;obtain ⟨m, rfl⟩ : ∃ m, n = m + 1 := ⟨n - 1, by omega⟩;exact hA
theorem b43 {i : Inf} {k : Fo} (hg : Eo i k = true) (hG : A0 k = true) (k1 : 15 <= i.kind) (k2 : i.kind <= 20) {n : Nat} (hn : (TK i k).length < n) : Gs (Eb n) (TK i k) (BE i k) (DP i k) Any := fun d r hd _ =>
 b2c _ i k (Nat.lt_succ_self _) hg hG k1 k2 n d r hn hd
end
section
def Al (P : Inf -> Fo -> Prop) : Fo -> Prop
 | .nil => True
 | .cons i k r => P i k ∧ Al P r
def Gl : Fo -> Nat
 | .nil => 0
 | .cons _ _ r => Gl r + 1
def Iw (F : Fo) : List Tok := (tkF F).flatMap fun x => x.2
theorem G1 (i : Inf) (k r : Fo) : Iw (.cons i k r) = TK i k ++ Iw r := by simp [Iw, tkF]
theorem Ze {x : List UInt8} {p : Pt} {Q : List Tok -> Prop} (hQ : ∀ r, Sgn x r -> Q r) : ∀ (F : Fo) n, Gl F < n ->
  Al (fun i k => Gs p (TK i k) (BE i k) (DP i k) Q ∧ ∀ r, sees x (TK i k ++ r) = false ∧ Q (TK i k ++ r)) F -> Gs (Cx x p n) (Iw F) (Ax F) (Jx (dpF F)) (Sgn x) := by
 intro F
 induction F with
 | nil =>
  intro n hn _ d r hd hr;obtain ⟨n, rfl⟩ : ∃ m, n = m + 1 := ⟨n - 1, by omega⟩;obtain ⟨q, rfl⟩ := hr;refine .inl ⟨hd, ?_⟩;show (if sees x (sg x :: q) = true then _ else _) = _;rw [A9, decide_eq_true rfl, if_pos rfl]
  rfl
 | cons i k r _ ihr =>
  intro n hn hA d q hd hq;simp only [Gl] at hn;obtain ⟨n, rfl⟩ : ∃ m, n = m + 1 := ⟨n - 1, by omega⟩;have ih := ihr n (by omega) hA.2 d q hd hq
  have h1 := hA.1.1 d (Iw r ++ q) hd (by
   cases r with
   | nil => exact hQ _ hq
   | cons j m t => rw [G1, List.append_assoc]; exact (hA.2.1.2 _).2)
  rw [G1, List.append_assoc];unfold Cx;rw [(hA.1.2 _).1, if_neg (by decide)];refine (h1.bind (X := .ok (Ax (.cons i k r)) q) (c := d + Jx (dpF r) <= 40) ?_).imp ?_
  ·exact (ih.bind (f := fun G r' => Out.ok ((BE i k).app G) r') (X := .ok (Ax (.cons i k r)) q) (c := True) (CG.ok trivial)).imp (by simp)
  ·show d + DP i k <= 40 ∧ d + Jx (dpF r) <= 40 ↔ d + max (DP i k) (Jx (dpF r)) <= 40;omega
theorem a5a {p : Pt} {T : List Tok} {F : Fo} {D : Nat} {Q : List Tok -> Prop} (h : Gs p T F D Q) : Gs (Cv [p]) T F D Q := by
 have := Ht h (K3 Q) (fun r hr => hr);rw [List.append_nil, Nl, Nat.max_eq_left (Nat.zero_le _)] at this;exact this
theorem P2 {p q : Pt} {T U : List Tok} {F G : Fo} {D E : Nat} {Q R : List Tok -> Prop} (h : Gs p T F D Q) (k : Gs q U G E R) (e : ∀ r, R r -> Q (U ++ r)) : Gs (Cv [p, q]) (T ++ U) (F.app G) (max D E) R := Ht h (a5a k) e
theorem Xr {p q s : Pt} {T U V : List Tok} {F G H : Fo} {D E C : Nat} {Q R S : List Tok -> Prop} (h : Gs p T F D Q) (k : Gs q U G E R) (l : Gs s V H C S) (e : ∀ r, R r -> Q (U ++ r)) (e' : ∀ r, S r -> R (V ++ r)) (e'' : ∀ r, S r -> Q (U ++ (V ++ r))) : Gs (Cv [p, q, s]) (T ++ (U ++ V)) (F.app (G.app H)) (max D (max E C)) S :=
 Ht h (P2 k l e') (fun r hr => by rw [List.append_assoc]; exact e'' r hr)
theorem b0a {i : Inf} {F : Fo} {p : Pt} {n : Nat} {Q : List Tok -> Prop} (hi : i.kind = 6 ∧ i.num = 0 ∧ i.text = []) (hQ : ∀ r, Sgn [125] r -> Q r) (hn : Gl F < n)
  (hA : Al (fun i k => Gs p (TK i k) (BE i k) (DP i k) Q ∧ ∀ r, sees [125] (TK i k ++ r) = false ∧ Q (TK i k ++ r)) F) : Gs (Fb p n) (TK i F) (BE i F) (DP i F) Any := by
 obtain ⟨kd, ln, cl, num, tx⟩ := i;obtain ⟨rfl, rfl, rfl⟩ := hi;have h := H9 (mk := mkK 6) (i := ⟨6, 0, 0, 0, []⟩) (P1 (o := [123]) (Ze hQ F n hn hA)) (fun r _ => rfl)
 have e : TK ⟨6, ln, cl, 0, []⟩ F = sg [123] :: (Iw F ++ [sg [125]]) := by
  show [sg [123]] ++ Iw F ++ [sg [125]] = _;simp
 rw [e];exact h
end
section
theorem Gs.cast {p : Pt} {T T' : List Tok} {F F' : Fo} {D D' : Nat} {Q : List Tok -> Prop} (h : Gs p T F D Q) (eT : T = T') (eF : F = F') (eD : D = D') : Gs p T' F' D' Q := by
 subst eT eF eD; exact h
theorem Hh {x : List UInt8} (h : x = [59] ∨ x = [61] ∨ x = [123]) (r : List Tok) : Nn (sg x :: r) := by
 rcases h with rfl | rfl | rfl
 ·exact ⟨J3 (by decide) _ _, Qs (by decide) _⟩
 ·exact ⟨J3 (by decide) _ _, Qs (by decide) _⟩
 ·exact ⟨J3 (by decide) _ _, Qs (by decide) _⟩
def b6p (r : List Tok) : Prop := sees [101, 108, 115, 101] r = false
theorem J2 {x y : List UInt8} (h : ¬ y = x) (r : List Tok) : sees x (wd y :: r) = false := by rw [Sa, decide_eq_false h]
theorem Lg (x : List UInt8) (r : List Tok) : sees x (wd x :: r) = true := by rw [Sa, decide_eq_true rfl]
variable {E : Pt} {n : Nat}
theorem b91 {ln cl : Nat} {tx : List UInt8} {it ie : Inf} {kt ke : Fo} (hT : Gs (Eb n) (TK it kt) (BE it kt) (DP it kt) Any) (hE : Gs E (TK ie ke) (BE ie ke) (DP ie ke) Nn) :
  Gs (a14 E n) (TK ⟨7, ln, cl, 0, tx⟩ (.cons it kt (.cons ie ke .nil))) (BE ⟨7, ln, cl, 0, tx⟩ (.cons it kt (.cons ie ke .nil))) (DP ⟨7, ln, cl, 0, tx⟩ (.cons it kt (.cons ie ke .nil))) Any := by
 have h5 := Ht hE (a5a (Hf [59])) (fun r _ => Hh (.inl rfl) r);have h4 := Ht (Hf [61]) h5 (fun _ _ => trivial);have h3 := Ht hT h4 (fun _ _ => trivial);have h2 := Ht (Hf [58]) h3 (fun _ _ => trivial);have h1 := Ht (S1 (t := nmT tx) (k := 1) rfl) h2 (fun _ _ => trivial);refine (H9 (mk := mkY 7) (i := ⟨7, 0, 0, 0, tx⟩) (Gx (wd [118, 97, 114]) h1) (fun r _ => rfl)).cast ?_ rfl ?_
 ·show _ = [wd [118, 97, 114], nmT tx, sg [58]] ++ TK it kt ++ [sg [61]] ++ TK ie ke ++ [sg [59]];simp
 ·show _ = max (DP it kt) (DP ie ke);omega
theorem a93 {ln cl : Nat} {ie ib : Inf} {ke kb : Fo} {B : Pt} (hE : Gs E (TK ie ke) (BE ie ke) (DP ie ke) Nn) (hB : Gs B (TK ib kb) (BE ib kb) (DP ib kb) Any) (hb : ∃ q, TK ib kb = sg [123] :: q) :
  Gs (C6 10 [E, B]) (TK ⟨10, ln, cl, 0, []⟩ (.cons ie ke (.cons ib kb .nil))) (BE ⟨10, ln, cl, 0, []⟩ (.cons ie ke (.cons ib kb .nil))) (DP ⟨10, ln, cl, 0, []⟩ (.cons ie ke (.cons ib kb .nil))) Any := by
 have h := P2 hE hB (fun r _ => by obtain ⟨q, e⟩ := hb; rw [e]; exact Hh (.inr (.inr rfl)) _);refine (H9 (mk := mkK 10) (i := ⟨10, 0, 0, 0, []⟩) (Gx (wd [119, 104, 105, 108, 101]) h) (fun r _ => rfl)).cast ?_ rfl rfl;show _ = [wd [119, 104, 105, 108, 101]] ++ TK ie ke ++ TK ib kb;simp
theorem a96 {ln cl : Nat} {ie : Inf} {ke : Fo} (hE : Gs E (TK ie ke) (BE ie ke) (DP ie ke) Nn) :
  Gs (C6 12 [E, take [59]]) (TK ⟨12, ln, cl, 0, []⟩ (.cons ie ke .nil)) (BE ⟨12, ln, cl, 0, []⟩ (.cons ie ke .nil)) (DP ⟨12, ln, cl, 0, []⟩ (.cons ie ke .nil)) Any := by
 have h := P2 hE (Hf [59]) (fun r _ => Hh (.inl rfl) r);refine (H9 (mk := mkK 12) (i := ⟨12, 0, 0, 0, []⟩) (Gx (wd [112, 114, 105, 110, 116]) h) (fun r _ => rfl)).cast ?_ rfl ?_
 ·show _ = [wd [112, 114, 105, 110, 116]] ++ TK ie ke ++ [sg [59]];simp
 ·show _ = DP ie ke;omega
theorem a1a {ln cl : Nat} : Gs (C6 11 [Jj E, take [59]]) (TK ⟨11, ln, cl, 0, []⟩ .nil) (BE ⟨11, ln, cl, 0, []⟩ .nil) (DP ⟨11, ln, cl, 0, []⟩ .nil) Any := by
 have h0 : Gs (Jj E) [] .nil 0 (Sgn [59]) := He (K3 _) (fun r hr => by obtain ⟨q, rfl⟩ := hr; show sees [59] (sg [59] :: q) = true; rw [A9]; rfl);have h := P2 h0 (Hf [59]) (fun r _ => ⟨r, rfl⟩);exact (H9 (mk := mkK 11) (i := ⟨11, 0, 0, 0, []⟩) (Gx (wd [114, 101, 116, 117, 114, 110]) h) (fun r _ => rfl)).cast rfl rfl rfl
theorem a09 {ln cl : Nat} {ie : Inf} {ke : Fo} (hE : Gs E (TK ie ke) (BE ie ke) (DP ie ke) Nn) (h59 : ∀ r, sees [59] (TK ie ke ++ r) = false) :
  Gs (C6 11 [Jj E, take [59]]) (TK ⟨11, ln, cl, 0, []⟩ (.cons ie ke .nil)) (BE ⟨11, ln, cl, 0, []⟩ (.cons ie ke .nil)) (DP ⟨11, ln, cl, 0, []⟩ (.cons ie ke .nil)) Any := by
 have h0 : Gs (Jj E) (TK ie ke) (BE ie ke) (DP ie ke) Nn := Ch hE (fun r _ => h59 r);have h := P2 h0 (Hf [59]) (fun r _ => Hh (.inl rfl) r);refine (H9 (mk := mkK 11) (i := ⟨11, 0, 0, 0, []⟩) (Gx (wd [114, 101, 116, 117, 114, 110]) h) (fun r _ => rfl)).cast ?_ rfl ?_
 ·show _ = [wd [114, 101, 116, 117, 114, 110]] ++ TK ie ke ++ [sg [59]];simp
 ·show _ = DP ie ke;omega
theorem b94 {ln cl : Nat} {ie ib : Inf} {ke kb : Fo} {B : Pt} (hE : Gs E (TK ie ke) (BE ie ke) (DP ie ke) Nn) (hB : Gs B (TK ib kb) (BE ib kb) (DP ib kb) Any) (hb : ∃ q, TK ib kb = sg [123] :: q) :
  Gs (C6 9 [E, B, S8 B]) (TK ⟨9, ln, cl, 0, []⟩ (.cons ie ke (.cons ib kb .nil))) (BE ⟨9, ln, cl, 0, []⟩ (.cons ie ke (.cons ib kb .nil))) (DP ⟨9, ln, cl, 0, []⟩ (.cons ie ke (.cons ib kb .nil))) b6p := by
 have h0 : Gs (S8 B) [] .nil 0 b6p := Ch (K3 _) (fun r hr => hr);have h := Xr hE hB h0 (fun r _ => by obtain ⟨q, e⟩ := hb; rw [e]; exact Hh (.inr (.inr rfl)) _) (fun _ _ => trivial) (fun r _ => by obtain ⟨q, e⟩ := hb; rw [e]; exact Hh (.inr (.inr rfl)) _);refine (H9 (mk := mkK 9) (i := ⟨9, 0, 0, 0, []⟩) (Gx (wd [105, 102]) h) (fun r _ => rfl)).cast ?_ rfl rfl;show _ = [wd [105, 102]] ++ TK ie ke ++ TK ib kb ++ [];simp
theorem b93 {ln cl : Nat} {ie ib ic : Inf} {ke kb kc : Fo} {B : Pt} (hE : Gs E (TK ie ke) (BE ie ke) (DP ie ke) Nn) (hB : Gs B (TK ib kb) (BE ib kb) (DP ib kb) Any) (hC : Gs B (TK ic kc) (BE ic kc) (DP ic kc) Any) (hb : ∃ q, TK ib kb = sg [123] :: q) :
  Gs (C6 9 [E, B, S8 B]) (TK ⟨9, ln, cl, 0, []⟩ (.cons ie ke (.cons ib kb (.cons ic kc .nil)))) (BE ⟨9, ln, cl, 0, []⟩ (.cons ie ke (.cons ib kb (.cons ic kc .nil)))) (DP ⟨9, ln, cl, 0, []⟩ (.cons ie ke (.cons ib kb (.cons ic kc .nil)))) Any := by
 have h0 : Gs (S8 B) (wd [101, 108, 115, 101] :: TK ic kc) (BE ic kc) (DP ic kc) Any := He (Gx _ hC) (fun r _ => Lg _ _);have h := Xr hE hB h0 (fun r _ => by obtain ⟨q, e⟩ := hb; rw [e]; exact Hh (.inr (.inr rfl)) _) (fun _ _ => trivial) (fun r _ => by obtain ⟨q, e⟩ := hb; rw [e]; exact Hh (.inr (.inr rfl)) _);refine (H9 (mk := mkK 9) (i := ⟨9, 0, 0, 0, []⟩) (Gx (wd [105, 102]) h) (fun r _ => rfl)).cast ?_ rfl rfl;show _ = [wd [105, 102]] ++ TK ie ke ++ TK ib kb ++ ([wd [101, 108, 115, 101]] ++ TK ic kc);simp
end
section
variable {E : Pt} {n : Nat}
def Hd0 (T : List Tok) : Prop := ∀ r, (hd (T ++ r)).line = 0 ∧ (hd (T ++ r)).col = 0
theorem b90 {T : List Tok} (h : Hd0 T) (k : Nat) (r : List Tok) : mkK k (T ++ r) = ⟨k, 0, 0, 0, []⟩ := by
 unfold mkK;rw [(h r).1, (h r).2]
theorem a49 {ln cl : Nat} {it ie : Inf} {kt ke : Fo} (hT : Gs E (TK it kt) (BE it kt) (DP it kt) Nn) (hk : it.kind = 26 ∨ it.kind = 28 ∨ it.kind = 29) (h0 : Hd0 (TK it kt)) (hE : Gs E (TK ie ke) (BE ie ke) (DP ie ke) Nn) :
  Gs (M2 E) (TK ⟨8, ln, cl, 0, []⟩ (.cons it kt (.cons ie ke .nil))) (BE ⟨8, ln, cl, 0, []⟩ (.cons it kt (.cons ie ke .nil))) (DP ⟨8, ln, cl, 0, []⟩ (.cons it kt (.cons ie ke .nil))) Any := fun d r hd hr => by
 have h2 := Ht (Hf [61]) (Ht hE (Hf [59]) (fun r _ => Hh (.inl rfl) r)) (fun _ _ => trivial) d r hd hr;have h1 := hT d ([sg [61]] ++ (TK ie ke ++ [sg [59]]) ++ r) hd (Hh (.inr (.inl rfl)) _)
 have e : TK ⟨8, ln, cl, 0, []⟩ (.cons it kt (.cons ie ke .nil)) ++ r = TK it kt ++ ([sg [61]] ++ (TK ie ke ++ [sg [59]]) ++ r) := by
  show TK it kt ++ [sg [61]] ++ TK ie ke ++ [sg [59]] ++ r = _;simp
 rw [e];unfold M2;refine (h1.bind (X := .ok (BE ⟨8, ln, cl, 0, []⟩ (.cons it kt (.cons ie ke .nil))) r) (c := d + max 0 (max (DP ie ke) 0) <= 40) ?_).imp ?_
 ·rw [if_pos (show Ho (BE it kt) = 26 ∨ Ho (BE it kt) = 28 ∨ Ho (BE it kt) = 29 from hk), b90 h0];exact (h2.bind (X := .ok (BE ⟨8, ln, cl, 0, []⟩ (.cons it kt (.cons ie ke .nil))) r) (c := True) (CG.ok trivial)).imp (by simp)
 ·show d + DP it kt <= 40 ∧ d + max 0 (max (DP ie ke) 0) <= 40 ↔ d + max (DP it kt) (DP ie ke) <= 40;omega
theorem b45 {ln cl : Nat} {it : Inf} {kt : Fo} (hT : Gs E (TK it kt) (BE it kt) (DP it kt) Nn) (hk : it.kind = 27) (h0 : Hd0 (TK it kt)) :
  Gs (M2 E) (TK ⟨13, ln, cl, 0, []⟩ (.cons it kt .nil)) (BE ⟨13, ln, cl, 0, []⟩ (.cons it kt .nil)) (DP ⟨13, ln, cl, 0, []⟩ (.cons it kt .nil)) Any := fun d r hd hr => by
 have h2 := Hf [59] d r hd hr;have h1 := hT d ([sg [59]] ++ r) hd (Hh (.inl rfl) _)
 have e : TK ⟨13, ln, cl, 0, []⟩ (.cons it kt .nil) ++ r = TK it kt ++ ([sg [59]] ++ r) := by
  show TK it kt ++ [sg [59]] ++ r = _;simp
 rw [e];unfold M2;refine (h1.bind (X := .ok (BE ⟨13, ln, cl, 0, []⟩ (.cons it kt .nil)) r) (c := d + 0 <= 40) ?_).imp ?_
 ·rw [if_neg (show ¬ (Ho (BE it kt) = 26 ∨ Ho (BE it kt) = 28 ∨ Ho (BE it kt) = 29) by show ¬ (it.kind = 26 ∨ it.kind = 28 ∨ it.kind = 29); omega), if_pos (show Ho (BE it kt) = 27 from hk), b90 h0];exact (h2.bind (X := .ok (BE ⟨13, ln, cl, 0, []⟩ (.cons it kt .nil)) r) (c := True) (CG.ok trivial)).imp (by simp)
 ·show d + DP it kt <= 40 ∧ d + 0 <= 40 ↔ d + DP it kt <= 40;omega
theorem Zf {k ln cl : Nat} {tx : List UInt8} {it : Inf} {kt : Fo} (hT : Gs (Eb n) (TK it kt) (BE it kt) (DP it kt) Any) :
  Gs (Er k n) ([nmT tx, sg [58]] ++ TK it kt) (.cons ⟨k, 0, 0, 0, tx⟩ (BE it kt) .nil) (DP it kt) Any := by
 have h := Xr (S1 (t := nmT tx) (k := 1) rfl) (Hf [58]) hT (fun _ _ => trivial) (fun _ _ => trivial) (fun _ _ => trivial);refine (H9 (mk := mkX k) (i := ⟨k, 0, 0, 0, tx⟩) h (fun r _ => rfl)).cast ?_ rfl ?_
 ·simp
 ·omega
theorem a97 {ln cl : Nat} {tx : List UInt8} {it : Inf} {kt : Fo} (hT : Gs (Eb n) (TK it kt) (BE it kt) (DP it kt) Any) :
  Gs (Er 5 n) (TK ⟨5, ln, cl, 0, tx⟩ (.cons it kt .nil)) (BE ⟨5, ln, cl, 0, tx⟩ (.cons it kt .nil)) (DP ⟨5, ln, cl, 0, tx⟩ (.cons it kt .nil)) Any := Zf (ln := ln) (cl := cl) hT
theorem a99 {ln cl : Nat} {tx : List UInt8} {it : Inf} {kt : Fo} (hT : Gs (Eb n) (TK it kt) (BE it kt) (DP it kt) Any) :
  Gs (Jr n) (TK ⟨3, ln, cl, 0, tx⟩ (.cons it kt .nil)) (BE ⟨3, ln, cl, 0, tx⟩ (.cons it kt .nil)) (DP ⟨3, ln, cl, 0, tx⟩ (.cons it kt .nil)) Any :=
 (Ht (Zf (k := 3) (ln := ln) (cl := cl) (tx := tx) hT) (Hf [59]) (fun _ _ => trivial)).cast rfl rfl (by show max (DP it kt) 0 = DP it kt; omega)
theorem b92 {ln cl : Nat} {tx : List UInt8} {F : Fo} {m : Nat} {p : Pt} (hn : Gl F < m)
  (hA : Al (fun i k => Gs p (TK i k) (BE i k) (DP i k) Any ∧ ∀ r, sees [125] (TK i k ++ r) = false ∧ Any (TK i k ++ r)) F) :
  Gs (B7 (mkY 2) (Ci (Fd (Hc 2) (Az [123] [125] (Cx [125] p m))))) (TK ⟨2, ln, cl, 0, tx⟩ F) (BE ⟨2, ln, cl, 0, tx⟩ F) (DP ⟨2, ln, cl, 0, tx⟩ F) Any := by
 have h1 := P1 (o := [123]) (Ze (fun _ _ => trivial) F m hn hA);have h := Ht (S1 (t := bgT tx) (k := 2) rfl) h1 (fun _ _ => trivial);refine (H9 (mk := mkY 2) (i := ⟨2, 0, 0, 0, tx⟩) (Gx (wd [114, 101, 99]) h) (fun r _ => rfl)).cast ?_ rfl ?_
 ·show _ = [wd [114, 101, 99], bgT tx] ++ ([sg [123]] ++ Iw F ++ [sg [125]]);simp
 ·show _ = 1 + Jx (dpF F);omega
end
section
def Sx : List (List UInt8) := [[116, 114, 117, 101], [102, 97, 108, 115, 101], [110, 105, 108], [109, 97, 107, 101], [40], [45], [33]]
def Fst (t : Tok) : Prop := t.line = 0 ∧ t.col = 0 ∧ (t.kind = 6 ∨ t.kind = 7 -> t.text ∈ Sx)
def Beg (T : List Tok) : Prop := ∃ t U, T = t :: U ∧ Fst t
theorem Beg.app {T : List Tok} (h : Beg T) (U : List Tok) : Beg (T ++ U) := by
 obtain ⟨t, V, rfl, h⟩ := h;exact ⟨t, V ++ U, rfl, h⟩
theorem a6l {L : Nat} {i : Inf} {k : Fo} (h : Beg (TK i k)) : Beg (BT L i k) := by
 by_cases hl : lvl i < L
 ·rw [Ln hl]; exact ⟨_, _, rfl, rfl, rfl, fun _ => by show [40] ∈ Sx; decide⟩
 ·rw [Gh hl]; exact h
theorem La (i : Inf) (T : List Tok) : Beg (b6e i :: T) := by
 refine ⟨_, _, rfl, ?_⟩;unfold b6e
 repeat' split
 ·exact ⟨rfl, rfl, fun h => by rcases h with h | h <;> cases h⟩
 ·exact ⟨rfl, rfl, fun h => by rcases h with h | h <;> cases h⟩
 ·exact ⟨rfl, rfl, fun h => by rcases h with h | h <;> cases h⟩
 ·exact ⟨rfl, rfl, fun _ => by show [102, 97, 108, 115, 101] ∈ Sx; decide⟩
 ·exact ⟨rfl, rfl, fun _ => by show [116, 114, 117, 101] ∈ Sx; decide⟩
 ·exact ⟨rfl, rfl, fun _ => by show [110, 105, 108] ∈ Sx; decide⟩
 ·exact ⟨rfl, rfl, fun h => by rcases h with h | h <;> cases h⟩
theorem b1c (x : List UInt8) (T : List Tok) : Beg (nmT x :: T) := ⟨_, _, rfl, rfl, rfl, fun h => by rcases h with h | h <;> cases h⟩
theorem b1d : ∀ s i k, k.cnt < s -> Eo i k = true -> A0 k = true -> 21 <= i.kind -> i.kind <= 32 -> Beg (TK i k) := by
 intro s
 induction s with
 | zero => intro i k h; omega
 | succ s ih =>
  intro i k hs hg hG k1 k2;obtain ⟨ht, hm, ha⟩ := Bv hg;obtain ⟨kd, ln, cl, num, tx⟩ := i;simp only at ht hm ha k1 k2;have hk : kd = 21 ∨ kd = 22 ∨ kd = 23 ∨ kd = 24 ∨ kd = 25 ∨ kd = 26 ∨ kd = 27 ∨ kd = 28 ∨ kd = 29 ∨ kd = 30 ∨ kd = 31 ∨ kd = 32 := by omega
  rcases hk with rfl | rfl | rfl | rfl | rfl | rfl | rfl | rfl | rfl | rfl | rfl | rfl
  ·exact La _ _
  ·exact La _ _
  ·exact La _ _
  ·exact La _ _
  ·exact La _ _
  ·exact La _ _
  ·exact b1c _ _
  ·obtain ⟨ix, kx, iy, ky, rfl, ex, ey⟩ := fx2 (P := Am) (Q := Am) ha;rw [Am, decide_eq_true_eq] at ex;rw [A0, Bool.and_eq_true, Bool.and_eq_true] at hG;have h := a6l (L := 8) (ih ix kx (by simp [Fo.cnt] at hs; omega) hG.1.1 hG.1.2 ex.1 ex.2);show Beg (BT 8 ix kx ++ [sg [91]] ++ TK iy ky ++ [sg [93]]);exact ((h.app _).app _).app _
  ·obtain ⟨ix, kx, rfl, ex⟩ := fx1 (P := Am) ha;rw [Am, decide_eq_true_eq] at ex;rw [A0, Bool.and_eq_true, Bool.and_eq_true] at hG;have h := a6l (L := 8) (ih ix kx (by simp [Fo.cnt] at hs; omega) hG.1.1 hG.1.2 ex.1 ex.2);show Beg (BT 8 ix kx ++ [sg [46], nmT tx]);exact h.app _
  ·have hm : decide (num = 12 ∨ num = 13) = true := hm;rw [decide_eq_true_eq] at hm;rcases hm with rfl | rfl
   ·exact ⟨sg [45], _, rfl, rfl, rfl, fun _ => by show [45] ∈ Sx; decide⟩
   ·exact ⟨sg [33], _, rfl, rfl, rfl, fun _ => by show [33] ∈ Sx; decide⟩
  ·obtain ⟨ix, kx, iy, ky, rfl, ex, ey⟩ := fx2 (P := Am) (Q := Am) ha;rw [Am, decide_eq_true_eq] at ex;rw [A0, Bool.and_eq_true, Bool.and_eq_true] at hG;have h := a6l (L := Fh (opS num).2) (ih ix kx (by simp [Fo.cnt] at hs; omega) hG.1.1 hG.1.2 ex.1 ex.2);show Beg (BT (Fh (opS num).2) ix kx ++ [sg (opS num).1] ++ BT ((opS num).2 + 1) iy ky);exact (h.app _).app _
  ·exact ⟨wd [109, 97, 107, 101], _, rfl, rfl, rfl, fun _ => by show [109, 97, 107, 101] ∈ Sx; decide⟩
theorem a6k {T : List Tok} (h : Beg T) : Hd0 T := fun r => by
 obtain ⟨t, U, rfl, h1, h2, _⟩ := h;exact ⟨h1, h2⟩
theorem Hw {T : List Tok} (h : Beg T) {x : List UInt8} (hx : x ∉ Sx) (r : List Tok) : sees x (T ++ r) = false := by
 obtain ⟨t, U, rfl, _, _, h3⟩ := h;show decide ((t.kind = 6 ∨ t.kind = 7) ∧ t.text = x) = false;rw [decide_eq_false_iff_not];rintro ⟨h4, rfl⟩;exact hx (h3 h4)
end
section
theorem a94 (x : List UInt8) : Gs (take x) [wd x] .nil 0 Any := fun d r hd _ => by
 refine .inl ⟨hd, ?_⟩;unfold take Jv;show (if sees x (wd x :: r) = true then _ else _) = _;rw [Lg, if_pos rfl];rfl
theorem a98 {p : Pt} : ∀ (F : Fo) n, F ≠ .nil -> Gl F < n -> Al (fun i k => Gs p (TK i k) (BE i k) (DP i k) Any) F -> Gs (I8 p n) (Ap (tkF F)) (Ax F) (Jx (dpF F)) (Sgn [41]) := by
 intro F
 induction F with
 | nil => intro n h; exact absurd rfl h
 | cons i k r _ ihr =>
  intro n _ hn hA d q hd hq;simp only [Gl] at hn;obtain ⟨n, rfl⟩ : ∃ m, n = m + 1 := ⟨n - 1, by omega⟩;unfold I8
  cases r with
  | nil =>
   obtain ⟨q, rfl⟩ := hq;have h1 := hA.1 d (sg [41] :: q) hd trivial;have e : Ap (tkF (.cons i k .nil)) = TK i k := by simp [tkF, Ap]
   rw [e];refine (h1.bind (X := .ok (Ax (.cons i k .nil)) (sg [41] :: q)) (c := True) ?_).imp ?_
   ·rw [A9, if_neg (by decide)];exact CG.ok trivial
   ·show d + DP i k <= 40 ∧ True ↔ d + max (DP i k) 0 <= 40
    simp
  | cons j m t =>
   have ih := ihr n (by simp) (by simp only [Gl] at hn ⊢; omega) hA.2 d q hd hq;have e : Ap (tkF (.cons i k (.cons j m t))) = TK i k ++ sg [44] :: Ap (tkF (.cons j m t)) := by simp [tkF, Ap]
   have h1 := hA.1 d (sg [44] :: (Ap (tkF (.cons j m t)) ++ q)) hd trivial;rw [e, List.append_assoc, List.cons_append];refine (h1.bind (X := .ok (Ax (.cons i k (.cons j m t))) q) (c := d + Jx (dpF (.cons j m t)) <= 40) ?_).imp ?_
   ·rw [A9, if_pos (by decide)];exact (ih.bind (f := fun G r' => Out.ok ((BE i k).app G) r') (X := .ok (Ax (.cons i k (.cons j m t))) q) (c := True) (CG.ok trivial)).imp (by simp)
   ·show d + DP i k <= 40 ∧ d + Jx (dpF (.cons j m t)) <= 40 ↔ d + max (DP i k) (Jx (dpF (.cons j m t))) <= 40;omega
end
section
theorem Zm (k : Nat) (a b : List Nd) : Lm k (a ++ b) = Lm k a + Lm k b := by simp [Lm, List.filter_append]
theorem Vt (k : Nat) (x : Nd) (l : List Nd) : Lm k (x :: l) = (if x.kind = k then 1 else 0) + Lm k l := by
 unfold Lm;rw [List.filter_cons];by_cases h : x.kind = k
 ·simp [h]; omega
 ·simp [h]
theorem b7a : ∀ s F, F.cnt < s -> A0 F = true -> (Aq F).all Ck = true -> Lm 5 (Ax F).post = 0 := by
 intro s
 induction s with
 | zero => intro F h; omega
 | succ s ih =>
  intro F hs hg hr
  cases F with
  | nil => rfl
  | cons i k r =>
   rw [A0, Bool.and_eq_true, Bool.and_eq_true] at hg;rw [Aq, List.all_cons, Bool.and_eq_true] at hr;rw [Fo.cnt] at hs;obtain ⟨_, _, ha⟩ := Bv hg.1.1;have hi := hr.1;rw [Ck, decide_eq_true_eq] at hi
   have hk : (Aq k).all Ck = true := by
    obtain ⟨kd, ln, cl, num, tx⟩ := i;simp only at hi ha;have : kd = 15 ∨ kd = 16 ∨ kd = 17 ∨ kd = 18 ∨ kd = 19 ∨ kd = 20 := by omega
    rcases this with rfl | rfl | rfl | rfl | rfl | rfl
    ·rw [fx0 (show Ak [] (Aq k) = true from ha)]; rfl
    ·rw [fx0 (show Ak [] (Aq k) = true from ha)]; rfl
    ·rw [fx0 (show Ak [] (Aq k) = true from ha)]; rfl
    ·rw [fx0 (show Ak [] (Aq k) = true from ha)]; rfl
    ·rw [fx0 (show Ak [] (Aq k) = true from ha)]; rfl
    ·obtain ⟨i1, k1, rfl, h1⟩ := fx1 (P := Ck) ha;show (Ck i1.kind && true) = true;rw [h1]; rfl
   show Lm 5 ((Ax k).post ++ (Gj i).nd (Ax k).cnt :: (Ax r).post) = 0;rw [Zm, Vt, ih k (by omega) hg.1.2 hk, ih r (by omega) hg.2 hr.2, if_neg (show ¬ ((Gj i).nd (Ax k).cnt).kind = 5 by show ¬ i.kind = 5; omega)]
theorem b4e (F : Fo) : A0 F = true -> (Aq F).all [5].contains = true -> Lm 5 (Ax F).post = Gl F := by
 induction F with
 | nil => intro _ _; rfl
 | cons i k r _ ih =>
  intro hg hr;rw [A0, Bool.and_eq_true, Bool.and_eq_true] at hg;rw [Aq, List.all_cons, Bool.and_eq_true] at hr;obtain ⟨_, _, ha⟩ := Bv hg.1.1;have hi : i.kind = 5 := by have := hr.1; simpa using this
  rw [hi] at ha;obtain ⟨i1, k1, rfl, h1⟩ := fx1 (P := Ck) ha;show Lm 5 ((Ax (.cons i1 k1 .nil)).post ++ (Gj i).nd (Ax (.cons i1 k1 .nil)).cnt :: (Ax r).post) = Gl r + 1;rw [Zm, Vt, b7a _ _ (Nat.lt_succ_self _) hg.1.2 (by show (Ck i1.kind && true) = true; rw [h1]; rfl), ih hg.2 hr.2, if_pos (show ((Gj i).nd (Ax (.cons i1 k1 .nil)).cnt).kind = 5 from hi)];omega
theorem a5i {P : Nat -> Bool} {Q R : Nat -> Bool} : ∀ (n : Nat) (k : Fo), n <= (Aq k).length -> ((Aq k).take n).all P = true -> Ak [Q, R] ((Aq k).drop n) = true ->
  ∃ ps ir kr ib kb, k = ps.app (.cons ir kr (.cons ib kb .nil)) ∧ Gl ps = n ∧ (Aq ps).all P = true ∧ Q ir.kind = true ∧ R ib.kind = true
 | 0, k, _, _, h => by
  obtain ⟨i1, k1, i2, k2, rfl, h1, h2⟩ := fx2 (P := Q) (Q := R) h
  exact ⟨.nil, i1, k1, i2, k2, rfl, rfl, rfl, h1, h2⟩
 | n + 1, .nil, h, _, _ => by simp [Aq] at h
 | n + 1, .cons i k r, h, hp, hj => by
  simp only [Aq, List.length_cons, List.take_succ_cons, List.all_cons, Bool.and_eq_true, List.drop_succ_cons] at h hp hj;obtain ⟨ps, ir, kr, ib, kb, rfl, h1, h2, h3, h4⟩ := a5i n r (by omega) hp.2 hj;refine ⟨.cons i k ps, ir, kr, ib, kb, rfl, by simp [Gl, h1], ?_, h3, h4⟩;rw [Aq, List.all_cons, hp.1, h2]; rfl
theorem b27 (F G : Fo) : tkF (F.app G) = tkF F ++ tkF G := by
 induction F with
 | nil => rfl
 | cons i k r _ ih => simp [Fo.app, tkF, ih]
theorem b5o (F G : Fo) : dpF (F.app G) = dpF F ++ dpF G := by
 induction F with
 | nil => rfl
 | cons i k r _ ih => simp [Fo.app, dpF, ih]
theorem a6m (F G : Fo) : Ax (F.app G) = (Ax F).app (Ax G) := by
 induction F with
 | nil => rfl
 | cons i k r _ ih => simp [Fo.app, Ax, ih]
theorem b46 (F G : Fo) : A0 (F.app G) = (A0 F && A0 G) := by
 induction F with
 | nil => rfl
 | cons i k r _ ih => simp [Fo.app, A0, ih, Bool.and_assoc]
theorem Wk (F : Fo) : (tkF F).length = Gl F := by
 induction F with
 | nil => rfl
 | cons i k r _ ih => simp [tkF, Gl, ih]
theorem Xz (F : Fo) : (dpF F).length = Gl F := by
 induction F with
 | nil => rfl
 | cons i k r _ ih => simp [dpF, Gl, ih]
theorem a48 {p : Pt} {F : Fo} {n : Nat} (hn : Gl F < n) (hA : Al (fun i k => Gs p (TK i k) (BE i k) (DP i k) Any ∧ ∃ t q, TK i k = t :: q ∧ t.kind ≠ 6 ∧ t.kind ≠ 7) F) : Gs (Ee p n) (Ap (tkF F)) (Ax F) (Jx (dpF F)) (Sgn [41]) := by
 have al : ∀ F, Al (fun i k => Gs p (TK i k) (BE i k) (DP i k) Any ∧ ∃ t q, TK i k = t :: q ∧ t.kind ≠ 6 ∧ t.kind ≠ 7) F -> Al (fun i k => Gs p (TK i k) (BE i k) (DP i k) Any) F := fun F => by
  induction F with
  | nil => intro _; trivial
  | cons i k r _ ih => intro h; exact ⟨h.1.1, ih h.2⟩
 cases F with
 | nil => exact He (K3 _) (fun r hr => by obtain ⟨q, rfl⟩ := hr; show sees [41] (sg [41] :: q) = true; rw [A9]; rfl)
 | cons i k r =>
  obtain ⟨t, q, ht, hk⟩ := hA.1.2;refine Ch (a98 _ n (by simp) hn (al _ hA)) (fun u _ => ?_);show sees [41] (Ap (tkF (.cons i k r)) ++ u) = false;have : Ap (tkF (.cons i k r)) = TK i k ++ (tkF r).flatMap fun y => sg [44] :: y.2 := rfl
  rw [this, ht];exact I2 hk
theorem b7e {ln cl : Nat} {tx : List UInt8} {ir ib : Inf} {ps kr kb : Fo} : TK ⟨4, ln, cl, (Gl ps : Nat), tx⟩ (ps.app (.cons ir kr (.cons ib kb .nil))) = [wd [102, 110], nmT tx, sg [40]] ++ Ap (tkF ps) ++ [sg [41]] ++ (if ir.kind = 14 then [] else [sg [58]] ++ TK ir kr) ++ TK ib kb := by
 have hnt : ((Gl ps : Nat) : Int).toNat = Gl ps := Int.toNat_natCast _;show [wd [102, 110], nmT tx, sg [40]] ++ Ap ((tkF (ps.app (.cons ir kr (.cons ib kb .nil)))).take ((Gl ps : Nat) : Int).toNat) ++ [sg [41]] ++ (if (H8 (tkF (ps.app (.cons ir kr (.cons ib kb .nil)))) ((Gl ps : Nat) : Int).toNat).1.kind = 14 then [] else [sg [58]] ++ (H8 (tkF (ps.app (.cons ir kr (.cons ib kb .nil)))) ((Gl ps : Nat) : Int).toNat).2) ++ (H8 (tkF (ps.app (.cons ir kr (.cons ib kb .nil)))) (((Gl ps : Nat) : Int).toNat + 1)).2 = _;have k3 : H8 (tkF ps ++ [(ir, TK ir kr), (ib, TK ib kb)]) (Gl ps) = (ir, TK ir kr) := by rw [H8, <- Wk, List.getD_eq_getElem?_getD, List.getElem?_append_right (Nat.le_refl _)]; simp
 have k4 : H8 (tkF ps ++ [(ir, TK ir kr), (ib, TK ib kb)]) (Gl ps + 1) = (ib, TK ib kb) := by rw [H8, <- Wk, List.getD_eq_getElem?_getD, List.getElem?_append_right (by omega)]; simp
 have k5 : (tkF ps ++ [(ir, TK ir kr), (ib, TK ib kb)]).take (Gl ps) = tkF ps := by rw [<- Wk, List.take_left]
 rw [hnt, b27, show tkF (.cons ir kr (.cons ib kb .nil)) = [(ir, TK ir kr), (ib, TK ib kb)] from rfl, k3, k4, k5]
theorem c2n {ln cl : Nat} {tx : List UInt8} {ir ib : Inf} {ps kr kb : Fo} : DP ⟨4, ln, cl, (Gl ps : Nat), tx⟩ (ps.app (.cons ir kr (.cons ib kb .nil))) = max (1 + Jx (dpF ps)) (max (DP ir kr) (DP ib kb)) := by
 have hnt : ((Gl ps : Nat) : Int).toNat = Gl ps := Int.toNat_natCast _;show max (1 + Jx ((dpF (ps.app (.cons ir kr (.cons ib kb .nil)))).take ((Gl ps : Nat) : Int).toNat)) (max (Ly (dpF (ps.app (.cons ir kr (.cons ib kb .nil)))) ((Gl ps : Nat) : Int).toNat).2 (Ly (dpF (ps.app (.cons ir kr (.cons ib kb .nil)))) (((Gl ps : Nat) : Int).toNat + 1)).2) = _;have k3 : Ly (dpF ps ++ [(ir, DP ir kr), (ib, DP ib kb)]) (Gl ps) = (ir, DP ir kr) := by rw [Ly, <- Xz, List.getD_eq_getElem?_getD, List.getElem?_append_right (Nat.le_refl _)]; simp
 have k4 : Ly (dpF ps ++ [(ir, DP ir kr), (ib, DP ib kb)]) (Gl ps + 1) = (ib, DP ib kb) := by rw [Ly, <- Xz, List.getD_eq_getElem?_getD, List.getElem?_append_right (by omega)]; simp
 have k5 : (dpF ps ++ [(ir, DP ir kr), (ib, DP ib kb)]).take (Gl ps) = dpF ps := by rw [<- Xz, List.take_left]
 rw [hnt, b5o, show dpF (.cons ir kr (.cons ib kb .nil)) = [(ir, DP ir kr), (ib, DP ib kb)] from rfl, k3, k4, k5]
theorem c2k {i ir ib : Inf} {ps kr kb : Fo} {n : Nat} (hi : i.kind = 4) (hnum : i.num = (Gl ps : Nat)) (hps : A0 ps = true) (hrt : (Aq ps).all [5].contains = true) (hn : Gl ps < n)
  (hP : Al (fun i k => Gs (Er 5 n) (TK i k) (BE i k) (DP i k) Any ∧ ∃ t q, TK i k = t :: q ∧ t.kind ≠ 6 ∧ t.kind ≠ 7) ps)
  (hR0 : ir.kind = 14 -> BE ir kr = .cons ⟨14, 0, 0, 0, []⟩ .nil .nil) (hR : ir.kind ≠ 14 -> Gs (Eb n) (TK ir kr) (BE ir kr) (DP ir kr) Any)
  (hB : Gs (Fb (L7 n) n) (TK ib kb) (BE ib kb) (DP ib kb) Any) (hb : ∃ q, TK ib kb = sg [123] :: q) :
  Gs (fnP n) (TK i (ps.app (.cons ir kr (.cons ib kb .nil)))) (BE i (ps.app (.cons ir kr (.cons ib kb .nil)))) (DP i (ps.app (.cons ir kr (.cons ib kb .nil)))) Any := by
 obtain ⟨kd, ln, cl, num, tx⟩ := i;simp only at hi hnum;subst hi hnum;have hnt : ((Gl ps : Nat) : Int).toNat = Gl ps := Int.toNat_natCast _;obtain ⟨TR, hTR⟩ : ∃ T, T = if ir.kind = 14 then [] else [sg [58]] ++ TK ir kr := ⟨_, rfl⟩;have eT := @b7e ln cl tx ir ib ps kr kb;rw [<- hTR] at eT;have eD := @c2n ln cl tx ir ib ps kr kb;rw [eT, eD]
 have hD0 : ir.kind = 14 -> DP ir kr = 0 := fun h => by
  obtain ⟨a, b, c, d, e⟩ := ir;simp only at h;subst h; rfl
 have hres : Gs (Gb n) TR (BE ir kr) (DP ir kr) (Sgn [123]) := fun d r hd hr => by
  unfold Gb;by_cases h14 : ir.kind = 14
  ·obtain ⟨q, rfl⟩ := hr;rw [hTR, if_pos h14, List.nil_append, A9, if_neg (by decide), hR0 h14, hD0 h14];exact .inl ⟨hd, rfl⟩
  ·rw [hTR, if_neg h14];show CG (if sees [58] (sg [58] :: (TK ir kr ++ r)) = true then _ else _) _ _;rw [A9, if_pos (by decide)];exact hR h14 d r hd trivial
 have h2 := Ht (S1 (t := nmT tx) (k := 1) rfl) (P1 (o := [40]) (a48 hn hP)) (fun _ _ => trivial);have h3 := Ht hres hB (fun r _ => by obtain ⟨q, e⟩ := hb; rw [e]; exact ⟨_, rfl⟩);intro d r hd hr;have e : [wd [102, 110], nmT tx, sg [40]] ++ Ap (tkF ps) ++ [sg [41]] ++ TR ++ TK ib kb ++ r = [wd [102, 110]] ++ ([nmT tx] ++ sg [40] :: (Ap (tkF ps) ++ [sg [41]]) ++ ((TR ++ TK ib kb) ++ r)) := by simp
 rw [e];have g1 := a94 [102, 110] d ([nmT tx] ++ sg [40] :: (Ap (tkF ps) ++ [sg [41]]) ++ ((TR ++ TK ib kb) ++ r)) hd trivial;have g2 := h2 d ((TR ++ TK ib kb) ++ r) hd trivial;have g3 := h3 d r hd hr;have hcnt : Lm 5 (Fo.app .nil (Ax ps)).post = Gl ps := b4e ps hps hrt;unfold fnP;refine (g1.bind (X := .ok (BE ⟨4, ln, cl, (Gl ps : Nat), tx⟩ (ps.app (.cons ir kr (.cons ib kb .nil)))) r) (c := d + max 0 (1 + Jx (dpF ps)) <= 40 ∧ d + max (DP ir kr) (DP ib kb) <= 40) ?_).imp (by omega);refine g2.bind (c := d + max (DP ir kr) (DP ib kb) <= 40) ?_;refine (g3.bind (X := .ok (BE ⟨4, ln, cl, (Gl ps : Nat), tx⟩ (ps.app (.cons ir kr (.cons ib kb .nil)))) r) (c := True) (CG.to (CG.ok trivial) ?_)).imp (by simp);rw [hcnt];show Out.ok (.cons ⟨4, 0, 0, (Gl ps : Nat), tx⟩ ((Ax ps).app ((BE ir kr).app (BE ib kb))) .nil) r = _;unfold BE;rw [a6m];rfl
end
section
theorem a6u {P : Nat -> Bool} {R : Inf -> Fo -> Prop} : ∀ F, A0 F = true -> (Aq F).all P = true -> (∀ i k, k.cnt < F.cnt -> Eo i k = true -> A0 k = true -> P i.kind = true -> (TK i k).length <= (Iw F).length -> R i k) -> Al R F := fun F => by
 induction F with
 | nil => intro _ _ _; trivial
 | cons i k r _ ih =>
  intro hg hr h;rw [A0, Bool.and_eq_true, Bool.and_eq_true] at hg;rw [Aq, List.all_cons, Bool.and_eq_true] at hr;refine ⟨h i k (by rw [Fo.cnt]; omega) hg.1.1 hg.1.2 hr.1 (by rw [G1, List.length_append]; omega), ih hg.2 hr.2 fun j m a b c d e => h j m (by rw [Fo.cnt]; omega) b c d (by rw [G1, List.length_append]; omega)⟩
theorem R2 (F : Fo) : Al (fun i k => 1 <= (TK i k).length) F -> Gl F <= (Iw F).length := by
 induction F with
 | nil => intro _; exact Nat.zero_le _
 | cons i k r _ ih =>
  intro h;have := ih h.2;have := h.1;rw [G1, List.length_append, Gl];omega
theorem Al.imp {P Q : Inf -> Fo -> Prop} : ∀ {F}, Al P F -> (∀ i k, P i k -> Q i k) -> Al Q F := fun {F} => by
 induction F with
 | nil => intro _ _; trivial
 | cons i k r _ ih => intro h f; exact ⟨f _ _ h.1, ih h.2 f⟩
theorem c6 {k : Nat} (h : [6].contains k = true) : k = 6 := by simpa using h
theorem Vv {ib : Inf} {kb : Fo} (h : ib.kind = 6) : TK ib kb = sg [123] :: (Iw kb ++ [sg [125]]) := by
 obtain ⟨kd, ln, cl, num, tx⟩ := ib;simp only at h;subst h;show [sg [123]] ++ Iw kb ++ [sg [125]] = _;simp
def Nx (i : Inf) (k : Fo) : Prop := ∀ r, sees [125] (TK i k ++ r) = false ∧ b6p (TK i k ++ r)
def Sk (i : Inf) (k : Fo) : Prop := (∀ n, (TK i k).length < n -> Gs (L7 n) (TK i k) (BE i k) (DP i k) b6p) ∧ Nx i k ∧ 1 <= (TK i k).length
theorem P4 {s : Nat} (ih : ∀ i k, k.cnt < s -> Eo i k = true -> A0 k = true -> Dt i.kind = true -> Sk i k) {ib : Inf} {kb : Fo} (hk : ib.kind = 6) (hg : Eo ib kb = true) (hG : A0 kb = true) (hc : kb.cnt <= s) {n : Nat} (hn : (TK ib kb).length < n + 2) : Gs (Fb (L7 n) n) (TK ib kb) (BE ib kb) (DP ib kb) Any := by
 obtain ⟨ht, hm, ha⟩ := Bv hg;rw [hk] at ht hm ha;have e1 : ib.text = [] := by simpa [Bc] using ht
 have e2 : ib.num = 0 := by simpa [Bk] using hm
 have hl : (TK ib kb).length = (Iw kb).length + 2 := by rw [Vv hk]; simp
 have ha : (Aq kb).all Dt = true := ha;have al : Al Sk kb := a6u kb hG ha fun i k a b c d _ => ih i k (by omega) b c d
 have al2 : Al (fun i k => Sk i k ∧ (TK i k).length <= (Iw kb).length) kb := a6u kb hG ha fun i k a b c d e => ⟨ih i k (by omega) b c d, e⟩
 have ht := R2 kb (al.imp fun i k h => h.2.2)
 exact b0a ⟨hk, e2, e1⟩ (fun r hr => by obtain ⟨q, rfl⟩ := hr; show sees _ (sg [125] :: q) = false; rw [A9]; rfl) (by omega)
  (al2.imp fun i k h => ⟨h.1.1 n (by have := h.2; omega), h.1.2.1⟩)
theorem Ji {p : Pt} {T : List Tok} {F : Fo} {D : Nat} (h : Gs p T F D Any) : Gs p T F D b6p := h.weak fun _ _ => trivial
theorem W8 {i : Inf} {k : Fo} {w : List UInt8} {q : List Tok} (e : TK i k = wd w :: q) (h1 : ¬ w = [125]) (h2 : ¬ w = [101, 108, 115, 101]) : Nx i k := fun r => by
 rw [e];exact ⟨J2 h1 _, J2 h2 _⟩
theorem b17 {i : Inf} {k : Fo} (h : Beg (TK i k)) : Nx i k := fun r => ⟨Hw h (by decide) r, Hw h (by decide) r⟩
theorem Jc {i : Inf} {k : Fo} (hg : Eo i k = true) (hG : A0 k = true) (h : Am i.kind = true) {n : Nat} (hn : (TK i k).length < n) : Gs (Bu n) (TK i k) (BE i k) (DP i k) Nn := by
 rw [Am, decide_eq_true_eq] at h;exact b44 hg hG h.1 h.2 hn
theorem Sz {i : Inf} {k : Fo} (hg : Eo i k = true) (hG : A0 k = true) (h : Ck i.kind = true) {n : Nat} (hn : (TK i k).length < n) : Gs (Eb n) (TK i k) (BE i k) (DP i k) Any := by
 rw [Ck, decide_eq_true_eq] at h;exact b43 hg hG h.1 h.2 hn
theorem X8 {i : Inf} {k : Fo} (hg : Eo i k = true) (hG : A0 k = true) (h : Am i.kind = true) : Beg (TK i k) := by
 rw [Am, decide_eq_true_eq] at h;exact b1d _ i k (Nat.lt_succ_self _) hg hG h.1 h.2
theorem a6j {T : List Tok} (h : Beg T) : 1 <= T.length := by
 obtain ⟨t, U, rfl, _⟩ := h;simp
theorem a2s {E B : Pt} {n : Nat} {T : List Tok} {F : Fo} {D : Nat} (hb : Beg T) (h : Gs (M2 E) T F D Any) : Gs (Ik E B n) T F D b6p :=
 Ji (Ch (Ch (Ch (Ch (Ch h (fun r _ => Hw hb (by decide) r)) (fun r _ => Hw hb (by decide) r)) (fun r _ => Hw hb (by decide) r)) (fun r _ => Hw hb (by decide) r)) (fun r _ => Hw hb (by decide) r))
theorem c0a : ∀ s i k, k.cnt < s -> Eo i k = true -> A0 k = true -> Dt i.kind = true -> Sk i k := by
 intro s
 induction s with
 | zero => intro i k h; omega
 | succ s ih =>
  intro i k hs hg hG hk;obtain ⟨ht, hm, ha⟩ := Bv hg;obtain ⟨kd, ln, cl, num, tx⟩ := i;simp only at ht hm ha hk;rw [Dt, decide_eq_true_eq] at hk;have hk : kd = 7 ∨ kd = 8 ∨ kd = 9 ∨ kd = 10 ∨ kd = 11 ∨ kd = 12 ∨ kd = 13 := by omega
  rcases hk with rfl | rfl | rfl | rfl | rfl | rfl | rfl
  ·
   obtain ⟨it, kt, ie, ke, rfl, e1, e2⟩ := fx2 (P := Ck) (Q := Am) ha;obtain rfl : num = 0 := by simpa [Bk] using hm
   simp only [A0, Bool.and_eq_true] at hG;have eT : TK ⟨7, ln, cl, 0, tx⟩ (.cons it kt (.cons ie ke .nil)) = wd [118, 97, 114] :: ([nmT tx, sg [58]] ++ TK it kt ++ [sg [61]] ++ TK ie ke ++ [sg [59]]) := rfl;refine ⟨fun n hn => ?_, W8 eT (by decide) (by decide), by rw [eT]; simp⟩;obtain ⟨n, rfl⟩ : ∃ m, n = m + 1 := ⟨n - 1, by omega⟩;have hl := hn;rw [eT] at hl;simp only [List.length_cons, List.length_append, List.length_nil] at hl;refine Ji (He (b91 (Sz hG.1.1 hG.1.2 e1 (by omega)) (Jc hG.2.1.1 hG.2.1.2 e2 (by omega))) (fun r _ => ?_));rw [eT]; exact Lg _ _
  ·
   obtain ⟨it, kt, ie, ke, rfl, e1, e2⟩ := fx2 (P := [26, 28, 29].contains) (Q := Am) ha;obtain rfl : tx = [] := by simpa [Bc] using ht
   obtain rfl : num = 0 := by simpa [Bk] using hm
   simp only [A0, Bool.and_eq_true] at hG;have e1 : it.kind = 26 ∨ it.kind = 28 ∨ it.kind = 29 := by simpa using e1
   have e1' : Am it.kind = true := by rw [Am, decide_eq_true_eq]; omega
   have hb := X8 hG.1.1 hG.1.2 e1'
   have eT : TK ⟨8, ln, cl, 0, []⟩ (.cons it kt (.cons ie ke .nil)) = TK it kt ++ ([sg [61]] ++ (TK ie ke ++ [sg [59]])) := by
    show TK it kt ++ [sg [61]] ++ TK ie ke ++ [sg [59]] = _;simp
   have hb2 : Beg (TK ⟨8, ln, cl, 0, []⟩ (.cons it kt (.cons ie ke .nil))) := by rw [eT]; exact hb.app _
   refine ⟨fun n hn => ?_, b17 hb2, a6j hb2⟩;obtain ⟨n, rfl⟩ : ∃ m, n = m + 1 := ⟨n - 1, by omega⟩;have hl := hn;rw [eT] at hl;simp only [List.length_cons, List.length_append, List.length_nil] at hl;exact a2s hb2 (a49 (Jc hG.1.1 hG.1.2 e1' (by omega)) e1 (a6k hb) (Jc hG.2.1.1 hG.2.1.2 e2 (by omega)))
  ·
   obtain rfl : tx = [] := by simpa [Bc] using ht
   obtain rfl : num = 0 := by simpa [Bk] using hm
   have hA : (Ak [Am, [6].contains] (Aq k) || Ak [Am, [6].contains, [6].contains] (Aq k)) = true := ha;rw [Bool.or_eq_true] at hA;rcases hA with hA | hA
   ·obtain ⟨ie, ke, ib, kb, rfl, e1, e2⟩ := fx2 hA;have e2 := c6 e2;simp only [A0, Bool.and_eq_true] at hG;simp only [Fo.cnt] at hs;have eT : TK ⟨9, ln, cl, 0, []⟩ (.cons ie ke (.cons ib kb .nil)) = wd [105, 102] :: (TK ie ke ++ TK ib kb ++ []) := rfl;refine ⟨fun n hn => ?_, W8 eT (by decide) (by decide), by rw [eT]; simp⟩;obtain ⟨n, rfl⟩ : ∃ m, n = m + 1 := ⟨n - 1, by omega⟩;have hl := hn;rw [eT] at hl;simp only [List.length_cons, List.length_append, List.length_nil] at hl;refine Ch (He (b94 (Jc hG.1.1 hG.1.2 e1 (by omega)) (P4 ih e2 hG.2.1.1 hG.2.1.2 (by omega) (by omega)) ⟨_, Vv e2⟩) (fun r _ => ?_)) (fun r _ => ?_)
    ·rw [eT]; exact Lg _ _
    ·rw [eT]; exact J2 (by decide) _
   ·obtain ⟨ie, ke, ib, kb, ic, kc, rfl, e1, e2, e3⟩ := fx3 hA;have e2 := c6 e2;have e3 := c6 e3;simp only [A0, Bool.and_eq_true] at hG;simp only [Fo.cnt] at hs;have eT : TK ⟨9, ln, cl, 0, []⟩ (.cons ie ke (.cons ib kb (.cons ic kc .nil))) = wd [105, 102] :: (TK ie ke ++ TK ib kb ++ ([wd [101, 108, 115, 101]] ++ TK ic kc)) := rfl;refine ⟨fun n hn => ?_, W8 eT (by decide) (by decide), by rw [eT]; simp⟩;obtain ⟨n, rfl⟩ : ∃ m, n = m + 1 := ⟨n - 1, by omega⟩;have hl := hn;rw [eT] at hl;simp only [List.length_cons, List.length_append, List.length_nil] at hl;refine Ch (He (Ji (b93 (Jc hG.1.1 hG.1.2 e1 (by omega)) (P4 ih e2 hG.2.1.1 hG.2.1.2 (by omega) (by omega)) (P4 ih e3 hG.2.2.1.1 hG.2.2.1.2 (by omega) (by omega)) ⟨_, Vv e2⟩)) (fun r _ => ?_)) (fun r _ => ?_)
    ·rw [eT]; exact Lg _ _
    ·rw [eT]; exact J2 (by decide) _
  ·
   obtain rfl : tx = [] := by simpa [Bc] using ht
   obtain rfl : num = 0 := by simpa [Bk] using hm
   obtain ⟨ie, ke, ib, kb, rfl, e1, e2⟩ := fx2 (P := Am) (Q := [6].contains) ha;have e2 := c6 e2;simp only [A0, Bool.and_eq_true] at hG;simp only [Fo.cnt] at hs;have eT : TK ⟨10, ln, cl, 0, []⟩ (.cons ie ke (.cons ib kb .nil)) = wd [119, 104, 105, 108, 101] :: (TK ie ke ++ TK ib kb) := rfl;refine ⟨fun n hn => ?_, W8 eT (by decide) (by decide), by rw [eT]; simp⟩;obtain ⟨n, rfl⟩ : ∃ m, n = m + 1 := ⟨n - 1, by omega⟩;have hl := hn;rw [eT] at hl;simp only [List.length_cons, List.length_append, List.length_nil] at hl;refine Ji (Ch (Ch (He (a93 (Jc hG.1.1 hG.1.2 e1 (by omega)) (P4 ih e2 hG.2.1.1 hG.2.1.2 (by omega) (by omega)) ⟨_, Vv e2⟩) (fun r _ => ?_)) (fun r _ => ?_)) (fun r _ => ?_))
   ·rw [eT]; exact Lg _ _
   ·rw [eT]; exact J2 (by decide) _
   ·rw [eT]; exact J2 (by decide) _
  ·
   obtain rfl : tx = [] := by simpa [Bc] using ht
   obtain rfl : num = 0 := by simpa [Bk] using hm
   have hA : (Ak [] (Aq k) || Ak [Am] (Aq k)) = true := ha;rw [Bool.or_eq_true] at hA;rcases hA with hA | hA
   ·obtain rfl := fx0 hA;have eT : TK ⟨11, ln, cl, 0, []⟩ .nil = wd [114, 101, 116, 117, 114, 110] :: [sg [59]] := rfl;refine ⟨fun n hn => ?_, W8 eT (by decide) (by decide), by rw [eT]; simp⟩;obtain ⟨n, rfl⟩ : ∃ m, n = m + 1 := ⟨n - 1, by omega⟩;refine Ji (Ch (Ch (Ch (He a1a (fun r _ => ?_)) (fun r _ => ?_)) (fun r _ => ?_)) (fun r _ => ?_))
    ·rw [eT]; exact Lg _ _
    ·rw [eT]; exact J2 (by decide) _
    ·rw [eT]; exact J2 (by decide) _
    ·rw [eT]; exact J2 (by decide) _
   ·obtain ⟨ie, ke, rfl, e1⟩ := fx1 hA;simp only [A0, Bool.and_eq_true] at hG;have eT : TK ⟨11, ln, cl, 0, []⟩ (.cons ie ke .nil) = wd [114, 101, 116, 117, 114, 110] :: (TK ie ke ++ [sg [59]]) := rfl;refine ⟨fun n hn => ?_, W8 eT (by decide) (by decide), by rw [eT]; simp⟩;obtain ⟨n, rfl⟩ : ∃ m, n = m + 1 := ⟨n - 1, by omega⟩;have hl := hn;rw [eT] at hl;simp only [List.length_cons, List.length_append, List.length_nil] at hl;refine Ji (Ch (Ch (Ch (He (a09 (Jc hG.1.1 hG.1.2 e1 (by omega)) (Hw (X8 hG.1.1 hG.1.2 e1) (by decide))) (fun r _ => ?_)) (fun r _ => ?_)) (fun r _ => ?_)) (fun r _ => ?_))
    ·rw [eT]; exact Lg _ _
    ·rw [eT]; exact J2 (by decide) _
    ·rw [eT]; exact J2 (by decide) _
    ·rw [eT]; exact J2 (by decide) _
  ·
   obtain rfl : tx = [] := by simpa [Bc] using ht
   obtain rfl : num = 0 := by simpa [Bk] using hm
   obtain ⟨ie, ke, rfl, e1⟩ := fx1 (P := Am) ha;simp only [A0, Bool.and_eq_true] at hG;have eT : TK ⟨12, ln, cl, 0, []⟩ (.cons ie ke .nil) = wd [112, 114, 105, 110, 116] :: (TK ie ke ++ [sg [59]]) := rfl;refine ⟨fun n hn => ?_, W8 eT (by decide) (by decide), by rw [eT]; simp⟩;obtain ⟨n, rfl⟩ : ∃ m, n = m + 1 := ⟨n - 1, by omega⟩;have hl := hn;rw [eT] at hl;simp only [List.length_cons, List.length_append, List.length_nil] at hl;refine Ji (Ch (Ch (Ch (Ch (He (a96 (Jc hG.1.1 hG.1.2 e1 (by omega))) (fun r _ => ?_)) (fun r _ => ?_)) (fun r _ => ?_)) (fun r _ => ?_)) (fun r _ => ?_))
   ·rw [eT]; exact Lg _ _
   ·rw [eT]; exact J2 (by decide) _
   ·rw [eT]; exact J2 (by decide) _
   ·rw [eT]; exact J2 (by decide) _
   ·rw [eT]; exact J2 (by decide) _
  ·
   obtain rfl : tx = [] := by simpa [Bc] using ht
   obtain rfl : num = 0 := by simpa [Bk] using hm
   obtain ⟨it, kt, rfl, e1⟩ := fx1 (P := [27].contains) ha;simp only [A0, Bool.and_eq_true] at hG;have e1 : it.kind = 27 := by simpa using e1
   have e1' : Am it.kind = true := by rw [Am, decide_eq_true_eq]; omega
   have hb := X8 hG.1.1 hG.1.2 e1';have eT : TK ⟨13, ln, cl, 0, []⟩ (.cons it kt .nil) = TK it kt ++ [sg [59]] := rfl;have hb2 : Beg (TK ⟨13, ln, cl, 0, []⟩ (.cons it kt .nil)) := by rw [eT]; exact hb.app _
   refine ⟨fun n hn => ?_, b17 hb2, a6j hb2⟩;obtain ⟨n, rfl⟩ : ∃ m, n = m + 1 := ⟨n - 1, by omega⟩;have hl := hn;rw [eT] at hl;simp only [List.length_cons, List.length_append, List.length_nil] at hl;exact a2s hb2 (b45 (Jc hG.1.1 hG.1.2 e1' (by omega)) e1 (a6k hb))
def Dk (n : Nat) (i : Inf) (k : Fo) : Prop := Gs (Ia n) (TK i k) (BE i k) (DP i k) Any ∧ (∀ r, (hd (TK i k ++ r)).kind ≠ 8) ∧ 1 <= (TK i k).length
theorem Xu (F : Fo) : (Iw F).length <= (Ap (tkF F)).length := by
 have h : ∀ l : List TT, (l.flatMap fun x => x.2).length <= (l.flatMap fun y => sg [44] :: y.2).length := fun l => by
  induction l with
  | nil => exact Nat.le_refl _
  | cons x l ih => simp only [List.flatMap_cons, List.length_append, List.length_cons]; omega
 cases F with
 | nil => exact Nat.le_refl _
 | cons i k r =>
  have := h (tkF r);show ((tkF (.cons i k r)).flatMap fun x => x.2).length <= (TK i k ++ (tkF r).flatMap fun y => sg [44] :: y.2).length;rw [List.length_append, show tkF (.cons i k r) = (i, TK i k) :: tkF r from rfl, List.flatMap_cons, List.length_append];simp only;omega
theorem c0d {i : Inf} {k : Fo} (hg : Eo i k = true) (hG : A0 k = true) (hk : [2, 4].contains i.kind = true) {n : Nat} (hn : (TK i k).length < n) : Dk n i k := by
 obtain ⟨ht, hm, ha⟩ := Bv hg;obtain ⟨kd, ln, cl, num, tx⟩ := i;simp only at ht hm ha hk;have hk : kd = 2 ∨ kd = 4 := by simpa using hk
 rcases hk with rfl | rfl
 ·obtain rfl : num = 0 := by simpa [Bk] using hm
  have ha : (Aq k).all [3].contains = true := ha;have eT : TK ⟨2, ln, cl, 0, tx⟩ k = wd [114, 101, 99] :: bgT tx :: ([sg [123]] ++ Iw k ++ [sg [125]]) := rfl;have hl := hn;rw [eT] at hl;simp only [List.length_cons, List.length_append, List.length_nil] at hl
  have al : Al (fun i m => (Gs (Jr n) (TK i m) (BE i m) (DP i m) Any ∧ ∀ r, sees [125] (TK i m ++ r) = false ∧ Any (TK i m ++ r)) ∧ 1 <= (TK i m).length) k := a6u k hG ha fun i m a b c d e => by
   obtain ⟨ht2, hm2, ha2⟩ := Bv b;obtain ⟨kd, ln, cl, num, tx⟩ := i;simp only at ht2 hm2 ha2 d;obtain rfl : kd = 3 := by simpa using d
   obtain rfl : num = 0 := by simpa [Bk] using hm2
   obtain ⟨it, kt, rfl, e1⟩ := fx1 (P := Ck) ha2;simp only [A0, Bool.and_eq_true] at c;have eF : TK ⟨3, ln, cl, 0, tx⟩ (.cons it kt .nil) = nmT tx :: (sg [58] :: TK it kt ++ [sg [59]]) := rfl;have hl2 := e;rw [eF] at hl2;simp only [List.length_cons, List.length_append, List.length_nil] at hl2;refine ⟨⟨a99 (Sz c.1.1 c.1.2 e1 (by omega)), fun r => ⟨?_, trivial⟩⟩, by rw [eF]; simp⟩;rw [eF];exact I2 ⟨by show (1 : Nat) ≠ 6; decide, by show (1 : Nat) ≠ 7; decide⟩
  have htop := R2 k (al.imp fun i m h => h.2);refine ⟨He (b92 (by omega) (al.imp fun i m h => h.1)) (fun r _ => by rw [eT]; exact Lg _ _), fun r => ?_, by rw [eT]; simp⟩;rw [eT];show (6 : Nat) ≠ 8;decide
 ·have hA : Iu num [5].contains (Ak [Fi, [6].contains]) (Aq k) = true := ha;rw [Iu, Bool.and_eq_true, Bool.and_eq_true, decide_eq_true_eq] at hA;obtain ⟨h1, h2, h3⟩ := hA;obtain ⟨ps, ir, kr, ib, kb, rfl, t1, t2, t3, t4⟩ := a5i (P := [5].contains) (Q := Fi) (R := [6].contains) num.toNat k (by omega) h2 h3;obtain rfl : num = (Gl ps : Nat) := by omega
  have t4 := c6 t4;rw [b46, Bool.and_eq_true] at hG;obtain ⟨gP, gR⟩ := hG;simp only [A0, Bool.and_eq_true] at gR;have eT := @b7e ln cl tx ir ib ps kr kb;have hl := hn;rw [eT] at hl;simp only [List.length_cons, List.length_append, List.length_nil] at hl;have hfc := Xu ps
  have al : Al (fun i m => (Gs (Er 5 n) (TK i m) (BE i m) (DP i m) Any ∧ ∃ t q, TK i m = t :: q ∧ t.kind ≠ 6 ∧ t.kind ≠ 7) ∧ 1 <= (TK i m).length) ps := a6u ps gP t2 fun i m a b c d e => by
   obtain ⟨ht2, hm2, ha2⟩ := Bv b;obtain ⟨kd, ln, cl, num, tx⟩ := i;simp only at ht2 hm2 ha2 d;obtain rfl : kd = 5 := by simpa using d
   obtain rfl : num = 0 := by simpa [Bk] using hm2
   obtain ⟨it, kt, rfl, e1⟩ := fx1 (P := Ck) ha2;simp only [A0, Bool.and_eq_true] at c;have eF : TK ⟨5, ln, cl, 0, tx⟩ (.cons it kt .nil) = nmT tx :: (sg [58] :: TK it kt) := rfl;have hl2 := e;rw [eF] at hl2;simp only [List.length_cons, List.length_append, List.length_nil] at hl2;exact ⟨⟨a97 (Sz c.1.1 c.1.2 e1 (by omega)), _, _, eF, by show (1 : Nat) ≠ 6; decide, by show (1 : Nat) ≠ 7; decide⟩, by rw [eF]; simp⟩
  have htop := R2 ps (al.imp fun i m h => h.2)
  have hr0 : ir.kind = 14 -> BE ir kr = .cons ⟨14, 0, 0, 0, []⟩ .nil .nil := fun h14 => by
   obtain ⟨q1, q2, q3⟩ := Bv gR.1.1;obtain ⟨kd, ln2, cl2, num2, tx2⟩ := ir;simp only at q1 q2 q3 h14;subst h14;obtain rfl : num2 = 0 := by simpa [Bk] using q2
   obtain rfl : tx2 = [] := by simpa [Bc] using q1
   obtain rfl := fx0 (show Ak [] (Aq kr) = true from q3);rfl
  have hr1 : ir.kind ≠ 14 -> Gs (Eb n) (TK ir kr) (BE ir kr) (DP ir kr) Any := fun h14 => by
   rw [if_neg h14] at hl;simp only [List.length_cons, List.length_append, List.length_nil] at hl;refine Sz gR.1.1 gR.1.2 ?_ (by omega);rw [Fi, decide_eq_true_eq] at t3;rw [Ck, decide_eq_true_eq];omega
  have hb := P4 (s := kb.cnt + 1) (fun i k a b c d => c0a _ i k a b c d) t4 gR.2.1.1 gR.2.1.2 (by omega) (n := n) (by omega);have hf := c2k (i := ⟨4, ln, cl, (Gl ps : Nat), tx⟩) rfl rfl gP t2 (by omega) (al.imp fun i m h => h.1) hr0 hr1 hb ⟨_, Vv t4⟩;refine ⟨Ch hf (fun r _ => by rw [eT]; exact J2 (by decide) _), fun r => ?_, by rw [eT]; simp⟩;rw [eT];show (6 : Nat) ≠ 8;decide
def c3g (r : List Tok) : Prop := (hd r).kind = 8
theorem a95 {p : Pt} : ∀ (F : Fo) n, Gl F < n -> Al (fun i k => Gs p (TK i k) (BE i k) (DP i k) Any ∧ ∀ r, (hd (TK i k ++ r)).kind ≠ 8) F -> Gs (Ip p n) (Iw F) (Ax F) (Jx (dpF F)) c3g := by
 intro F
 induction F with
 | nil =>
  intro n hn _ d r hd hr;obtain ⟨n, rfl⟩ : ∃ m, n = m + 1 := ⟨n - 1, by omega⟩;refine .inl ⟨hd, ?_⟩;unfold Ip;rw [if_pos (show (YtoaplbljflhheaaGreat.hd (Iw .nil ++ r)).kind = 8 from hr)]
  rfl
 | cons i k r _ ihr =>
  intro n hn hA d q hd hq;simp only [Gl] at hn;obtain ⟨n, rfl⟩ : ∃ m, n = m + 1 := ⟨n - 1, by omega⟩;have ih := ihr n (by omega) hA.2 d q hd hq;have h1 := hA.1.1 d (Iw r ++ q) hd trivial;rw [G1, List.append_assoc];unfold Ip;rw [if_neg (hA.1.2 _)];refine (h1.bind (X := .ok (Ax (.cons i k r)) q) (c := d + Jx (dpF r) <= 40) ?_).imp ?_
  ·exact (ih.bind (f := fun G r' => Out.ok ((BE i k).app G) r') (X := .ok (Ax (.cons i k r)) q) (c := True) (CG.ok trivial)).imp (by simp)
  ·show d + DP i k <= 40 ∧ d + Jx (dpF r) <= 40 ↔ d + max (DP i k) (Jx (dpF r)) <= 40;omega
theorem a3p {i : Inf} {k : Fo} (hi : i.kind = 1) : TK i k = Iw k ∧ DP i k = Jx (dpF k) := by
 obtain ⟨kd, ln, cl, num, tx⟩ := i;simp only at hi;subst hi;exact ⟨rfl, rfl⟩
theorem c0b {i : Inf} {k : Fo} (hg : Eo i k = true) (hG : A0 k = true) (hi : i.kind = 1) {n : Nat} (hn : (TK i k).length < n) (r : List Tok) (hr : c3g r) : CG (Ju n 0 (TK i k ++ r)) (.ok (.cons ⟨1, 1, 1, 0, []⟩ (Ax k) .nil) r) (DP i k <= 40) := by
 obtain ⟨ht, hm, ha⟩ := Bv hg;rw [hi] at ha;have ha : (Aq k).all [2, 4].contains = true := ha;rw [(a3p hi).1] at hn ⊢;rw [(a3p hi).2];have al : Al (Dk n) k := a6u k hG ha fun i m a b c d e => c0d b c d (by omega)
 have htop := R2 k (al.imp fun i m h => h.2.2);have h := a95 k n (by omega) (al.imp fun i m h => ⟨h.1, h.2.1⟩) 0 r (by omega) hr;unfold Ju;rw [Nat.zero_add] at h;exact (h.bind (f := fun F r => Out.ok (.cons ⟨1, 1, 1, 0, []⟩ F .nil) r) (X := .ok (.cons ⟨1, 1, 1, 0, []⟩ (Ax k) .nil) r) (c := True) (CG.ok trivial)).imp (by simp)
end
section
def D1 (P : Nat -> Bool) (d : Nat) (F : Fo) (ts r : List Tok) : Prop := (∃ i k, F = .cons i k .nil ∧ Eo i k = true ∧ A0 k = true ∧ P i.kind = true ∧ d + DP i k <= 40) ∧ wF F + wL r <= wL ts ∧ WfL r
def D1P (P : Nat -> Bool) (p : Pt) : Prop := ∀ d ts F r, d <= 40 -> WfL ts -> p d ts = .ok F r -> D1 P d F ts r
def Dg (P : Nat -> Bool) (d : Nat) (F : Fo) (ts r : List Tok) : Prop := (A0 F = true ∧ (Aq F).all P = true ∧ d + Jx (dpF F) <= 40) ∧ wF F + wL r <= wL ts ∧ WfL r
theorem D1.dg {P : Nat -> Bool} {d : Nat} {F : Fo} {ts r : List Tok} (h : D1 P d F ts r) : Dg P d F ts r := by
 obtain ⟨⟨i, k, rfl, h1, h2, h3, h4⟩, h5⟩ := h;refine ⟨⟨?_, ?_, ?_⟩, h5⟩
 ·show (Eo i k && A0 k && true) = true;rw [h1, h2]; rfl
 ·show (P i.kind && true) = true;rw [h3]; rfl
 ·show d + max (DP i k) 0 <= 40;omega
theorem Dg.app {P : Nat -> Bool} {d : Nat} {F G : Fo} {ts q r : List Tok} (h : Dg P d F ts q) (k : Dg P d G q r) : Dg P d (F.app G) ts r := by
 obtain ⟨⟨h1, h2, h3⟩, h4, h5⟩ := h;obtain ⟨⟨k1, k2, k3⟩, k4, k5⟩ := k;refine ⟨⟨?_, ?_, ?_⟩, ?_, k5⟩
 ·rw [a5f, h1, k1]; rfl
 ·rw [a3a, List.all_append, h2, k2]; rfl
 ·rw [b5p, a9q]; omega
 ·rw [b67]; omega
section
variable {E B : Pt} (hE : D1P Am E) (hB : D1P [6].contains B) (n : Nat)
include hE
include hB
end
def Gp (i : Inf) (k : Fo) : Prop := Eo i k = true ∧ A0 k = true ∧ i.kind = 1
end
section
theorem a8b : ∀ n (m : List UInt8), m.length <= n -> (C5 m).2.2 = true -> (C5 m).1.length + 1 <= (C5 m).2.1 := by
 intro n
 induction n with
 | zero =>
  intro m hm h;obtain rfl : m = [] := List.eq_nil_of_length_eq_zero (by omega)
  simp [C5, rb] at h
 | succ n ih =>
  intro m hm h;by_cases hq : m.head? = some 34
  ·rw [Dv m hq]; exact Nat.le_refl _
  ·by_cases hb : (rb m).2.2 = true
   ·have hs := Eu m hq hb;have hz := Hz m hb;have h1 := ih (m.drop (rb m).2.1) (by simp; omega) (by rw [hs] at h; exact h);rw [hs];simp only [List.length_cons];omega
   ·rw [Gr m hq (by simpa using hb)] at h;cases h
theorem a8r (l : List UInt8) (h : (A8 l).2.2 = true) : (A8 l).1.length <= (A8 l).2.1 := by
 obtain ⟨t, rfl⟩ := Pf l h;rw [Im] at h ⊢;have := a8b _ t (Nat.le_refl _) h;simp only;omega
theorem a89 (l : List UInt8) : ∀ c ∈ W9 l, dgt c = true := fun c hc => I4 dgt l c (List.mem_of_mem_drop hc)
theorem a3z {l : List UInt8} (h : ∀ c ∈ l, dgt c = true) : 0 <= Nm.parseN l := by
 have hn : Nm.negB l = false := by
  cases l with
  | nil => rfl
  | cons c t =>
   have := h c (by simp);unfold dgt at this;rw [Bool.and_eq_true, decide_eq_true_eq, decide_eq_true_eq] at this;unfold Nm.negB;show (c == 45) = false;rw [beq_eq_false_iff_ne];rintro rfl;exact absurd this.1 (by decide)
 unfold Nm.parseN;rw [hn];split
 ·split
  ·exact Int.le_refl _
  ·rw [if_neg (by decide)]; exact Int.natCast_nonneg _
 ·exact Int.le_refl _
theorem b8s (l : List UInt8) (a b : Nat) (hl : l ≠ []) (h : (one l).err = 0) : WfT ⟨(one l).kind, a, b, (one l).num, (one l).text⟩ ∧ (one l).text.length <= (one l).size := by
 unfold one at *;split at h
 ·rename_i h1;rw [if_pos h1];have hp : 1 <= Bz nam l := Ks (by unfold nam; rw [h1]; rfl) hl;have hall := I4 nam l;have hall' : (l.take (Bz nam l)).all nam = true := List.all_eq_true.mpr hall
  have hd : (l.take (Bz nam l)).headD 0 = l.headD 0 := by
   cases l with
   | nil => exact absurd rfl hl
   | cons c t =>
    obtain ⟨m, hm⟩ : ∃ m, Bz nam (c :: t) = m + 1 := ⟨Bz nam (c :: t) - 1, by omega⟩;rw [hm]; rfl
  have he : (l.take (Bz nam l)).isEmpty = false := by
   cases l with
   | nil => exact absurd rfl hl
   | cons c t =>
    obtain ⟨m, hm⟩ : ∃ m, Bz nam (c :: t) = m + 1 := ⟨Bz nam (c :: t) - 1, by omega⟩;rw [hm]; rfl
  refine ⟨⟨?_, ?_, ?_, ?_⟩, ?_⟩
  ·intro hk;have hk : Kf l = 1 := hk;show Ed (l.take (Bz nam l)) = true;unfold Kf at hk;split at hk
   ·cases hk
   ·rename_i hw;split at hk
    ·cases hk
    ·rename_i hg
     have hs : sml (l.headD 0) = true := by
      cases hx : sml (l.headD 0)
      ·rw [hx] at h1; simp at h1; rw [Bool.not_eq_true] at hg; simp [h1] at hg
      ·rfl
     unfold Ed J4;rw [he, hd, b8a, hs, hall', Bool.eq_false_iff.mpr hw];rfl
  ·intro hk;have hk : Kf l = 2 := hk;show Ew (l.take (Bz nam l)) = true;unfold Kf at hk;split at hk
   ·cases hk
   ·split at hk
    ·rename_i hg;unfold Ew J4;rw [he, hd, b95, hg, hall'];rfl
    ·cases hk
  ·intro hk;have hk : Kf l = 3 := hk;unfold Kf at hk;split at hk
   ·cases hk
   ·split at hk <;> cases hk
  ·intro hk;have hk : Kf l = 4 := hk;unfold Kf at hk;split at hk
   ·cases hk
   ·split at hk <;> cases hk
  ·show (l.take (Bz nam l)).length <= Bz nam l;rw [List.length_take]; omega
 ·rename_i h1;rw [if_neg h1];split at h
  ·rename_i h2;rw [if_pos h2];unfold Mh at *;split at h
   ·simp [bad] at h
   ·rename_i h3;rw [if_neg h3];split at h
    ·simp [bad] at h
    ·rename_i h4;rw [if_neg h4];have hp := a3z (a89 l);have hr := Nm.parse_range (W9 l);refine ⟨⟨?_, ?_, ?_, ?_⟩, Nat.zero_le _⟩
     ·intro hk;have hk : (if isC l = true then 4 else 3) = 1 := hk;split at hk <;> cases hk
     ·intro hk;have hk : (if isC l = true then 4 else 3) = 2 := hk;split at hk <;> cases hk
     ·intro _; exact ⟨hp, hr.2⟩
     ·intro hk;have hk : (if isC l = true then 4 else 3) = 4 := hk;split at hk
      ·rename_i hc;have : a4a l = 8388607 := by unfold a4a; rw [if_pos hc]
       rw [this] at h4;refine ⟨hp, ?_⟩;show Nm.parseN (W9 l) < 8388608;omega
      ·cases hk
  ·rename_i h2;rw [if_neg h2];split at h
   ·rename_i h3;rw [if_pos h3];unfold Ll at *;split at h
    ·rename_i h4;rw [if_pos h4];exact ⟨⟨fun hk => absurd hk (by show ¬ (5 : Nat) = 1; decide), fun hk => absurd hk (by show ¬ (5 : Nat) = 2; decide), fun hk => absurd hk (by show ¬ (5 : Nat) = 3; decide), fun hk => absurd hk (by show ¬ (5 : Nat) = 4; decide)⟩, a8r l h4⟩
    ·simp [bad] at h
   ·rename_i h3;rw [if_neg h3];unfold Lh at *;split at h
    ·simp [bad] at h
    ·rename_i h4;rw [if_neg h4];refine ⟨⟨fun hk => absurd hk (by show ¬ (7 : Nat) = 1; decide), fun hk => absurd hk (by show ¬ (7 : Nat) = 2; decide), fun hk => absurd hk (by show ¬ (7 : Nat) = 3; decide), fun hk => absurd hk (by show ¬ (7 : Nat) = 4; decide)⟩, ?_⟩;show (l.take (sgn l)).length <= sgn l;rw [List.length_take]; omega
end
section
def Rg (z : Int) : Prop := -9223372036854775808 <= z ∧ z <= 9223372036854775807
def Bt (M : Nat) (t : Tok) : Prop := t.line <= M ∧ t.col <= M ∧ Rg t.num ∧ t.text.length <= M
def Bl (M : Nat) (ts : List Tok) : Prop := ∀ t ∈ ts, Bt M t
def Bi (M : Nat) (i : Inf) : Prop := i.kind <= 255 ∧ i.line <= M ∧ i.col <= M ∧ Rg i.num ∧ i.text.length <= M
def Bf (M : Nat) (F : Fo) : Prop := ∀ x ∈ Dh F, Bi M x.1
def Bp (M : Nat) (p : Pt) : Prop := ∀ d ts F r, Bl M ts -> p d ts = .ok F r -> Bf M F ∧ Bl M r
theorem rg0 : Rg 0 := by unfold Rg; omega
variable {M : Nat}
theorem Kl {ts : List Tok} (h : Bl M ts) : Bt M (hd ts) := by
 cases ts with
 | nil => exact ⟨Nat.zero_le _, Nat.zero_le _, rg0, Nat.zero_le _⟩
 | cons t l => exact h t (by simp)
theorem Hj {ts : List Tok} (h : Bl M ts) : Bl M ts.tail := fun t ht => h t (List.mem_of_mem_tail ht)
theorem Ej : Bf M .nil := fun x hx => by cases hx
theorem Gi {i : Inf} {k r : Fo} (h1 : Bi M i) (h2 : Bf M k) (h3 : Bf M r) : Bf M (.cons i k r) := fun x hx => by
 simp only [Dh, List.mem_cons, List.mem_append] at hx;rcases hx with rfl | hx | hx
 ·exact h1
 ·exact h2 x hx
 ·exact h3 x hx
theorem a7u (F G : Fo) : Dh (F.app G) = Dh F ++ Dh G := by
 induction F with
 | nil => rfl
 | cons i k r _ ihr => simp [Fo.app, Dh, ihr]
theorem N1 {F G : Fo} (h1 : Bf M F) (h2 : Bf M G) : Bf M (F.app G) := fun x hx => by
 rw [a7u, List.mem_append] at hx;rcases hx with hx | hx
 ·exact h1 x hx
 ·exact h2 x hx
def Bm (M : Nat) (mk : List Tok -> Inf) : Prop := ∀ ts, Bl M ts -> Bi M (mk ts)
theorem b52 {k : Nat} (hk : k <= 255) : Bm M (mkK k) := fun ts h => ⟨hk, (Kl h).1, (Kl h).2.1, rg0, Nat.zero_le _⟩
theorem c3d {k : Nat} {n : Int} (hk : k <= 255) (hn : Rg n) : Bm M (mkN k n) := fun ts h => ⟨hk, (Kl h).1, (Kl h).2.1, hn, Nat.zero_le _⟩
theorem c2u {k : Nat} (hk : k <= 255) : Bm M (mkX k) := fun ts h => ⟨hk, (Kl h).1, (Kl h).2.1, rg0, (Kl h).2.2.2⟩
theorem c2t {k : Nat} (hk : k <= 255) : Bm M (mkY k) := fun ts h => ⟨hk, (Kl h).1, (Kl h).2.1, rg0, (Kl (Hj h)).2.2.2⟩
theorem Iy : Bp M Bb := fun d ts F r h e => by cases e; exact ⟨Ej, h⟩
theorem K8 : Bp M Jm := fun d ts F r h e => by cases e
theorem Fj (q : List Tok -> Bool) : Bp M (Jv q) := fun d ts F r h e => by
 unfold Jv at e;split at e
 ·cases e; exact ⟨Ej, Hj h⟩
 ·cases e
theorem Km {a b : Pt} (ha : Bp M a) (hb : Bp M b) : Bp M (Fd a b) := fun d ts F r h e => by
 obtain ⟨F1, r1, e1, e2⟩ := Af e;obtain ⟨F2, r2, e3, e4⟩ := Af e2;cases e4;obtain ⟨h1, h2⟩ := ha _ _ _ _ h e1;obtain ⟨h3, h4⟩ := hb _ _ _ _ h2 e3;exact ⟨N1 h1 h3, h4⟩
theorem K9 {p : Pt} (hp : Bp M p) : Bp M (Ci p) := fun d ts F r h e => hp _ _ _ _ (Hj h) e
theorem Mv (x : List UInt8) {a b : Pt} (ha : Bp M a) (hb : Bp M b) : Bp M (Hp x a b) := fun d ts F r h e => by
 unfold Hp at e;split at e
 ·exact ha _ _ _ _ h e
 ·exact hb _ _ _ _ h e
theorem Qf {p : Pt} (hp : Bp M p) : Bp M (C9 p) := fun d ts F r h e => by
 unfold C9 at e;split at e
 ·cases e
 ·exact hp _ _ _ _ (Hj h) e
theorem Fa (o c : List UInt8) {p : Pt} (hp : Bp M p) : Bp M (Az o c p) := fun d ts F r h e => by
 unfold Az at e;split at e
 ·exact Km (Qf hp) (Fj _) _ _ _ _ h e
 ·cases e
theorem Ic {mk : List Tok -> Inf} {p : Pt} (hm : Bm M mk) (hp : Bp M p) : Bp M (B7 mk p) := fun d ts F r h e => by
 obtain ⟨F1, r1, e1, e2⟩ := Af e;cases e2;obtain ⟨h1, h2⟩ := hp _ _ _ _ h e1;exact ⟨Gi (hm ts h) h1 Ej, h2⟩
theorem Tg (x : List UInt8) {p : Pt} (hp : Bp M p) : ∀ n, Bp M (Cx x p n)
 | 0 => K8
 | n + 1 => fun d ts F r h e => by
  unfold Cx at e;split at e
  ·cases e; exact ⟨Ej, h⟩
  ·exact Km hp (Tg x hp n) _ _ _ _ h e
theorem Zr {p : Pt} (hp : Bp M p) : ∀ n, Bp M (I8 p n)
 | 0 => K8
 | n + 1 => fun d ts F r h e => by
  unfold I8 at e;obtain ⟨F1, r1, e1, e2⟩ := Af e;obtain ⟨h1, h2⟩ := hp _ _ _ _ h e1;split at e2
  ·obtain ⟨F2, r2, e3, e4⟩ := Af e2;cases e4;obtain ⟨h3, h4⟩ := Zr hp n _ _ _ _ (Hj h2) e3;exact ⟨N1 h1 h3, h4⟩
  ·cases e2; exact ⟨h1, h2⟩
theorem Vu {p : Pt} (hp : Bp M p) (n : Nat) : Bp M (Ee p n) := Mv _ Iy (Zr hp n)
theorem c17 (x : List UInt8) : Rg (Lf x) := by
 unfold Lf;have H : ∀ (p : Prop) [Decidable p] (a b : Int), Rg a -> Rg b -> Rg (if p then a else b) := fun p _ a b h1 h2 => by split <;> assumption
 repeat (refine H _ _ _ (by unfold Rg; omega) ?_)
 unfold Rg; omega
theorem Vw {p : Pt} (hp : Bp M p) {d : Nat} {ts r : List Tok} {F G : Fo} (h : Bl M ts) (hF : Bf M F) (e : Ds p F d ts = .ok G r) : Bf M G ∧ Bl M r := by
 obtain ⟨F1, r1, e1, e2⟩ := Af e;cases e2;obtain ⟨h1, h2⟩ := hp _ _ _ _ (Hj h) e1;exact ⟨Gi ⟨Nat.le_of_ble_eq_true rfl, (Kl h).1, (Kl h).2.1, c17 _, Nat.zero_le _⟩ (N1 hF h1) Ej, h2⟩
theorem Zu {p : Pt} (hp : Bp M p) (S : List (List UInt8)) : ∀ n (F G : Fo) d ts r, Bl M ts -> Bf M F -> C4 p S n F d ts = .ok G r -> Bf M G ∧ Bl M r
 | 0, _, _, _, _, _, _, _, e => by cases e
 | n + 1, F, G, d, ts, r, h, hF, e => by
  unfold C4 at e;split at e
  ·obtain ⟨F1, r1, e1, e2⟩ := Af e;obtain ⟨h1, h2⟩ := Vw hp h hF e1;exact Zu hp S n F1 G d r1 r h2 h1 e2
  ·cases e; exact ⟨hF, h⟩
theorem Ot {p : Pt} (hp : Bp M p) (S : List (List UInt8)) (n : Nat) : Bp M (Dc p S n) := fun d ts F r h e => by
 obtain ⟨F1, r1, e1, e2⟩ := Af e;obtain ⟨h1, h2⟩ := hp _ _ _ _ h e1;exact Zu hp S n F1 F d r1 r h2 h1 e2
theorem a6f {p : Pt} (hp : Bp M p) (S : List (List UInt8)) : Bp M (Ld p S) := fun d ts F r h e => by
 obtain ⟨F1, r1, e1, e2⟩ := Af e;obtain ⟨h1, h2⟩ := hp _ _ _ _ h e1;split at e2
 ·exact Vw hp h2 h1 e2
 ·cases e2; exact ⟨h1, h2⟩
theorem Zq : Bp M Ba := fun d ts F r h e => by
 unfold Ba at e;split at e
 ·rename_i q hq;cases e;have ht := Kl h;refine ⟨Gi ⟨?_, ht.1, ht.2.1, rg0, ?_⟩ Ej Ej, Hj h⟩
  ·rcases O1 hq with ⟨rfl, _⟩ | ⟨_, h2, h3⟩
   ·exact Nat.le_of_ble_eq_true rfl
   ·show q.1 <= 255; omega
  ·rcases O1 hq with ⟨rfl, _⟩ | ⟨h1, _⟩
   ·exact ht.2.2.2
   ·show q.2.length <= M; rw [h1]; exact Nat.zero_le _
 ·cases e
theorem Qe {p : Pt} (hp : Bp M p) : Bp M (Bq p) := Ic (b52 (Nat.le_of_ble_eq_true rfl)) (Fa _ _ hp)
theorem Qd : ∀ n, Bp M (Eb n)
 | 0 => K8
 | n + 1 => Mv _ (Qe (Qd n)) Zq
theorem b05 {t : Tok} {q : Nat × Int × List UInt8} (ht : Bt M t) (h : Cc t = some q) : q.1 <= 255 ∧ Rg q.2.1 ∧ q.2.2.length <= M := by
 unfold Cc at h;split at h
 ·cases h; exact ⟨Nat.le_of_ble_eq_true rfl, ht.2.2.1, Nat.zero_le _⟩
 ·split at h
  ·cases h; exact ⟨Nat.le_of_ble_eq_true rfl, ht.2.2.1, Nat.zero_le _⟩
  ·split at h
   ·cases h; exact ⟨Nat.le_of_ble_eq_true rfl, rg0, ht.2.2.2⟩
   ·repeat' split at h
    all_goals first | (cases h; refine ⟨Nat.le_of_ble_eq_true rfl, ?_, Nat.zero_le _⟩; simp only [Rg]; omega) | cases h
theorem b1a : Bp M Hv := fun d ts F r h e => by
 unfold Hv at e;split at e
 ·rename_i q hq;cases e;have ht := Kl h;obtain ⟨h1, h2, h3⟩ := b05 ht hq;exact ⟨Gi ⟨h1, ht.1, ht.2.1, h2, h3⟩ Ej Ej, Hj h⟩
 ·cases e
section
variable {E : Pt} (hE : Bp M E)
include hE
theorem b5y (n : Nat) : Bp M (H7 E n) := fun d ts F r h e => by
 unfold H7 at e;split at e
 ·exact Ic (c2u (Nat.le_of_ble_eq_true rfl)) (K9 (Fa _ _ (Vu hE n))) _ _ _ _ h e
 ·cases e; exact ⟨Gi (c2u (Nat.le_of_ble_eq_true rfl) ts h) Ej Ej, Hj h⟩
theorem b5z (n : Nat) : Bp M (Lu E n) := Ic (b52 (Nat.le_of_ble_eq_true rfl)) (K9 fun d ts F r h e => by
 split at e
 ·exact Km Zq (Fa _ _ Iy) _ _ _ _ h e
 ·exact Km (Qe (Qd n)) (Fa _ _ hE) _ _ _ _ h e)
theorem b51 (n : Nat) : Bp M (Fk E n) := fun d ts F r h e => by
 unfold Fk at e;split at e
 ·exact Fa _ _ hE _ _ _ _ h e
 ·split at e
  ·exact b5z hE n _ _ _ _ h e
  ·split at e
   ·exact b5y hE n _ _ _ _ h e
   ·exact b1a _ _ _ _ h e
theorem X7 : ∀ n (F G : Fo) d ts r, Bl M ts -> Bf M F -> Dl E n F d ts = .ok G r -> Bf M G ∧ Bl M r
 | 0, _, _, _, _, _, _, _, e => by cases e
 | n + 1, F, G, d, ts, r, h, hF, e => by
  unfold Dl at e;split at e
  ·obtain ⟨F1, r1, e1, e2⟩ := Af e;obtain ⟨h1, h2⟩ := Fa _ _ hE _ _ _ _ h e1;exact X7 n _ G d r1 r h2 (Gi (b52 (Nat.le_of_ble_eq_true rfl) ts h) (N1 hF h1) Ej) e2
  ·split at e
   ·obtain ⟨F1, r1, e1, e2⟩ := Af e;obtain ⟨h1, h2⟩ := Fj _ _ _ _ _ (Hj h) e1;exact X7 n _ G d r1 r h2 (Gi (c2t (Nat.le_of_ble_eq_true rfl) ts h) hF Ej) e2
   ·cases e; exact ⟨hF, h⟩
theorem b5x (n : Nat) : Bp M (I7 E n) := fun d ts F r h e => by
 obtain ⟨F1, r1, e1, e2⟩ := Af e;obtain ⟨h1, h2⟩ := b51 hE n _ _ _ _ h e1;exact X7 hE n F1 F d r1 r h2 h1 e2
end
theorem b09 {U p : Pt} (hU : Bp M U) (hp : Bp M p) : Bp M (Dm U p) := fun d ts F r h e => by
 unfold Dm at e;split at e
 ·exact Ic (c3d (Nat.le_of_ble_eq_true rfl) (by unfold Rg; omega)) (Qf hU) _ _ _ _ h e
 ·split at e
  ·exact Ic (c3d (Nat.le_of_ble_eq_true rfl) (by unfold Rg; omega)) (Qf hU) _ _ _ _ h e
  ·exact hp _ _ _ _ h e
theorem c2r {u : Pt} (h : Bp M u) (n : Nat) : Bp M (orP u n) := Ot (Ot (a6f (a6f (Ot (Ot h _ n) _ n) _) _) _ n) _ n
theorem c0z : ∀ n, Bp M (Bu n) ∧ Bp M (unP n)
 | 0 => ⟨K8, K8⟩
 | n + 1 => by
  obtain ⟨h1, h2⟩ := c0z n;have h := b09 h2 (b5x h1 (n + 1));exact ⟨c2r h (n + 1), h⟩
theorem b8v (l : List UInt8) (hl : l ≠ []) (h : (one l).err = 0) : Rg (one l).num ∧ (one l).text.length <= l.length := by
 have h1 := (b8s l 0 0 hl h).2;have h2 := (Pk l hl h).2;refine ⟨?_, by omega⟩;unfold one Mh Ll Lh
 repeat' split
 all_goals first | exact rg0 | exact Nm.parse_range _
theorem O3 : ∀ n (l : List UInt8) (a b : Nat) (ts : List Tok), l.length <= n -> F8 l a b = .ok ts -> a + l.length <= M -> b + l.length <= M -> 1 + l.length <= M -> Bl M ts
 | n, [], a, b, ts, _, e, ha, hb, h1 => by
  rw [L6] at e;cases e;intro t ht;rw [List.mem_singleton] at ht;subst ht
  exact ⟨ha, hb, rg0, Nat.zero_le _⟩
 | 0, c :: t, _, _, _, hn, _, _, _, _ => by simp at hn
 | n + 1, c :: t, a, b, ts, hn, e, ha, hb, h1 => by
  rw [List.length_cons] at hn ha hb h1;by_cases hg : Fy c
  ·rcases hg with rfl | h
   ·rw [R3] at e;exact O3 n t _ _ ts (by omega) e (by omega) (by omega) (by omega)
   ·by_cases h35 : c = 35
    ·subst h35;rw [O2] at e;have hle := I3 nlf t;exact O3 n _ _ _ ts (by rw [List.length_drop]; omega) e (by rw [List.length_drop]; omega) (by rw [List.length_drop]; omega) (by rw [List.length_drop]; omega)
    ·rw [Eg c t a b (by rcases h with h | h | h | h <;> simp [h] at h35 ⊢)] at e;exact O3 n t _ _ ts (by omega) e (by omega) (by omega) (by omega)
  ·by_cases h0 : (one (c :: t)).err = 0
   ·rw [Oa c t a b hg h0] at e;obtain ⟨o1, o2⟩ := Pk (c :: t) (by simp) h0;obtain ⟨w1, w2⟩ := b8v (c :: t) (by simp) h0;rw [List.length_cons] at o2 w2
    cases hr : F8 ((c :: t).drop (one (c :: t)).size) a (b + (one (c :: t)).size) with
    | error x => rw [hr] at e; cases e
    | ok r =>
     rw [hr] at e;cases e;have ih := O3 n _ _ _ r (by rw [List.length_drop, List.length_cons]; omega) hr (by rw [List.length_drop, List.length_cons]; omega) (by rw [List.length_drop, List.length_cons]; omega) (by rw [List.length_drop, List.length_cons]; omega);intro x hx;rcases List.mem_cons.mp hx with rfl | hx
     ·exact ⟨by show a <= M; omega, by show b <= M; omega, w1, by show (one (c :: t)).text.length <= M; omega⟩
     ·exact ih x hx
   ·rw [R4 c t a b hg h0] at e;cases e
end
section
variable {M : Nat}
theorem Zt : ∀ {l : List Pt}, (∀ p ∈ l, Bp M p) -> Bp M (Cv l)
 | [], _ => Iy
 | p :: l, h => Km (h p (by simp)) (Zt fun q hq => h q (by simp [hq]))
theorem Mu {k : Nat} {l : List Pt} (hk : k <= 255) (h : ∀ p ∈ l, Bp M p) : Bp M (C6 k l) := Ic (b52 hk) (K9 (Zt h))
theorem c0x {E : Pt} (hE : Bp M E) : Bp M (M2 E) := fun d ts F r h e => by
 obtain ⟨F1, r1, e1, e2⟩ := Af e;obtain ⟨h1, h2⟩ := hE _ _ _ _ h e1;split at e2
 ·obtain ⟨F2, r2, e3, e4⟩ := Af e2;cases e4;obtain ⟨h3, h4⟩ := Km (Fj _) (Km hE (Fj _)) _ _ _ _ h2 e3;exact ⟨Gi (b52 (Nat.le_of_ble_eq_true rfl) ts h) (N1 h1 h3) Ej, h4⟩
 ·split at e2
  ·obtain ⟨F2, r2, e3, e4⟩ := Af e2;cases e4;obtain ⟨h3, h4⟩ := Fj _ _ _ _ _ h2 e3;exact ⟨Gi (b52 (Nat.le_of_ble_eq_true rfl) ts h) (N1 h1 h3) Ej, h4⟩
  ·cases e2
theorem a6c {E B : Pt} (hE : Bp M E) (hB : Bp M B) (n : Nat) : Bp M (Ik E B n) := by
 refine Mv _ (Ic (c2t (Nat.le_of_ble_eq_true rfl)) (K9 (Zt fun p hp => ?_))) (Mv _ (Mu (Nat.le_of_ble_eq_true rfl) fun p hp => ?_) (Mv _ (Mu (Nat.le_of_ble_eq_true rfl) fun p hp => ?_) (Mv _ (Mu (Nat.le_of_ble_eq_true rfl) fun p hp => ?_) (Mv _ (Mu (Nat.le_of_ble_eq_true rfl) fun p hp => ?_) (c0x hE)))))
 all_goals simp only [List.mem_cons, List.not_mem_nil, or_false] at hp
 ·rcases hp with rfl | rfl | rfl | rfl | rfl | rfl <;> first | exact Fj _ | exact Qd _ | exact hE
 ·rcases hp with rfl | rfl | rfl <;> first | exact hE | exact hB | exact Mv _ (K9 hB) Iy
 ·rcases hp with rfl | rfl <;> first | exact hE | exact hB
 ·rcases hp with rfl | rfl <;> first | exact Fj _ | exact Mv _ Iy hE
 ·rcases hp with rfl | rfl <;> first | exact Fj _ | exact hE
theorem Zs {S : Pt} (h : Bp M S) (n : Nat) : Bp M (Fb S n) := Ic (b52 (Nat.le_of_ble_eq_true rfl)) (Fa _ _ (Tg _ h n))
theorem a6d : ∀ n, Bp M (L7 n)
 | 0 => K8
 | n + 1 => a6c (c0z _).1 (Zs (a6d n) n) _
theorem Zo {k : Nat} (hk : k <= 255) (n : Nat) : Bp M (Er k n) := Ic (c2u hk) (Zt fun p hp => by
 simp only [List.mem_cons, List.not_mem_nil, or_false] at hp
 rcases hp with rfl | rfl | rfl <;> first | exact Fj _ | exact Qd _)
theorem c0y (n : Nat) : Bp M (a8n n) := Ic (c2t (Nat.le_of_ble_eq_true rfl)) (K9 (Km (Fj _) (Fa _ _ (Tg _ (Km (Zo (Nat.le_of_ble_eq_true rfl) n) (Fj _)) n))))
theorem a6e (n : Nat) : Bp M (Gb n) := fun d ts F r h e => by
 unfold Gb at e;split at e
 ·exact Qd n _ _ _ _ (Hj h) e
 ·cases e; exact ⟨Gi ⟨Nat.le_of_ble_eq_true rfl, Nat.zero_le _, Nat.zero_le _, rg0, Nat.zero_le _⟩ Ej Ej, h⟩
theorem c2s (n : Nat) {d : Nat} {ts r : List Tok} {F : Fo} (h : Bl M ts) (hl : ts.length <= 1000000) (e : fnP n d ts = .ok F r) : Bf M F ∧ Bl M r := by
 obtain ⟨F0, r0, e0, e1⟩ := Af e;obtain ⟨F1, r1, e2, e3⟩ := Af e1;obtain ⟨F2, r2, e4, e5⟩ := Af e3;cases e5;have l0 := Ct _ _ _ _ _ e0;have l1 := Jp (Gg 1 (by decide) (by decide)) (Bs (D8 ((Fu 5 n).mono (by omega)) n)) _ _ _ _ e2;obtain ⟨_, h0⟩ := Fj _ _ _ _ _ h e0;obtain ⟨h1, h2⟩ := Km (Fj _) (Fa _ _ (Vu (Zo (Nat.le_of_ble_eq_true rfl) n) n)) _ _ _ _ h0 e2;obtain ⟨h3, h4⟩ := Km (a6e n) (Zs (a6d n) n) _ _ _ _ h2 e4;refine ⟨Gi ⟨Nat.le_of_ble_eq_true rfl, (Kl h).1, (Kl h).2.1, ?_, (Kl h0).2.2.2⟩ (N1 h1 h3) Ej, h4⟩;have hc : Lm 5 F1.post <= F1.post.length := List.length_filter_le _ _;rw [Ao] at hc;have := l0.1;have := l1.1;unfold Rg;simp only;omega
theorem b50 (n : Nat) {d : Nat} {ts r : List Tok} {F : Fo} (h : Bl M ts) (hl : ts.length <= 1000000) (e : Ia n d ts = .ok F r) : Bf M F ∧ Bl M r := by
 unfold Ia Hp at e;split at e
 ·exact c0y n _ _ _ _ h e
 ·exact c2s n h hl e
theorem Zp (m : Nat) : ∀ n d (ts : List Tok) F r, Bl M ts -> ts.length <= 1000000 -> Ip (Ia m) n d ts = .ok F r -> Bf M F ∧ Bl M r
 | 0, _, _, _, _, _, _, e => by cases e
 | n + 1, d, ts, F, r, h, hl, e => by
  unfold Ip at e;split at e
  ·cases e; exact ⟨Ej, h⟩
  ·obtain ⟨F1, r1, e1, e2⟩ := Af e;obtain ⟨F2, r2, e3, e4⟩ := Af e2;cases e4;have l1 := Xs m _ _ _ _ e1;obtain ⟨h1, h2⟩ := b50 m h hl e1;obtain ⟨h3, h4⟩ := Zp m n d r1 F2 r h2 (by have := l1.1; omega) e3;exact ⟨N1 h1 h3, h4⟩
theorem b5w (n : Nat) {d : Nat} {ts r : List Tok} {F : Fo} (h : Bl M ts) (hM : 1 <= M) (hl : ts.length <= 1000000) (e : Ju n d ts = .ok F r) : Bf M F ∧ Bl M r := by
 obtain ⟨F1, r1, e1, e2⟩ := Af e;cases e2;obtain ⟨h1, h2⟩ := Zp n n _ _ _ _ h hl e1;exact ⟨Gi ⟨Nat.le_of_ble_eq_true rfl, hM, hM, rg0, Nat.zero_le _⟩ h1 Ej, h2⟩
end
section
def rgK (k : Nat) : Bool := decide (2 <= k ∧ k <= 32)
theorem Ga : ∀ {ps : List (Nat -> Bool)} {ks : List Nat}, Ak ps ks = true -> (∀ p ∈ ps, ∀ k, p k = true -> rgK k = true) -> ks.all rgK = true := fun {ps ks} h hp => by
 unfold Ak at h;rw [Bool.and_eq_true, decide_eq_true_eq, List.all_eq_true] at h;obtain ⟨hl, h⟩ := h;rw [List.all_eq_true];intro k hk;obtain ⟨n, hn, rfl⟩ := List.getElem_of_mem hk;have := h n (by rw [List.mem_range]; omega);have e1 : ks.getD n 0 = ks[n] := by simp [List.getD, List.getElem?_eq_getElem hn]
 have e2 : ps.getD n (fun _ => false) = ps[n] := by simp [List.getD, List.getElem?_eq_getElem (show n < ps.length by omega)]
 rw [e1, e2] at this;exact hp _ (List.getElem_mem _) _ this
theorem Ns {k : Nat} (h : Am k = true) : rgK k = true := by
 rw [Am, decide_eq_true_eq] at h;rw [rgK, decide_eq_true_eq]; omega
theorem b1y {k : Nat} (h : Ck k = true) : rgK k = true := by
 rw [Ck, decide_eq_true_eq] at h;rw [rgK, decide_eq_true_eq]; omega
theorem b8f {k : Nat} (h : Fi k = true) : rgK k = true := by
 rw [Fi, decide_eq_true_eq] at h;rw [rgK, decide_eq_true_eq]; omega
theorem b8e {k : Nat} (h : Dt k = true) : rgK k = true := by
 rw [Dt, decide_eq_true_eq] at h;rw [rgK, decide_eq_true_eq]; omega
theorem J8 {l : List Nat} (hl : l.all rgK = true) {k : Nat} (h : l.contains k = true) : rgK k = true := by
 rw [List.all_eq_true] at hl;exact hl k (by simpa using h)
theorem Ug {P : Nat -> Bool} (hP : ∀ k, P k = true -> rgK k = true) {ks : List Nat} (h : ks.all P = true) : ks.all rgK = true := by
 rw [List.all_eq_true] at h ⊢;exact fun k hk => hP k (h k hk)
theorem b1z {k : Nat} {num : Int} {ks : List Nat} (h : Hl k num ks = true) : ks.all rgK = true := by
 have h0 : Ak [] ks = true -> ks.all rgK = true := fun h => Ga h (by intro p hp; cases hp)
 have ht : Ak [Ck] ks = true -> ks.all rgK = true := fun h => Ga h (by intro p hp k; simp only [List.mem_cons, List.not_mem_nil, or_false] at hp; rcases hp with rfl; exact b1y)
 have h1 : Ak [Am] ks = true -> ks.all rgK = true := fun h => Ga h (by intro p hp k; simp only [List.mem_cons, List.not_mem_nil, or_false] at hp; rcases hp with rfl; exact Ns)
 have h2 : Ak [Am, Am] ks = true -> ks.all rgK = true := fun h => Ga h (by intro p hp k; simp only [List.mem_cons, List.not_mem_nil, or_false] at hp; rcases hp with rfl | rfl <;> exact Ns)
 have h6 : Ak [Am, [6].contains] ks = true -> ks.all rgK = true := fun h => Ga h (by intro p hp k; simp only [List.mem_cons, List.not_mem_nil, or_false] at hp; rcases hp with rfl | rfl; exact Ns; exact J8 (by decide))
 unfold Hl at h;split at h
 ·exact Ug (fun k => J8 (by decide)) h
 ·exact Ug (fun k => J8 (by decide)) h
 ·exact ht h
 ·exact ht h
 ·exact ht h
 ·rw [Iu, Bool.and_eq_true, Bool.and_eq_true] at h;have a := Ug (fun k => J8 (l := [5]) (by decide)) h.2.1;have b := Ga h.2.2 (by intro p hp k; simp only [List.mem_cons, List.not_mem_nil, or_false] at hp; rcases hp with rfl | rfl; exact b8f; exact J8 (by decide));rw [<- List.take_append_drop num.toNat ks, List.all_append, a, b]; rfl
 ·exact Ug (fun k => b8e) h
 ·exact Ga h (by intro p hp k; simp only [List.mem_cons, List.not_mem_nil, or_false] at hp; rcases hp with rfl | rfl; exact b1y; exact Ns)
 ·exact Ga h (by intro p hp k; simp only [List.mem_cons, List.not_mem_nil, or_false] at hp; rcases hp with rfl | rfl; exact J8 (by decide); exact Ns)
 ·rw [Bool.or_eq_true] at h;rcases h with h | h
  ·exact h6 h
  ·exact Ga h (by intro p hp k; simp only [List.mem_cons, List.not_mem_nil, or_false] at hp; rcases hp with rfl | rfl | rfl; exact Ns; exact J8 (by decide); exact J8 (by decide))
 ·exact h6 h
 ·rw [Bool.or_eq_true] at h;rcases h with h | h
  ·exact h0 h
  ·exact h1 h
 ·exact Ga h (by intro p hp k; simp only [List.mem_cons, List.not_mem_nil, or_false] at hp; rcases hp with rfl; exact J8 (by decide))
 ·exact Ug (fun k => Ns) h
 ·exact h1 h
 ·exact h1 h
 ·exact h1 h
 ·exact h2 h
 ·exact h2 h
 ·rw [Bool.or_eq_true] at h;rcases h with h | h
  ·exact Ga h (by intro p hp k; simp only [List.mem_cons, List.not_mem_nil, or_false] at hp; rcases hp with rfl; exact J8 (by decide))
  ·exact Ga h (by intro p hp k; simp only [List.mem_cons, List.not_mem_nil, or_false] at hp; rcases hp with rfl | rfl; exact J8 (by decide); exact Ns)
 ·exact h0 h
theorem b3g {F : Fo} (hg : A0 F = true) (hr : (Aq F).all rgK = true) : ∀ x ∈ Dh F, 2 <= x.1.kind ∧ x.1.kind <= 32 := by
 induction F with
 | nil => intro x hx; cases hx
 | cons i k r ihk ihr =>
  rw [A0, Bool.and_eq_true, Bool.and_eq_true] at hg;rw [Aq, List.all_cons, Bool.and_eq_true] at hr;intro x hx;simp only [Dh, List.mem_cons, List.mem_append] at hx;rcases hx with rfl | hx | hx
  ·have := hr.1;rw [rgK, decide_eq_true_eq] at this;exact this
  ·exact ihk hg.1.2 (b1z (Bv hg.1.1).2.2) x hx
  ·exact ihr hg.2 hr.2 x hx
theorem b1e (F : Fo) : Ax (Ax F) = Ax F := by
 induction F with
 | nil => rfl
 | cons i k r ihk ihr => simp only [Ax, ihk, ihr]; rfl
def c0l : Tok := ⟨8, 0, 0, 0, []⟩
theorem a3q {i : Inf} {k : Fo} (h : Gp i k) (hn : Nu (.cons i k .nil)) : ∃ U, F8 (Jw 0 i (F9 0 k)) 1 1 = .ok U ∧ ((DP i k <= 40 ∧ ∃ G q, Ig (Ju U.length) U = .ok G q ∧ Ax G = Ax (.cons i k .nil)) ∨ (¬ DP i k <= 40 ∧ ∃ l c, Ig (Ju U.length) U = .bad 6 l c)) := by
 obtain ⟨hg, hG, hi⟩ := h;obtain ⟨p1, p2, p3⟩ := Bv hg;have hkr : (Aq k).all rgK = true := b1z p3;have hks := b3g hG hkr;have hl := a4q 0 hG (fun x hx => hn x (by simp [Dh, hx])) hks
 have h14 : a6x (F9 0 k) := by
  rw [hi] at p3;have p3 : (Aq k).all [2, 4].contains = true := p3;rw [<- O9 0 k] at p3;exact a6t (P := [2, 4].contains) (fun k => c14 (by decide)) p3
 have hs : Lx false (Jw 0 i (F9 0 k)) (TK i k) := by
  obtain ⟨kd, ln, cl, num, tx⟩ := i;simp only at hi;subst hi;exact a4o hl h14
 obtain ⟨l', c', T', hT, hk⟩ := hs [] 1 1 (fun h => by cases h) (fun c hc => by cases hc);rw [List.append_nil, L6] at hk;refine ⟨T' ++ [⟨8, l', c', 0, []⟩], by rw [hk]; rfl, ?_⟩;have hT2 : (TK i k).map tkB = TK i k := by rw [<- hT, List.map_map]; rfl
 have hsm : SmT (T' ++ [⟨8, l', c', 0, []⟩]) (TK i k ++ [c0l]) := by
  unfold SmT;rw [List.map_append, List.map_append, hT, hT2];rfl
 have hlen : (T' ++ [(⟨8, l', c', 0, []⟩ : Tok)]).length = (TK i k).length + 1 := by
  rw [List.length_append, <- hT, List.length_map]; rfl
 rw [hlen];have hA := c0b hg hG hi (Nat.lt_succ_self (TK i k).length) [c0l] rfl
 have hbare : Ax (.cons ⟨1, 1, 1, 0, []⟩ (Ax k) .nil) = Ax (.cons i k .nil) := by
  obtain ⟨kd, ln, cl, num, tx⟩ := i;simp only at hi p1 p2;subst hi;obtain rfl : tx = [] := by simpa [Bc] using p1
  obtain rfl : num = 0 := by simpa [Bk] using p2
  show Fo.cons _ (Ax (Ax k)) .nil = _;rw [b1e]; rfl
 have hw := a4b (a9c ((TK i k).length + 1)) hsm;rcases hA with ⟨hb, hA⟩ | ⟨hb, l, c, hA⟩
 ·have e : Ig (Ju ((TK i k).length + 1)) (TK i k ++ [c0l]) = .ok (.cons ⟨1, 1, 1, 0, []⟩ (Ax k) .nil) [c0l] := by
   unfold Ig;rw [hA]; rfl
  rw [e] at hw;refine .inl ⟨hb, ?_⟩
  cases hx : Ig (Ju ((TK i k).length + 1)) (T' ++ [⟨8, l', c', 0, []⟩]) with
  | ok G q =>
   rw [hx] at hw
   exact ⟨G, q, rfl, by rw [hw.1]; exact hbare⟩
  | bad a b c => rw [hx] at hw; exact hw.elim
 ·have e : Ig (Ju ((TK i k).length + 1)) (TK i k ++ [c0l]) = .bad 6 l c := by
   unfold Ig;rw [hA]; rfl
  rw [e] at hw;refine .inr ⟨hb, ?_⟩
  cases hx : Ig (Ju ((TK i k).length + 1)) (T' ++ [⟨8, l', c', 0, []⟩]) with
  | ok G q => rw [hx] at hw; exact hw.elim
  | bad a b c =>
   rw [hx] at hw;have hw : a = 6 := hw;subst hw;exact ⟨b, c, rfl⟩
theorem a7e {p : Pt} {T r : List Tok} {F : Fo} (h : Ig p T = .ok F r) : p 0 T = .ok F r := by
 obtain ⟨F1, r1, e1, e2⟩ := Af h;split at e2
 ·cases e2; exact e1
 ·cases e2
end
section
end
section
end
section
theorem b66 {F : Fo} (h : Bf 100000 F) (hc : F.cnt <= 4000) : ∀ i, i < F.pre.length -> (nd F.pre i).wf := fun i hi => by
 rw [Cz] at hi;rw [Ka hi]
 obtain ⟨hm, hle⟩ : Ag F i ∈ Dh F ∧ (Ag F i).2.cnt <= F.cnt := by
  have hm : Ag F i ∈ Dh F := by
   unfold Ag;rw [List.getD_eq_getElem?_getD, List.getElem?_eq_getElem (by rw [Bd]; exact hi)];exact List.getElem_mem _
  refine ⟨hm, ?_⟩
  have : ∀ (G : Fo), ∀ x ∈ Dh G, x.2.cnt <= G.cnt := fun G => by
   induction G with
   | nil => intro x hx; cases hx
   | cons j k r ihk ihr =>
    intro x hx;simp only [Dh, List.mem_cons, List.mem_append] at hx;rw [Fo.cnt];rcases hx with rfl | hx | hx
    ·show k.cnt <= _; omega
    ·have := ihk x hx; omega
    ·have := ihr x hx; omega
  exact this F _ hm
 obtain ⟨h1, h2, h3, h4, h5⟩ := h _ hm
 exact ⟨by show (Ag F i).1.kind < 256; omega, by show Bg ((Ag F i).1.line : Int); unfold Bg; omega, by show Bg ((Ag F i).1.col : Int); unfold Bg; omega,
  by show Bg ((Ag F i).2.cnt : Int); unfold Bg; omega, h4, by show (bs (Ag F i).1.text).size <= maxLen; simp [bs, ByteArray.size, maxLen]; omega⟩
theorem a2z : ∀ (F G : Fo), Ax F = Ax G -> F.pre.length = G.pre.length ∧ ∀ i, i < F.pre.length -> eqN (nd F.pre i) (nd G.pre i) = true := fun F G e => by
 have hs : ∀ (F : Fo), (Dh (Ax F)).map (fun x => (x.1, x.2.cnt)) = (Dh F).map fun x => (Gj x.1, x.2.cnt) := fun F => by
  have hcnt : ∀ F : Fo, (Ax F).cnt = F.cnt := fun F => by
   induction F with
   | nil => rfl
   | cons i k r ihk ihr => simp only [Ax, Fo.cnt, ihk, ihr]
  induction F with
  | nil => rfl
  | cons i k r ihk ihr => simp only [Ax, Dh, List.map_cons, List.map_append, ihk, ihr, hcnt]
 have h := (hs F).symm.trans ((congrArg (fun F => (Dh F).map (fun x => (x.1, x.2.cnt))) e).trans (hs G));have hl : (Dh F).length = (Dh G).length := by have := congrArg List.length h; simpa using this
 have hl2 : F.pre.length = G.pre.length := by rw [Me, Me, List.length_map, List.length_map]; exact hl
 refine ⟨hl2, fun i hi => ?_⟩;rw [Cz] at hi;have hi2 : i < G.cnt := by rw [<- Cz, <- hl2, Cz]; exact hi
 rw [Ka hi, Ka hi2];have hf : Ag F i = (Dh F)[i]'(by rw [Bd]; exact hi) := by unfold Ag; rw [List.getD_eq_getElem?_getD, List.getElem?_eq_getElem (by rw [Bd]; exact hi)]; rfl
 have hg : Ag G i = (Dh G)[i]'(by rw [Bd]; exact hi2) := by unfold Ag; rw [List.getD_eq_getElem?_getD, List.getElem?_eq_getElem (by rw [Bd]; exact hi2)]; rfl
 have hx : (Gj (Ag F i).1, (Ag F i).2.cnt) = (Gj (Ag G i).1, (Ag G i).2.cnt) := by
  have := congrArg (fun l => l[i]?) h;simp only [List.getElem?_map, List.getElem?_eq_getElem (show i < (Dh F).length by rw [Bd]; exact hi), List.getElem?_eq_getElem (show i < (Dh G).length by rw [Bd]; exact hi2), Option.map_some, Option.some.injEq] at this;rw [hf, hg]; exact this
 rw [Prod.mk.injEq] at hx;obtain ⟨hx1, hx2⟩ := hx;have e1 := congrArg Inf.kind hx1;have e2 := congrArg Inf.num hx1;have e3 := congrArg Inf.text hx1;simp only [Gj] at e1 e2 e3;simp [eqN, Inf.nd, e1, e2, e3, hx2]
end
section
theorem c2q {i : Inf} (h : i.kind = 1) : E9 0 i = 0 := by unfold E9; rw [if_neg (by omega)]
theorem a5d {F : Fo} (h : ∀ x ∈ Dh F, Eo x.1 x.2 = true) : A0 F = true := by
 induction F with
 | nil => rfl
 | cons i k r ihk ihr =>
  rw [A0, h (i, k) (by simp [Dh]), ihk fun x hx => h x (by simp [Dh, hx]), ihr fun x hx => h x (by simp [Dh, hx])]; rfl
theorem b3h {F : Fo} {x : Inf × Fo} (h : x ∈ Dh F) : ∃ p, p < F.cnt ∧ Ag F p = x := by
 obtain ⟨p, hp, rfl⟩ := List.getElem_of_mem h;refine ⟨p, by rw [<- Bd]; exact hp, ?_⟩;unfold Ag;rw [List.getD_eq_getElem?_getD, List.getElem?_eq_getElem hp];rfl
theorem a8h {l : List Nd} (h : Rq l = true) : ∃ i k, Ie l = .cons i k .nil ∧ Gp i k := by
 obtain ⟨hR, h1, A⟩ := Pq h;obtain ⟨hc, hall⟩ := Gu hR
 have hK : ∀ p, p < l.length -> Ai (Ie l).pre p = Ai l p := fun p hp => by
  rw [Ai, Ka (by rw [hc]; exact hp), (hall p hp).1]; rfl
 have hg : A0 (Ie l) = true := a5d fun x hx => by
  obtain ⟨p, hp, rfl⟩ := b3h hx;have hp' : p < l.length := hc ▸ hp;obtain ⟨a, b, c⟩ := A p hp';obtain ⟨e1, e2, e3⟩ := hall p hp'
  have hk : (A7 (sz l) p).map (Ai l) = Aq (Ag (Ie l) p).2 := by
   rw [e3, <- T9 (I1 hp)];refine List.map_congr_left fun q hq => (hK q ?_).symm
   have := kid_lt hp hq;omega
  rw [hk] at c;unfold Eo;rw [e1, show Bc (Gf (nd l p)).kind (Gf (nd l p)).text = true from a, show Bk (Gf (nd l p)).kind (Gf (nd l p)).num = true from b, show Hl (Gf (nd l p)).kind (Gf (nd l p)).num (Aq (Ag (Ie l) p).2) = true from c]; rfl
 have hpos := hR.pos
 have hcons : ∃ i k, Ie l = .cons i k .nil ∧ i.kind = 1 := by
  unfold Ie;obtain ⟨n, hn⟩ : ∃ n, l.length = n + 1 := ⟨l.length - 1, by omega⟩;have hz := hR.all;rw [hn] at hz;rw [hn, fo, if_pos (by omega), show 0 + 1 + (sz l 0).toNat = n + 1 by omega, b2e];exact ⟨_, _, rfl, h1⟩
 obtain ⟨i, k, e, hi⟩ := hcons;rw [e] at hg;simp only [A0, Bool.and_eq_true] at hg;exact ⟨i, k, e, hg.1.1, hg.1.2, hi⟩
theorem a8f {l : List Nd} (hR : Right (sz l) l.length) (hwf : ∀ i, i < l.length -> (nd l i).wf) : Nu (Ie l) := O8 hR hwf
theorem b1h {l : List Nd} (h : Rq l = true) (hn : l.length <= 4000) (hwf : ∀ i, i < l.length -> (nd l i).wf) (hb : ∀ i, i < l.length -> (nd l i).text.size <= 100000) :
  (∃ c a b, (c = 3 ∨ c = 6) ∧ Jt Ju (Di l) = ([], (c, a, b))) ∨ ∃ M, Jt Ju (Di l) = (M, (0, 0, 0)) ∧ M.length = l.length ∧ (∀ i, i < M.length -> (nd M i).wf) ∧ Uc l M = true := by
 obtain ⟨hR, h1, A⟩ := Pq h;obtain ⟨hc, hall⟩ := Gu hR;obtain ⟨i, k, e, hg⟩ := a8h h;have hd := c2q hg.2.2
 have hS : Di l = Jw 0 i (F9 0 k) := by
  show (txt (Ie l) 0 0).2 = _;rw [e];show Jw 0 i (F9 (E9 0 i) k) = _;rw [hd]
 rw [hS];by_cases hlong : 65536 < (Jw 0 i (F9 0 k)).length
 ·exact .inl ⟨3, 0, 0, .inl rfl, by unfold Jt; rw [if_pos hlong]⟩
 ·have hnums := a8f hR hwf;rw [e] at hnums;obtain ⟨U, u1, u2⟩ := a3q hg hnums;rcases u2 with ⟨_, G, q, u2, u3⟩ | ⟨_, a, b, u2⟩
  ·right;have e3 := a7e u2;have hl2 := O3 (M := 100000) _ _ 1 1 U (Nat.le_refl _) u1 (by omega) (by omega) (by omega);have hUl := ((We _ 1 1).1 U u1).2;have hbf2 := (b5w U.length hl2 (by omega) (by omega) e3).1;rw [<- e] at u3;obtain ⟨q1, q2⟩ := a2z _ _ u3.symm;have hlen : G.pre.length = l.length := by rw [<- q1, Cz, hc]
   have hG : G.cnt <= 4000 := by rw [<- Cz, hlen]; exact hn
   refine ⟨G.pre, ?_, hlen, b66 hbf2 hG, Ub hlen.symm fun p hp => ?_⟩
   ·unfold Jt;rw [if_neg (by omega), u1];simp only [u2]
   ·have hq := q2 p (by rw [Cz, hc]; exact hp);have hp' : p < (Ie l).cnt := by rw [hc]; exact hp
    rw [Ka hp', (hall p hp).1, (hall p hp).2.1] at hq
    have hsz : ((sz l p).toNat : Int) = (nd l p).size := by
     have := (hR.ok p hp).low;show ((sz l p).toNat : Int) = sz l p;omega
    unfold eqN at hq ⊢;simp only [Inf.nd, Gf, hsz] at hq;exact hq
  ·left;refine ⟨6, a, b, .inr rfl, ?_⟩;unfold Jt;rw [if_neg (by omega), u1];simp only [u2]
end
section
open Go.RowKit Go.Sort
structure Ctx (w : World) (g o n : Nat) (l : List Nd) : Prop where
 len : l.length = n
 few : n <= 4000
 row : Qv w g o l
 right : Right (sz l) n
 may : ∀ p, p < n -> a69 l p
 root : 1 <= (nd l 0).kind ∧ (nd l 0).kind <= 32
 txt : (l.map fun x => x.text.size).sum <= 100000
theorem b33 {l : List Nd} (hR : Right (sz l) l.length) {p : Nat} (hp : p < l.length) (m : Nat) :
  Go.Proofs.YtoaplbljflhheaaGreat.txt (Ie l) p m = (Gf (nd l p), Jw m (Gf (nd l p)) ((A7 (sz l) p).map fun q => Go.Proofs.YtoaplbljflhheaaGreat.txt (Ie l) q (E9 m (Gf (nd l p))))) := by
 obtain ⟨hc, hall⟩ := Gu hR;obtain ⟨e1, e2, e3⟩ := hall p hp;unfold Go.Proofs.YtoaplbljflhheaaGreat.txt;rw [M9 (by rw [hc]; exact hp), e1, <- e3];rfl
theorem b3i {F : Fo} {p : Nat} (h : p < F.cnt) : a31 (Ag F p).2 <= a31 F := by
 have hs := I1 h;have hc := J6 h
 have e : Dh (Ag F p).2 = ((Dh F).drop (p + 1)).take (Ag F p).2.cnt := by
  refine List.ext_getElem? fun j => ?_
  by_cases hj : j < (Ag F p).2.cnt
  ·rw [List.getElem?_take_of_lt hj, List.getElem?_drop, <- hs j hj]
  ·rw [List.getElem?_eq_none (by rw [Bd]; omega), List.getElem?_eq_none (by rw [List.length_take]; omega)]
 have T : ∀ (L : List (Inf × Fo)) (i : Nat), ((L.take i).map fun x => 4 * x.1.text.length + 68).sum <= (L.map fun x => 4 * x.1.text.length + 68).sum := fun L i => by
  conv => rhs; rw [<- List.take_append_drop i L, List.map_append, List.sum_append]
  omega
 have D : ∀ (L : List (Inf × Fo)) (i : Nat), ((L.drop i).map fun x => 4 * x.1.text.length + 68).sum <= (L.map fun x => 4 * x.1.text.length + 68).sum := fun L i => by
  conv => rhs; rw [<- List.take_append_drop i L, List.map_append, List.sum_append]
  omega
 unfold a31;rw [e];exact Nat.le_trans (T _ _) (D _ _)
theorem a7v {F : Fo} {p : Nat} (h : p < F.cnt) (hn : Nu F) : Nu (Ag F p).2 := fun x hx => by
 obtain ⟨j, hj, e⟩ := List.getElem_of_mem hx;rw [Bd] at hj;have := I1 h j hj;have h2 : (Dh (Ag F p).2)[j]? = some x := by rw [List.getElem?_eq_getElem (by rw [Bd]; exact hj), e]
 rw [h2] at this;exact hn x (List.mem_of_getElem? this)
section
variable {w : World} {g o n : Nat} {l : List Nd} (C : Ctx w g o n l)
include C
theorem Ctx.wf : ∀ i, i < l.length -> (nd l i).wf := fun i hi => (C.row i hi).2
theorem Ctx.kid {p q : Nat} (hp : p < n) (hq : q ∈ A7 (sz l) p) : p < q ∧ q < n := C.right.kid_lt hp hq
theorem Ctx.at_ {p : Nat} (hp : p < n) (m : Nat) : Go.Proofs.YtoaplbljflhheaaGreat.txt (Ie l) p m = (Gf (nd l p), Jw m (Gf (nd l p)) ((A7 (sz l) p).map fun q => Go.Proofs.YtoaplbljflhheaaGreat.txt (Ie l) q (E9 m (Gf (nd l p))))) :=
 b33 (by rw [C.len]; exact C.right) (by rw [C.len]; exact hp) m
theorem Ctx.sum {p : Nat} (hp : p < n) {m : Nat} (hm : m <= 4100) : Qm ((A7 (sz l) p).map fun q => Go.Proofs.YtoaplbljflhheaaGreat.txt (Ie l) q m) <= 99000000 := by
 have hR : Right (sz l) l.length := by rw [C.len]; exact C.right
 obtain ⟨hc, hall⟩ := Gu hR;have hp' : p < (Ie l).cnt := by rw [hc, C.len]; exact hp
 obtain ⟨e1, e2, e3⟩ := hall p (by rw [C.len]; exact hp);have h1 := Tv (Ag (Ie l) p).2 m (a7v hp' (O8 hR C.wf));rw [M9 hp' m, <- e3] at h1;have h2 := b3i hp';rw [Yq hR] at h2;have h3 := J6 hp';rw [hc] at h3;have h4 : (Ag (Ie l) p).2.cnt * (3 * (m + (Ag (Ie l) p).2.cnt)) <= 4000 * (3 * (4100 + 4000)) := Nat.mul_le_mul (by have := C.len; have := C.few; omega) (by have := C.len; have := C.few; omega);have := C.txt;have := C.len;have := C.few;omega
theorem Ctx.kids {p : Nat} (hp : p < n) (cap : Nat) : c22 w g o n cap p (A7 (sz l) p) := fun w' hb =>
 Mb g o n cap l w' (zz C.len) (by have := C.few; omega) (zz (C.row.carry hb)) p hp (zz (C.right.ok p hp)) _ (zz rfl)
theorem Ctx.node {p : Nat} (hp : p < n) : At w g (o + p * 6) (nd l p) := (C.row p (by rw [C.len]; exact hp)).1
theorem Ctx.txs {p : Nat} (hp : p < n) : (nd l p).text.size <= 100000 := Nat.le_trans (a2h (by rw [C.len]; exact hp)) C.txt
theorem Ctx.fit : Fit ⟨some ⟨g, o, none⟩, l.length, 0, l, 0⟩ (Ie l) :=
 a5m (by rw [C.len]; exact C.right) C.root (fun p hp => C.may p (by rw [<- C.len]; exact hp)) C.wf (fun i hi => C.txs (by rw [<- C.len]; exact hi)) _ _ _
theorem Ctx.sg {p : Nat} (hp : p < n) : (nd l p).kind = 30 ∨ (nd l p).kind = 31 -> (nd l p).num ∈ sgE.map (·.1) := by
 have hR : Right (sz l) l.length := by rw [C.len]; exact C.right
 obtain ⟨hc, hall⟩ := Gu hR;have := (C.fit.may p (by rw [hc, C.len]; exact hp)).sg;rw [(hall p (by rw [C.len]; exact hp)).1] at this;exact this
end
section
variable {w : World} {g o n : Nat} {l : List Nd} (C : Ctx w g o n l)
include C
end
end
section
open Go.RowKit Go.Sort
theorem a9s {l : List Nd} (h : ¬ ∃ k, k <= l.length ∧ 4000 < Dq l k) : (l.map fun x => x.text.size).sum <= 100000 := by
 have hall : Dq l l.length <= 4000 := Nat.le_of_not_lt fun hh => h ⟨_, Nat.le_refl _, hh⟩
 have ht := (Rr h).2
 have : ∀ k, k <= l.length -> ((l.take k).map fun x => x.text.size).sum <= Dq l k := by
  intro k
  induction k with
  | zero => intro _; simp [Dq]
  | succ k ih =>
   intro hk;have h1 := ih (by omega);have h2 := ht k (by omega)
   have e : l.take (k + 1) = l.take k ++ [nd l k] := by
    rw [List.take_add_one, nd, List.getD_eq_getElem?_getD, List.getElem?_eq_getElem (by omega)]; rfl
   rw [e, List.map_append, List.sum_append, Dq];simp only [List.map_cons, List.map_nil, List.sum_cons, List.sum_nil];omega
 have := this l.length (Nat.le_refl _);rw [List.take_length] at this;omega
theorem a8g {w : World} {a : Option Addr} {l : List Nd} (h : Row w a l) (hl : 0 < l.length) : a6z w a := fun g o e => by
 obtain ⟨g', o', h1, h2, -⟩ := h 0 hl;rw [e] at h1;cases h1;exact block_lt_of_cell h2.c0
end
section
open Go.RowKit Go.Sort
theorem a6n (a : Option Addr) (n cap : Nat) (l : List Nd) (w : World) (hn : l.length = n) (hl : n <= 9223372036854775807) (hr : Row w a l) (hm : ∃ k, k <= n ∧ 4000 < Dq l k) : Calls prog 5 #[.slice a n cap] w fun e w' => e = .returned (.bool true) ∧ Below w.heap.size w w' := by
 have HM := zz (Y8 a n cap l w (zz hn) hl (zz hr) true (zz (by simpa using hm)));have HA := zz Mw;clear hn hr hm;go_enter func5, ntmps5;go_wp2_with fail;refine HM.out.mono ?_;rintro e w1 ⟨rfl, rfl⟩;go_wp2_with fail;refine (HA.out _).mono ?_;rintro e w2 ⟨rfl, hb2⟩;replace hb2 := zz hb2;go_wp2_with fail;go_ret;exact ⟨rfl, hb2.out⟩
theorem b57 (a : Option Addr) (n cap : Nat) (w : World) (hl : n <= 4000)
  (HM : Hid (Calls prog 8 #[.slice a n cap] w fun e w' => e = .returned (.bool false) ∧ w = w'))
  (HR : Hid (a7a w fun w' => Calls prog 11 #[.slice a n cap] w' fun e w2 => e = .returned (.bool false) ∧ Below w'.heap.size w' w2)) : Calls prog 5 #[.slice a n cap] w fun e w' => e = .returned (.bool true) ∧ Below w.heap.size w w' := by
 have HA := zz Mw;go_enter func5, ntmps5;go_wp2_with fail;refine HM.out.mono ?_;rintro e w1 ⟨rfl, rfl⟩;go_wp2_with fail;refine (HR.out _ (Below.refl _ _)).mono ?_;rintro e w3 ⟨rfl, hb3⟩;replace hb3 := zz hb3;go_wp2_with fail;refine (HA.out _).mono ?_;rintro e w4 ⟨rfl, hb4⟩;replace hb4 := zz (Ab hb3.out hb4);go_wp2_with fail;go_ret;exact ⟨rfl, hb4.out⟩
theorem b1g (a : Option Addr) (n cap : Nat) (w : World) (hl : n <= 4000) (S : ByteArray) (c : Int) (hc : c = 3 ∨ c = 6) (x y : Nat)
  (HM : Hid (Calls prog 8 #[.slice a n cap] w fun e w' => e = .returned (.bool false) ∧ w = w'))
  (HR : Hid (a7a w fun w' => Calls prog 11 #[.slice a n cap] w' fun e w2 => e = .returned (.bool true) ∧ Below w'.heap.size w' w2))
  (HP : Hid (a7a w fun w' => Calls prog 10 #[.slice a n cap] w' fun e w2 => e = .returned (.tuple #[.string S, .int .i64 0]) ∧ Below w'.heap.size w' w2))
  (H3 : Hid (∀ w, Calls prog 19 #[.string S] w (b1s w ([], (c, x, y))))) : Calls prog 5 #[.slice a n cap] w fun e w' => e = .returned (.bool true) ∧ Below w.heap.size w w' := by
 have HA := zz Mw;rcases hc with rfl | rfl
 all_goals (go_enter func5, ntmps5)
 all_goals (go_wp2_with fail)
 all_goals (refine HM.out.mono ?_)
 all_goals (rintro e w1 ⟨rfl, rfl⟩)
 all_goals (go_wp2_with fail)
 all_goals (refine (HR.out _ (Below.refl _ _)).mono ?_)
 all_goals (rintro e w2 ⟨rfl, hb2⟩)
 all_goals (replace hb2 := zz hb2)
 all_goals (go_wp2_with fail)
 all_goals (refine (HP.out _ hb2.out).mono ?_)
 all_goals (rintro e w3 ⟨rfl, hb3⟩)
 all_goals (replace hb3 := zz (Ab hb2.out hb3))
 all_goals (go_wp2_with fail)
 all_goals (refine (H3.out _).mono ?_)
 all_goals (rintro e w4 ⟨a', n', cap', rfl, hn', hn2', hr', -, hb4⟩)
 all_goals (simp only [List.length_nil] at hn')
 all_goals (subst hn')
 all_goals (replace hb4 := zz (Ab hb3.out hb4))
 all_goals (clear hr' H3)
 all_goals (go_wp2_with fail)
 all_goals (refine (HA.out _).mono ?_)
 all_goals (rintro e w6 ⟨rfl, hb6⟩)
 all_goals (replace hb6 := zz (Ab (Ab hb4.out (Aa _ _)) hb6))
 all_goals (go_wp2_with fail)
 all_goals (go_ret)
 all_goals (exact ⟨rfl, hb6.out⟩)
theorem b1f (a : Option Addr) (n cap : Nat) (w : World) (hl : n <= 4000) (S : ByteArray) (M : List Nd)
  (HM : Hid (Calls prog 8 #[.slice a n cap] w fun e w' => e = .returned (.bool false) ∧ w = w'))
  (HR : Hid (a7a w fun w' => Calls prog 11 #[.slice a n cap] w' fun e w2 => e = .returned (.bool true) ∧ Below w'.heap.size w' w2))
  (HP : Hid (a7a w fun w' => Calls prog 10 #[.slice a n cap] w' fun e w2 => e = .returned (.tuple #[.string S, .int .i64 0]) ∧ Below w'.heap.size w' w2))
  (H3 : Hid (∀ w, Calls prog 19 #[.string S] w (b1s w (M, (0, 0, 0)))))
  (HS : Hid (a7a w fun w' => ∀ a' n' cap', M.length = n' -> a6y w' a' M -> Calls prog 20 #[.slice a n cap, .slice a' n' cap'] w' fun e w2 => e = .returned (.bool true) ∧ Below w'.heap.size w' w2)) : Calls prog 5 #[.slice a n cap] w fun e w' => e = .returned (.bool true) ∧ Below w.heap.size w w' := by
 have HA := zz Mw;go_enter func5, ntmps5;go_wp2_with fail;refine HM.out.mono ?_;rintro e w1 ⟨rfl, rfl⟩;go_wp2_with fail;refine (HR.out _ (Below.refl _ _)).mono ?_;rintro e w2 ⟨rfl, hb2⟩;replace hb2 := zz hb2;go_wp2_with fail;refine (HP.out _ hb2.out).mono ?_;rintro e w3 ⟨rfl, hb3⟩;replace hb3 := zz (Ab hb2.out hb3);go_wp2_with fail;refine (H3.out _).mono ?_;rintro e w4 ⟨a', n', cap', rfl, hn', hn2', hr', -, hb4⟩;have hb5 := zz (Ab hb3.out hb4);have HT := zz (fun w5 (h : Below w.heap.size w w5) (h' : Below w4.heap.size w4 w5) => HS.out w5 h a' n' cap' hn' (hr'.carry h'));clear hr' hn' H3 HS hb4;go_wp2_with fail;refine (HT.out _ (Ab hb5.out (Aa _ _)) (Aa _ _)).mono ?_;rintro e w6 ⟨rfl, hb6⟩;replace hb6 := zz (Ab (Ab hb5.out (Aa _ _)) hb6);go_wp2_with fail;refine (HA.out _).mono ?_;rintro e w7 ⟨rfl, hb7⟩;replace hb7 := zz (Ab hb6.out hb7);go_wp2_with fail;go_ret;exact ⟨rfl, hb7.out⟩
theorem Pi (a : Option Addr) (n cap : Nat) (l : List Nd) (w : World) (hn : l.length = n) (hl : n <= maxLen) (hr : Row w a l) (hz : a = none -> n = 0 ∧ cap = 0) : Calls prog 5 #[.slice a n cap] w fun e w' => e = .returned (.bool true) ∧ Below w.heap.size w w' := by
 unfold maxLen at hl;by_cases hm : ∃ k, k <= n ∧ 4000 < Dq l k
 ·exact a6n a n cap l w hn (by omega) hr hm
 ·have HM := Y8 a n cap l w (zz hn) (by omega) (zz hr) false (zz (by simpa using hm));rw [<- hn] at hm;have h4 := Rr hm;have hs := a9s hm;have hn4 : n <= 4000 := by omega
  have ht : ∀ i, i < n -> (nd l i).text.size <= 100000 := fun i hi => by have := h4.2 i (by omega); omega
  have HR := fun (p : Bool) (hp : Rq l = p) w2 (h2 : Below w.heap.size w w2) => a8k a n cap l w2 hn (by omega) (hr.carry h2) ht p hp
  cases hmb : Rq l with
  | false => exact b57 a n cap w hn4 (zz HM) (zz fun w2 h2 => HR false hmb w2 h2)
  | true =>
   obtain ⟨hR, h1, A⟩ := Pq hmb;have hp := hR.pos;have hwf : ∀ i, i < l.length -> (nd l i).wf := a26 hr
   have HP : Hid (a7a w fun w' => Calls prog 10 #[.slice a n cap] w' fun e w2 => e = .returned (.tuple #[.string (bs (Di l)), .int .i64 0]) ∧ Below w'.heap.size w' w2) := zz fun w2 h2 => by
    have := Wy (w := w2) (a := a) (cap := cap) hn hn4 (hr.carry h2) (a8g (hr.carry h2) hp) hs hmb;rw [if_pos rfl] at this;exact this
   have e : (bs (Di l)).data.toList = Di l := rfl;rcases b1h hmb (by omega) hwf (fun i hi => ht i (by omega)) with ⟨c, x, y, hc, r⟩ | ⟨M, r, hlen, hwfM, sm⟩
   ·exact b1g a n cap w hn4 (bs (Di l)) c hc x y (zz HM) (zz fun w2 h2 => HR true hmb w2 h2) HP (zz fun w => by have := Rk (bs (Di l)) w; rwa [e, r] at this)
   ·exact b1f a n cap w hn4 (bs (Di l)) M (zz HM) (zz fun w2 h2 => HR true hmb w2 h2) HP (zz fun w => by have := Rk (bs (Di l)) w; rwa [e, r] at this)
     (zz fun w2 h2 a' n' cap' hn' hr' => a24 a n cap l a' n' cap' M w2 (zz hn) (zz hn') (by omega) (by omega) (zz (hr.carry h2)) (zz (Y3 hr' hwfM)) true (zz sm))
end
end Go.Proofs.YtoaplbljflhheaaGreat
