/-
 Contracts and plain facts on the way to PrettyAgain. Conditions: as each says.
-/
import Derived.Test.YtoaplbljflhheaaGreatAby
import Derived.Test.YtoaplbljflhheaaGreatAbx
import Derived.Test.YtoaplbljflhheaaGreatAbm
import Derived.Test.YtoaplbljflhheaaGreatAar
import Derived.Test.YtoaplbljflhheaaGreatAai
import Derived.Test.YtoaplbljflhheaaGreatAbw
import Derived.Test.YtoaplbljflhheaaGreatAan
import Derived.Test.YtoaplbljflhheaaGreatAbj
set_option maxHeartbeats 40000000
set_option maxRecDepth 100000
set_option linter.unusedVariables false
set_option linter.unusedSimpArgs false
namespace Go.Proofs.YtoaplbljflhheaaGreat
open _root_.Go.Proofs.Tryz
section
def Ak : Fo → List Nat
 | .nil => []
 | .cons i _ r => i.kind :: Ak r
def Be (i : Inf) (K : Fo) : Bool := Dm i.kind i.text && Cr i.kind i.num && Il i.kind i.num (Ak K)
def Am : Fo → Bool
 | .nil => true
 | .cons i K r => Be i K && Am K && Am r
def D4 (i : Inf) : Inf := ⟨i.kind, 0, 0, i.num, i.text⟩
def Ar : Fo → Fo
 | .nil => .nil
 | .cons i k r => .cons (D4 i) (Ar k) (Ar r)
theorem a9m {F : Fo} (h : Am F = true) : ∀ x ∈ D6 F, Be x.1 x.2 = true := by
 induction F with
 | nil => intro x hx; cases hx
 | cons i k r ihk ihr =>
  rw [Am, Bool.and_eq_true, Bool.and_eq_true] at h;intro x hx;simp only [D6, List.mem_cons, List.mem_append] at hx;rcases hx with rfl | hx | hx
  ·exact h.1.1
  ·exact ihk h.1.2 x hx
  ·exact ihr h.2 x hx
def b6a (l : List Nd) (p : Nat) (G : Fo) : Prop := ∀ j, j < G.cnt → l[p + j]? = G.pre[j]?
theorem Tt {l : List Nd} {p : Nat} {i : Inf} {k r : Fo} (h : b6a l p (.cons i k r)) : nd l p = i.nd k.cnt ∧ b6a l (p + 1) k ∧ b6a l (p + 1 + k.cnt) r := by
 refine ⟨?_, fun j hj => ?_, fun j hj => ?_⟩
 ·have := h 0 (by simp [Fo.cnt]; omega);rw [Nat.add_zero] at this;unfold nd;rw [List.getD_eq_getElem?_getD, this];rfl
 ·have := h (j + 1) (by simp [Fo.cnt]; omega);rw [show p + (j + 1) = p + 1 + j by omega] at this;rw [this, Fo.pre, List.getElem?_cons_succ, List.getElem?_append_left (by rw [C7]; exact hj)]
 ·have := h (k.cnt + j + 1) (by simp [Fo.cnt]; omega);rw [show p + (k.cnt + j + 1) = p + 1 + k.cnt + j by omega] at this;rw [this, Fo.pre, List.getElem?_cons_succ, List.getElem?_append_right (by rw [C7]; omega), C7, Nat.add_sub_cancel_left]
theorem a5w {l : List Nd} : ∀ (G : Fo) (p : Nat), b6a l p G → Da (sz l) (p + G.cnt) p = some (D0 G p) := by
 intro G
 induction G with
 | nil => intro p _; rw [Fo.cnt, B0 (by omega)]; rfl
 | cons i k r _ ihr =>
  intro p h;obtain ⟨h1, h2, h3⟩ := Tt h;have hs : sz l p = k.cnt := by unfold sz; rw [h1]; rfl
  rw [Fo.cnt, Ch (by omega) (by rw [hs]; omega), hs, Int.toNat_natCast, show p + (k.cnt + 1 + r.cnt) = p + 1 + k.cnt + r.cnt by omega, ihr _ h3];rfl
theorem b9i {l : List Nd} : ∀ (G : Fo) (f p : Nat), b6a l p G → G.cnt ≤ f → fo l f p (p + G.cnt) = Ar G := by
 intro G
 induction G with
 | nil => intro f p _ _; rw [Fo.cnt, Nat.add_zero, b9j]; rfl
 | cons i k r ihk ihr =>
  intro f p h hf;rw [Fo.cnt] at hf;obtain ⟨f, rfl⟩ : ∃ f', f = f' + 1 := ⟨f - 1, by omega⟩;obtain ⟨h1, h2, h3⟩ := Tt h;have hs : sz l p = k.cnt := by unfold sz; rw [h1]; rfl
  rw [Fo.cnt, fo, if_pos (by omega), hs, Int.toNat_natCast, ihk f (p + 1) h2 (by omega), show p + (k.cnt + 1 + r.cnt) = p + 1 + k.cnt + r.cnt by omega, ihr f _ h3 (by omega), h1, Ar];congr 1
theorem a2f (F : Fo) : b6a F.pre 0 F := fun j _ => by rw [Nat.zero_add]
theorem a7s {F G : Fo} {p : Nat} (h : Seg F p G) : b6a F.pre p G := fun j hj => by
 rw [L8, L8, List.getElem?_map, List.getElem?_map, h j hj]
theorem a7x (F : Fo) : Qj F.pre = Ar F := by
 have := b9i F F.pre.length 0 (a2f F) (by rw [C7]; omega);rw [Nat.zero_add] at this;rw [Qj, C7];rw [C7] at this;exact this
theorem L9 {F : Fo} {p : Nat} (hp : p < F.cnt) : nd F.pre p = (Ai F p).1.nd (Ai F p).2.cnt := by
 unfold nd Ai;rw [List.getD_eq_getElem?_getD, L8, List.getElem?_map, List.getD_eq_getElem?_getD, List.getElem?_eq_getElem (by rw [Bu]; exact hp)];rfl
theorem T5 {F : Fo} {p : Nat} (hp : p < F.cnt) : Da (sz F.pre) (p + 1 + (sz F.pre p).toNat) (p + 1) = some (D0 (Ai F p).2 (p + 1)) := by
 have hs : sz F.pre p = (Ai F p).2.cnt := by unfold sz; rw [L9 hp]; rfl
 rw [hs, Int.toNat_natCast];exact a5w _ _ (a7s (M0 hp))
theorem a2u (i : Inf) (K : Fo) : Right (sz (Fo.cons i K .nil).pre) (Fo.cons i K .nil).cnt := by
 refine ⟨by simp [Fo.cnt], ?_, fun j hj => ?_⟩
 ·unfold sz;rw [L9 (by simp [Fo.cnt])];simp [Ai, D6, Inf.nd, Fo.cnt]
 ·have hs : sz (Fo.cons i K .nil).pre j = (Ai (Fo.cons i K .nil) j).2.cnt := by unfold sz; rw [L9 hj]; rfl
  have := M2 hj;exact ⟨by omega, by omega, by rw [T5 hj]; rfl⟩
theorem a2e {F G : Fo} : ∀ {p : Nat}, Seg F p G → (D0 G p).map (Cv F.pre) = Ak G := by
 induction G with
 | nil => intro p _; rfl
 | cons i k r _ ihr =>
  intro p h;obtain ⟨h1, h2, h3⟩ := Oc h
  have hp : p < F.cnt := by
   have := (List.getElem?_eq_some_iff.1 h1).1
   rwa [Bu] at this
  rw [D0, List.map_cons, ihr h3, Ak, Cv, L9 hp];simp [Ai, List.getD_eq_getElem?_getD, h1, Inf.nd]
theorem b8q {F : Fo} (h : Am F = true) {p : Nat} (hp : p < F.cnt) : b1b F.pre p := by
 have hk : B7 (sz F.pre) p = D0 (Ai F p).2 (p + 1) := by unfold B7; rw [T5 hp]; rfl
 have hg := a9m h (Ai F p) (by
  unfold Ai;rw [List.getD_eq_getElem?_getD, List.getElem?_eq_getElem (by rw [Bu]; exact hp)]
  exact List.getElem_mem _)
 unfold Be at hg;rw [Bool.and_eq_true, Bool.and_eq_true] at hg;unfold b1b;rw [hk, a2e (M0 hp), L9 hp];refine ⟨?_, hg.1.2, hg.2⟩;show Dm (Ai F p).1.kind (bs (Ai F p).1.text).data.toList = true;rw [Fz];exact hg.1.1
theorem a36 {i : Inf} {K : Fo} (hi : i.kind = 1) (h : Am (.cons i K .nil) = true) : Wo (Fo.cons i K .nil).pre = true := by
 unfold Wo;rw [Bool.and_eq_true, Bool.and_eq_true, decide_eq_true_eq];refine ⟨⟨Jb (by rw [C7]; exact a2u i K), ?_⟩, List.all_eq_true.2 fun j hj => ?_⟩
 ·rw [Cv, L9 (by simp [Fo.cnt])];simpa [Ai, D6, Inf.nd] using hi
 ·rw [List.mem_range, C7] at hj;obtain ⟨a, b, c⟩ := b8q h hj;rw [Bool.and_eq_true, Ii, Bool.and_eq_true, Ld];exact ⟨⟨a, b⟩, c⟩
def b4c (k : Nat) (t : List UInt8) : Inf := ⟨k, 0, 0, 0, t⟩
theorem Sy {i : Inf} {K : Fo} (h1 : 21 ≤ i.kind) (h2 : i.kind ≤ 32) (h : Am (.cons i K .nil) = true) : U1 (Fo.cons i K .nil).pre = true := by
 unfold U1
 have e : N7 (Fo.cons i K .nil).pre.length ++ (Fo.cons i K .nil).pre = (Fo.cons (b4c 1 []) (.cons (b4c 4 [102]) (.cons (b4c 14 []) .nil (.cons (b4c 6 []) (.cons (b4c 12 []) (.cons i K .nil) .nil) .nil)) .nil) .nil).pre := by
  rw [C7];simp only [Fo.pre, List.append_nil, List.nil_append, List.cons_append, Fo.cnt, Nat.add_zero, N7, Inf.nd, b4c];simp only [List.cons.injEq, Nd.mk.injEq, true_and, and_true]
  and_intros <;> first | rfl | omega
 rw [e];refine a36 rfl ?_;have h' := h;simp only [Am, Bool.and_true, Be] at h';simp only [Am, Bool.and_true, Be, Ak, b4c, h']
 have hk : Il 12 0 [i.kind] = true := by
  show Ag [Ah] [i.kind] = true;simp [Ag, Ah, List.range, List.range.loop, h1, h2]
 rw [hk];rfl
theorem L7 (F : Fo) : Fb F.pre = (txt (Ar F) 0 0).2 := by rw [Fb, a7x]
end
section
open Go.RowKit Go.Sort
theorem b2i {H l : List Nd} (hH : ∀ x ∈ H, x.wf) (hl : ∀ i, i < l.length → (nd l i).wf) : ∀ i, i < (H ++ l).length → (nd (H ++ l) i).wf := fun i hi => by
 by_cases h : i < H.length
 ·rw [Wl h]; exact a1m hH i h
 ·obtain ⟨j, rfl⟩ : ∃ j, i = j + H.length := ⟨i - H.length, by omega⟩;rw [Ug];rw [List.length_append] at hi;exact hl j (by omega)
theorem b1g {w : World} {a : Option Addr} {l : List Nd} (h : Row w a l) : ∀ i, i < l.length → (nd l i).wf := fun i hi => by
 obtain ⟨_, _, _, _, h⟩ := h i hi;exact h
theorem b31 {w : World} {B : Nat} {v : Value} {H l : List Nd} (h : Ov w B v (H ++ l)) (hp : 0 < H.length) (hH : ∀ x ∈ H, x.wf) (hl : ∀ i, i < l.length → (nd l i).wf) (hn : (H ++ l).length ≤ 1000000) (p : Bool) (hm : Wo (H ++ l) = p) :
  ∃ g N cap, v = .slice (some ⟨g, 0, none⟩) N cap ∧ Calls prog 23 #[.slice (some ⟨g, 0, none⟩) N cap] w fun e w' => e = .returned (.bool p) ∧ Below w.heap.size w w' := by
 obtain ⟨g, cap, rfl, hr, -⟩ := b3k h (by rw [List.length_append]; omega) (b2i hH hl);exact ⟨g, _, cap, rfl, Wn _ _ _ _ _ rfl hn hr p hm⟩
theorem Wc {w : World} {a : Option Addr} {n cap : Nat} {l : List Nd} (hlen : l.length = n) (hn : n ≤ 4000) (hrow : Row w a l) (hlow : a6y w a) (hb : (l.map fun x => x.text.size).sum ≤ 100000)
  (hR : Right (sz l) l.length) (h0 : 15 ≤ (nd l 0).kind ∧ (nd l 0).kind ≤ 32) (A : ∀ p, p < l.length → b1b l p) :
  Calls prog 24 #[.slice a n cap] w fun e w' => e = .returned (.string (bs (Fb l))) ∧ Below w.heap.size w w' := by
 subst hlen;have hwf := b1g hrow;obtain ⟨hc, hall⟩ := Od hR;have hp := hR.pos;have hL := T4 hR hwf hn hb;refine Q7 (F := Qj l) (S := Fb l) (fun mb => b1z hR (by omega) A hwf (fun i hi => Nat.le_trans (b1f hi) hb) a cap mb) hrow rfl (by omega) (by omega) hlow ?_ rfl (by rw [hc]; exact hL);rw [(hall 0 hp).1];show (nd l 0).kind ≠ 14;omega
theorem a9z {w : World} {a : Option Addr} {n cap : Nat} {l : List Nd} {p : Bool} (hz : a = none → n = 0 ∧ cap = 0) (hlen : l.length = n) (hn : n ≤ 4000) (hrow : Row w a l) (hlow : p = true → a6y w a) (hb : (l.map fun x => x.text.size).sum ≤ 100000) (hm : U1 l = p) :
  Calls prog 13 #[.slice a n cap] w fun e w' => e = .returned (if p then .tuple #[.string (bs (Fb l)), .int .i64 0] else .tuple #[.string (bs []), .int .i64 1]) ∧ Below w.heap.size w w' := by
 have hwf := b1g hrow;have HA := zz (a06 (w := w) (cap := cap) hz hlen (by omega) hrow);have HM := zz (fun (w1 : World) (B : Nat) (v : Value) (h : Ov w1 B v (N7 n ++ l)) => b31 h (by simp [N7]) (Xl (by omega)) hwf (by rw [List.length_append, hlen]; simp [N7]; omega) p (by rw [← hlen]; exact hm))
 have HP := zz (fun (h : p = true) (w1 : World) (hb1 : Below w.heap.size w w1) => by
  obtain ⟨q1, q2, q3⟩ := a91 (hm.trans h);rw [Ah, decide_eq_true_eq] at q2
  exact Wc (w := w1) (a := a) (cap := cap) hlen hn (hrow.carry hb1) ((hlow h).carry hb1) hb q1 (by omega) q3)
 clear hz hlen hn hrow hlow hb hm hwf;go_enter func13, ntmps13;go_wp2_with fail;refine HA.out.mono ?_;rintro e w1 ⟨v, rfl, ho, hb1⟩;obtain ⟨g, N, c, rfl, hcall⟩ := HM.out _ _ _ ho;replace hcall := zz hcall;replace hb1 := zz hb1;clear ho HM HA
 cases p with
 | false =>
  clear HP;go_wp2_with fail;refine hcall.out.mono ?_;rintro e w2 ⟨rfl, hb2⟩;replace hb2 := zz (Ab hb1.out hb2);go_wp2_with fail
  exact bodyPost_ret (v := .tuple #[.string (bs []), .int .i64 1]) (by simp [results, results13, go_sem, bs]) rfl ⟨rfl, hb2.out⟩
 | true =>
  go_wp2_with fail;refine hcall.out.mono ?_;rintro e w2 ⟨rfl, hb2⟩;replace hb2 := zz (Ab hb1.out hb2);go_wp2_with fail;refine (HP.out True.intro _ hb2.out).mono ?_;rintro e w3 ⟨rfl, hb3⟩;replace hb3 := zz (Ab hb2.out hb3);go_wp2_with fail;exact bodyPost_ret (v := .tuple #[.string (bs (Fb l)), .int .i64 0]) (by simp [results, results13, go_sem]) rfl ⟨rfl, hb3.out⟩
end
section
open Go.RowKit Go.Sort
def Zs : Nat → List UInt8 → Nat → Nat → Res
 | 0, _, _, _ => .error (0, 0, 0)
 | n + 1, l, line, col =>
  if l.isEmpty then .ok [⟨8, line, col, 0, []⟩]
  else if l.headD 0 = 10 then Zs n l.tail (line + 1) 1
  else if l.headD 0 = 32 ∨ l.headD 0 = 9 ∨ l.headD 0 = 13 then Zs n l.tail line (col + 1)
  else if l.headD 0 = 35 then Zs n (l.tail.drop (C1 nlf l.tail)) line (col + (C1 nlf l.tail + 1))
  else if (one l).err = 0 then (Zs n (l.drop (one l).size) line (col + (one l).size)).map (⟨(one l).kind, line, col, (one l).num, (one l).text⟩ :: ·)
  else .error ((one l).err, line, col)
theorem Rx (n : Nat) : ∀ (l : List UInt8) (a b : Nat), l.length < n → Zs n l a b = Gw l a b := by
 induction n with
 | zero => intro l a b h; omega
 | succ n ih =>
  intro l a b h;rw [Zs, Gw];by_cases hl : l = []
  ·subst hl; rfl
  ·have hp : 0 < l.length := List.length_pos_iff.2 hl;rw [if_neg (by simpa using hl), dif_neg hl];split
   ·exact ih _ _ _ (by simp; omega)
   ·split
    ·exact ih _ _ _ (by simp; omega)
    ·split
     ·exact ih _ _ _ (by simp; omega)
     ·split
      ·rename_i h4;have := Pe l hl h4;rw [ih _ _ _ (by simp; omega)]
      ·rfl
def c0q : Fo := .cons ⟨31, 1, 6, 3, []⟩ (.cons ⟨31, 1, 3, 1, []⟩ (.cons ⟨26, 1, 2, 0, [97]⟩ .nil (.cons ⟨26, 1, 4, 0, [98]⟩ .nil .nil)) (.cons ⟨26, 1, 8, 0, [99]⟩ .nil .nil)) .nil
def c0p : Fo := .cons ⟨31, 1, 8, 2, []⟩ (.cons ⟨31, 1, 2, 2, []⟩ (.cons ⟨26, 1, 1, 0, [97]⟩ .nil (.cons ⟨31, 1, 5, 2, []⟩ (.cons ⟨26, 1, 4, 0, [98]⟩ .nil (.cons ⟨26, 1, 6, 0, [99]⟩ .nil .nil)) .nil)) (.cons ⟨26, 1, 9, 0, [100]⟩ .nil .nil)) .nil
def c0o : Fo := .cons ⟨30, 1, 1, 12, []⟩ (.cons ⟨30, 1, 3, 12, []⟩ (.cons ⟨26, 1, 4, 0, [120]⟩ .nil .nil) .nil) .nil
theorem c3a : Hq Bc [40, 97, 43, 98, 41, 42, 40, 99, 41] = (c0q.pre, (0, 0, 0)) := by
 unfold Hq;rw [if_neg (by decide), ← Rx 20 _ _ _ (by decide)];rfl
theorem c29 : Hq Bc [97, 45, 40, 98, 45, 99, 41, 45, 100] = (c0p.pre, (0, 0, 0)) := by
 unfold Hq;rw [if_neg (by decide), ← Rx 20 _ _ _ (by decide)];rfl
theorem c28 : Hq Bc [45, 40, 45, 120, 41] = (c0o.pre, (0, 0, 0)) := by
 unfold Hq;rw [if_neg (by decide), ← Rx 20 _ _ _ (by decide)];rfl
theorem c3d : Fb c0q.pre = [40, 97, 32, 43, 32, 98, 41, 32, 42, 32, 99] := by rw [L7]; rfl
theorem c3c : Fb c0p.pre = [97, 32, 45, 32, 40, 98, 32, 45, 32, 99, 41, 32, 45, 32, 100] := by rw [L7]; rfl
theorem c3b : Fb c0o.pre = [45, 45, 120] := by rw [L7]; rfl
theorem c3g : U1 c0q.pre = true := Sy (by decide) (by decide) (by rfl)
theorem c3f : U1 c0p.pre = true := Sy (by decide) (by decide) (by rfl)
theorem c3e : U1 c0o.pre = true := Sy (by decide) (by decide) (by rfl)
def wfB (x : Nd) : Bool := decide (x.kind < 256) && decide (-9223372036854775808 ≤ x.line ∧ x.line ≤ 9223372036854775807) && decide (-9223372036854775808 ≤ x.col ∧ x.col ≤ 9223372036854775807) && decide (-9223372036854775808 ≤ x.size ∧ x.size ≤ 9223372036854775807) && decide (-9223372036854775808 ≤ x.num ∧ x.num ≤ 9223372036854775807) && decide (x.text.size ≤ 100000)
theorem a1p {l : List Nd} (h : l.all wfB = true) : ∀ i, i < l.length → (nd l i).wf := fun i hi => by
 have e : nd l i = l[i] := by simp [nd, List.getD_eq_getElem?_getD, List.getElem?_eq_getElem hi]
 have := List.all_eq_true.1 h _ (List.getElem_mem hi);rw [e];simp only [wfB, Bool.and_eq_true, decide_eq_true_eq] at this;obtain ⟨⟨⟨⟨⟨h1, h2⟩, h3⟩, h4⟩, h5⟩, h6⟩ := this;exact ⟨h1, h2, h3, h4, h5, by unfold maxLen; omega⟩
theorem Oi {w : World} {a : Option Addr} {l : List Nd} (h : a1b w a l) (hwf : ∀ i, i < l.length → (nd l i).wf) : Row w a l := fun i hi => by
 obtain ⟨g, o, h1, h2⟩ := h i hi;exact ⟨g, o, h1, h2, hwf i hi⟩
theorem X8 {w : World} {a : Option Addr} {l : List Nd} (h : a1b w a l) (hl : 0 < l.length) : a6y w a := fun g o e => by
 obtain ⟨g', o', h1, h2⟩ := h 0 hl;rw [e] at h1;cases h1;exact block_lt_of_cell h2.c0
theorem Qh (s : ByteArray) (L : List Nd) (T : List UInt8) (hread : Hq Bc s.data.toList = (L, (0, 0, 0))) (hp : 0 < L.length) (hn : L.length ≤ 4000) (hwf : ∀ i, i < L.length → (nd L i).wf) (ht : (L.map fun x => x.text.size).sum ≤ 100000) (he : U1 L = true) (hT : Fb L = T) (w : World) :
  Calls prog 22 #[.string s] w fun e w' => e = .returned (.string (bs T)) ∧ Below w.heap.size w w' := by
 have H := zz (fun w => a90 s w);rw [hread] at H
 have HE := zz (fun (w : World) (a : Option Addr) (n cap : Nat) (hz : a = none → n = 0 ∧ cap = 0) (hlen : L.length = n) (hr : Row w a L) (hlow : a6y w a) => by
  have := a9z (cap := cap) hz hlen (by omega) hr (fun _ => hlow) ht he;rw [if_pos rfl, hT] at this
  exact this)
 replace hwf := zz hwf;replace hp := zz hp;clear hread ht he hT hn;go_enter func22, ntmps22;go_wp2_with fail;refine (H.out _).mono ?_;rintro e w1 ⟨a, n, cap, rfl, hn, hn2, hr, -, hb1⟩
 have hz : a = none → n = 0 ∧ cap = 0 := fun ea => by
  obtain ⟨g, o, h1, -⟩ := hr 0 hp.out;rw [ea] at h1; cases h1
 have HX := zz (fun w2 (h : Below w1.heap.size w1 w2) => HE.out w2 a n cap hz hn (Oi (hr.carry h) hwf.out) (X8 (hr.carry h) hp.out));replace hb1 := zz hb1;clear hn hr hz H HE hwf hp;go_wp2_with fail;refine (HX.out _ (Aa _ _)).mono ?_;rintro e w2 ⟨rfl, hb2⟩;replace hb2 := zz (Ab (Ab hb1.out (Aa _ _)) hb2);go_wp2_with fail;go_ret;exact ⟨rfl, hb2.out⟩
theorem Ms (w : World) : Calls prog 9 #[] w fun e w' => e = .returned (.bool true) ∧ Below w.heap.size w w' := by
 have H1 := zz (fun w => Qh { data := #[40, 97, 43, 98, 41, 42, 40, 99, 41] } c0q.pre _ c3a (by decide) (by decide) (a1p (by decide)) (by decide) c3g c3d w);have H2 := zz (fun w => Qh { data := #[97, 45, 40, 98, 45, 99, 41, 45, 100] } c0p.pre _ c29 (by decide) (by decide) (a1p (by decide)) (by decide) c3f c3c w);have H3 := zz (fun w => Qh { data := #[45, 40, 45, 120, 41] } c0o.pre _ c28 (by decide) (by decide) (a1p (by decide)) (by decide) c3e c3b w);go_enter func9, ntmps9;go_wp2_with fail;refine (H1.out _).mono ?_;rintro e w1 ⟨rfl, hb1⟩;replace hb1 := zz hb1;simp only [bs];go_wp2_with fail;refine (H2.out _).mono ?_;rintro e w2 ⟨rfl, hb2⟩;replace hb2 := zz (Ab hb1.out hb2);simp only [bs];go_wp2_with fail;refine (H3.out _).mono ?_;rintro e w3 ⟨rfl, hb3⟩;replace hb3 := zz (Ab hb2.out hb3);simp only [bs];go_wp2_with fail;go_ret;exact ⟨rfl, hb3.out⟩
end
section
def tkB (t : Tok) : Tok := ⟨t.kind, 0, 0, t.num, t.text⟩
def NB (m : List UInt8) : Prop := ∀ c, m.head? = some c → nam c = false
def NE (m : List UInt8) : Prop := ∀ c, m.head? = some c → c ≠ 61
def Lx (b : Bool) (s : List UInt8) (T : List Tok) : Prop := ∀ m line col, (b = true → NB m) → NE m → ∃ l' c' T', T'.map tkB = T ∧ Gw (s ++ m) line col = (Gw m l' c').map (T' ++ ·)
theorem Lx.weak {s : List UInt8} {T : List Tok} (h : Lx false s T) (b : Bool) : Lx b s T := fun m line col _ h2 => h m line col (by intro h; cases h) h2
theorem b1v (b : Bool) : Lx b [] [] := fun m line col _ _ => ⟨line, col, [], rfl, by cases h : Gw m line col <;> simp [Except.map, h]⟩
theorem Wp {x : Res} {A B : List Tok} : ((x.map (B ++ ·)).map (A ++ ·) : Res) = x.map ((A ++ B) ++ ·) := by
 cases x <;> simp [Except.map]
theorem Lx.app {b c : Bool} {s u : List UInt8} {T U : List Tok} (h : Lx b s T) (k : Lx c u U) (hu : u ≠ []) (hb : b = true → NB u) (he : NE u) : Lx c (s ++ u) (T ++ U) := fun m line col h1 h2 => by
 have hd : ∀ x, (u ++ m).head? = some x → u.head? = some x := fun x hx => by
  cases u with
  | nil => exact absurd rfl hu
  | cons y r => simpa using hx
 obtain ⟨l1, c1, T1, e1, f1⟩ := h (u ++ m) line col (fun q x hx => hb q x (hd x hx)) (fun x hx => he x (hd x hx));obtain ⟨l2, c2, T2, e2, f2⟩ := k m l1 c1 h1 h2;exact ⟨l2, c2, T1 ++ T2, by rw [List.map_append, e1, e2], by rw [List.append_assoc, f1, f2, Wp]⟩
theorem Hu {c : UInt8} (hc : c = 32 ∨ c = 9 ∨ c = 13 ∨ c = 10) {b : Bool} {s : List UInt8} {T : List Tok} (h : Lx b s T) : Lx b (c :: s) T := fun m line col h1 h2 => by
 rw [List.cons_append];rcases hc with rfl | rfl | rfl | rfl
 ·rw [Gv _ _ _ _ (by simp)]; exact h m _ _ h1 h2
 ·rw [Gv _ _ _ _ (by simp)]; exact h m _ _ h1 h2
 ·rw [Gv _ _ _ _ (by simp)]; exact h m _ _ h1 h2
 ·rw [Rv]; exact h m _ _ h1 h2
theorem Ri {b : Bool} {c : UInt8} {s : List UInt8} {t : Tok} (hg : ¬ I2 c) (h : ∀ m, (b = true → NB m) → NE m → one (c :: s ++ m) = ⟨0, s.length + 1, t.kind, t.num, t.text⟩) : Lx b (c :: s) [tkB t] := fun m line col h1 h2 => by
 have e := h m h1 h2;refine ⟨line, col + (s.length + 1), [⟨t.kind, line, col, t.num, t.text⟩], rfl, ?_⟩;rw [List.cons_append] at e ⊢;rw [N9 _ _ _ _ hg (by rw [e]), e];simp only;rw [List.drop_succ_cons, List.drop_left];rfl
abbrev sg (x : List UInt8) : Tok := ⟨7, 0, 0, 0, x⟩
abbrev wd (x : List UInt8) : Tok := ⟨6, 0, 0, 0, x⟩
abbrev nmT (x : List UInt8) : Tok := ⟨1, 0, 0, 0, x⟩
abbrev bgT (x : List UInt8) : Tok := ⟨2, 0, 0, 0, x⟩
theorem Bv {c : UInt8} (hc : c ∈ b6d) : Lx false [c] [sg [c]] := by
 have hk : ¬ I2 c ∧ (sml c || grt c) = false ∧ dgt c = false ∧ c ≠ 34 ∧ ∀ d : UInt8, d ≠ 61 → [c, d] ∉ Tj := by
  simp only [b6d, List.mem_cons, List.not_mem_nil, or_false] at hc;refine ⟨by rcases hc with rfl | rfl | rfl | rfl | rfl | rfl | rfl | rfl | rfl | rfl | rfl | rfl | rfl | rfl | rfl | rfl | rfl | rfl | rfl <;> unfold I2 <;> decide, by rcases hc with rfl | rfl | rfl | rfl | rfl | rfl | rfl | rfl | rfl | rfl | rfl | rfl | rfl | rfl | rfl | rfl | rfl | rfl | rfl <;> decide, by rcases hc with rfl | rfl | rfl | rfl | rfl | rfl | rfl | rfl | rfl | rfl | rfl | rfl | rfl | rfl | rfl | rfl | rfl | rfl | rfl <;> decide, by rcases hc with rfl | rfl | rfl | rfl | rfl | rfl | rfl | rfl | rfl | rfl | rfl | rfl | rfl | rfl | rfl | rfl | rfl | rfl | rfl <;> decide, fun d hd hm => ?_⟩;simp only [Tj, List.mem_cons, List.not_mem_nil, or_false, List.cons.injEq, and_true] at hm;rcases hm with ⟨rfl, rfl⟩ | ⟨rfl, rfl⟩ | ⟨rfl, rfl⟩ | ⟨rfl, rfl⟩ | ⟨rfl, rfl⟩ | ⟨rfl, rfl⟩
  ·revert hc; decide
  ·revert hc; decide
  all_goals exact hd rfl
 obtain ⟨g1, g2, g3, g4, g5⟩ := hk;refine Ri (t := sg [c]) g1 fun m _ h2 => ?_
 show one (c :: m) = _;unfold one;rw [List.headD_cons, g2, g3, if_neg (by simp), if_neg (by simp), if_neg g4];unfold O6
 have ht : ¬ (c :: m).take 2 ∈ Tj := by
  cases m with
  | nil =>
   intro hm;have h6 : ∀ x ∈ Tj, x.length = 2 := by decide
   have := h6 _ hm
   simp at this
  | cons d r => exact g5 d (h2 d rfl)
 have hs : sgn (c :: m) = 1 := by rw [sgn, if_neg ht, List.headD_cons, if_pos hc]
 rw [hs];rfl
theorem Kp {c d : UInt8} (hc : [c, d] ∈ Tj) : Lx false [c, d] [sg [c, d]] := by
 have hk : ¬ I2 c ∧ (sml c || grt c) = false ∧ dgt c = false ∧ c ≠ 34 := by
  simp only [Tj, List.mem_cons, List.not_mem_nil, or_false, List.cons.injEq, and_true] at hc;rcases hc with ⟨rfl, rfl⟩ | ⟨rfl, rfl⟩ | ⟨rfl, rfl⟩ | ⟨rfl, rfl⟩ | ⟨rfl, rfl⟩ | ⟨rfl, rfl⟩ <;> exact ⟨by unfold I2; decide, by decide, by decide, by decide⟩
 obtain ⟨g1, g2, g3, g4⟩ := hk;refine Ri (t := sg [c, d]) g1 fun m _ h2 => ?_
 show one (c :: d :: m) = _;unfold one;rw [List.headD_cons, g2, g3, if_neg (by simp), if_neg (by simp), if_neg g4];unfold O6;have hs : sgn (c :: d :: m) = 2 := by rw [sgn, if_pos (show List.take 2 (c :: d :: m) ∈ Tj from hc)]
 rw [hs];rfl
theorem L4 {t m : List UInt8} (h : t.all nam = true) (hm : NB m) : C1 nam (t ++ m) = t.length := by
 rw [R4 (by simpa using h), Jy hm]; rfl
theorem Sf {c : UInt8} {s : List UInt8} (hc : (sml c || grt c) = true) (ha : (c :: s).all nam = true) : Lx true (c :: s) [⟨Qk (c :: s), 0, 0, 0, c :: s⟩] := by
 have hg : ¬ I2 c := by
  intro hg;unfold I2 at hg;rcases hg with rfl | rfl | rfl | rfl | rfl <;> revert hc <;> decide
 refine Ri (t := ⟨Qk (c :: s), 0, 0, 0, c :: s⟩) hg fun m h1 _ => ?_
 have hr := L4 ha (h1 rfl);unfold one;rw [show (c :: s ++ m).headD 0 = c from rfl, if_pos hc, hr, List.take_left]
 have hn : Qk (c :: s ++ m) = Qk (c :: s) := by
  unfold Qk
  rw [hr, List.take_left, show C1 nam (c :: s) = (c :: s).length by
   have := L4 (m := []) ha (fun x hx => by cases hx)
   rwa [List.append_nil] at this, List.take_length]
  rfl
 rw [hn];rfl
theorem Wq {w : List UInt8} (h : w ∈ Vh) : Lx true w [wd w] := by
 have hk : ∃ c s, w = c :: s ∧ (sml c || grt c) = true ∧ w.all nam = true := by
  simp only [Vh, List.mem_cons, List.not_mem_nil, or_false] at h;rcases h with rfl | rfl | rfl | rfl | rfl | rfl | rfl | rfl | rfl | rfl | rfl | rfl | rfl | rfl | rfl | rfl <;> exact ⟨_, _, rfl, by decide, by decide⟩
 obtain ⟨c, s, rfl, h1, h2⟩ := hk;have := Sf h1 h2
 have e : Qk (c :: s) = 6 := by
  unfold Qk
  rw [show C1 nam (c :: s) = (c :: s).length by
   have := L4 (m := []) h2 (fun x hx => by cases hx)
   rwa [List.append_nil] at this, List.take_length, I1, decide_eq_true h, if_pos rfl]
 rw [e] at this;exact this
theorem Kj {q : Int → Bool} {l : List UInt8} (h : Lk q l = true) : ∃ c s, l = c :: s ∧ q c.toNat = true ∧ l.all nam = true := by
 unfold Lk at h;rw [Bool.and_eq_true, Bool.and_eq_true] at h
 cases l with
 | nil => simp at h
 | cons c s => exact ⟨c, s, rfl, h.1.2, h.2⟩
theorem b7d (c : UInt8) : Rz (c.toNat : Int) = sml c := by
 unfold Rz sml;rw [Bool.eq_iff_iff];simp only [Bool.or_eq_true, Bool.and_eq_true, decide_eq_true_eq];have : c = 95 ↔ (c.toNat : Int) = 95 := ⟨fun h => by rw [h]; rfl, fun h => UInt8.toNat_inj.1 (by show c.toNat = 95; omega)⟩;rw [this];omega
theorem b84 (c : UInt8) : Ve (c.toNat : Int) = grt c := by
 unfold Ve grt;rw [Bool.eq_iff_iff];simp only [Bool.and_eq_true, decide_eq_true_eq];omega
theorem Sh {t : List UInt8} (h : Ef t = true) : Lx true t [nmT t] := by
 unfold Ef at h;rw [Bool.and_eq_true, Bool.not_eq_true'] at h;obtain ⟨c, s, rfl, h1, h2⟩ := Kj h.1;rw [b7d] at h1
 have hg : grt c = false := by
  cases hh : grt c with
  | false => rfl
  | true =>
   simp [sml, grt] at h1 hh;rcases h1 with h1 | h1
   ·omega
   ·subst h1; revert hh; decide
 have := Sf (c := c) (s := s) (by rw [h1]; rfl) h2
 have e : Qk (c :: s) = 1 := by
  unfold Qk
  rw [show C1 nam (c :: s) = (c :: s).length by
   have := L4 (m := []) h2 (fun x hx => by cases hx)
   rwa [List.append_nil] at this, List.take_length, h.2, List.headD_cons, hg]
  rfl
 rw [e] at this;exact this
theorem a81 {t : List UInt8} (h : Gi t = true) : Lx true t [bgT t] := by
 unfold Gi at h;obtain ⟨c, s, rfl, h1, h2⟩ := Kj h;rw [b84] at h1;have := Sf (c := c) (s := s) (by rw [h1]; simp) h2
 have hw : I1 (c :: s) = false := by
  cases hh : I1 (c :: s) with
  | false => rfl
  | true =>
   rw [I1, decide_eq_true_eq] at hh;have : ∀ w ∈ Vh, grt (w.headD 0) = false := by decide
   have := this _ hh;rw [List.headD_cons, h1] at this;cases this
 have e : Qk (c :: s) = 2 := by
  unfold Qk
  rw [show C1 nam (c :: s) = (c :: s).length by
   have := L4 (m := []) h2 (fun x hx => by cases hx)
   rwa [List.append_nil] at this, List.take_length, hw, List.headD_cons, h1]
  rfl
 rw [e] at this;exact this
theorem b8t (t : List UInt8) : Lx false (lit t) [⟨5, 0, 0, 0, t⟩] := by
 obtain ⟨r, hr⟩ : ∃ r, lit t = 34 :: r := ⟨_, rfl⟩;rw [hr];refine Ri (t := ⟨5, 0, 0, 0, t⟩) (by unfold I2; decide) fun m _ _ => ?_
 have := a74 t m;rw [hr] at this;unfold one;rw [show (34 :: r ++ m).headD 0 = (34 : UInt8) from rfl, if_neg (by decide), if_neg (by decide), if_pos rfl, Pi, this];rfl
theorem S2 (n : Nat) : ∀ c ∈ Nm.dec n, dgt c = true := fun c hc => List.all_eq_true.1 (Nm.dec_all n) c hc
theorem b48 {c : UInt8} (h : dgt c = true) : nam c = true := by unfold nam; rw [h]; simp
theorem W8 {c : UInt8} (h : dgt c = true) : (sml c || grt c) = false ∧ ¬ I2 c ∧ c ≠ 105 ∧ c ≠ 45 := by
 simp only [dgt, Bool.and_eq_true, decide_eq_true_eq] at h;refine ⟨?_, ?_, ?_, ?_⟩
 ·rw [Bool.or_eq_false_iff];constructor
  ·unfold sml;rw [Bool.or_eq_false_iff];constructor
   ·simp; omega
   ·rw [decide_eq_false_iff_not]; rintro rfl; revert h; decide
  ·unfold grt; simp; omega
 ·unfold I2;rintro (rfl | rfl | rfl | rfl | rfl) <;> revert h <;> decide
 ·rintro rfl; revert h; decide
 ·rintro rfl; revert h; decide
theorem Xn (n : Nat) : b1e (Nm.dec n) = Nm.dec n := by
 unfold b1e
 have : C1 nou (Nm.dec n).dropLast = 0 := by
  cases hd : (Nm.dec n).dropLast with
  | nil => rfl
  | cons c r =>
   have h1 : (Nm.dec n).headD 0 = c := by
    cases he : Nm.dec n with
    | nil => rw [he] at hd; simp at hd
    | cons x y =>
     rw [he] at hd
     cases y with
     | nil => simp at hd
     | cons z w => simp at hd; rw [List.headD_cons]; exact hd.1
   have h2 : 0 < n := by
    by_cases h0 : n = 0
    ·subst h0;rw [Nm.dec_small (by omega)] at hd;simp at hd
    ·omega
   have h3 := Nm.dec_head n h2;rw [h1] at h3;unfold C1 nou;rw [if_neg (by simpa using h3)]
 rw [this, List.drop_zero]
theorem T7 (n : Nat) (h : n ≤ 9223372036854775807) : Nm.parseE (Nm.dec n) = 0 ∧ Nm.parseN (Nm.dec n) = n := by
 have hn : Nm.negB (Nm.dec n) = false := by
  unfold Nm.negB
  cases he : Nm.dec n with
  | nil => exact absurd he (Nm.dec_ne n)
  | cons x y =>
   have := S2 n x (by rw [he]; simp);have := (W8 this).2.2.2;simpa using this
 have hb : Nm.body (Nm.dec n) = Nm.dec n := by unfold Nm.body; rw [hn]; rfl
 have hg : Nm.good (Nm.dec n) = true := by unfold Nm.good; rw [hb, Nm.isDec_dec, hn]; rfl
 have hm : ¬ Nm.mostOf false < Nm.valL (Nm.dec n) := by rw [Nm.valL_dec]; show ¬ 9223372036854775807 < n; omega
 unfold Nm.parseE Nm.parseN;rw [hg, hb, hn, if_neg hm, Nm.valL_dec];simp only [if_true, if_neg (show ¬ Nm.mostOf false < n by rw [Nm.valL_dec] at hm; exact hm)];exact ⟨trivial, by simp⟩
theorem b8v (n : Nat) (h : n ≤ 9223372036854775807) : Lx true (Nm.dec n) [⟨3, 0, 0, n, []⟩] := by
 obtain ⟨c, s, hcs⟩ : ∃ c s, Nm.dec n = c :: s := by
  cases he : Nm.dec n with
  | nil => exact absurd he (Nm.dec_ne n)
  | cons x y => exact ⟨x, y, rfl⟩
 have ha := S2 n;have ht := Xn n;have hp := T7 n h;rw [hcs] at ha ht hp ⊢;obtain ⟨g1, g2, g3, _⟩ := W8 (ha c (by simp));refine Ri (t := ⟨3, 0, 0, n, []⟩) g2 fun m h1 _ => ?_
 have hnb := h1 rfl
 have hr : C1 dgt (c :: s ++ m) = (c :: s).length := by
  rw [R4 ha, Jy fun x hx => by
   cases hd : dgt x with
   | false => rfl
   | true => have := hnb x hx; rw [b48 hd] at this; cases this]
  rfl
 have hC : isC (c :: s ++ m) = false := by
  unfold isC;rw [hr, List.drop_left, decide_eq_false_iff_not];intro hm;have := hnb 105 hm
  revert this; decide
 have hK : a1e (c :: s ++ m) = (c :: s).length := by unfold a1e; rw [hC, hr]; rfl
 have hD : Wk (c :: s ++ m) = c :: s := by unfold Wk; rw [hr, List.take_left, ht]
 have hM : a3v (c :: s ++ m) = 9223372036854775807 := by unfold a3v; rw [hC]; rfl
 unfold one;rw [show (c :: s ++ m).headD 0 = c from rfl, g1, if_neg (by simp), if_pos (ha c (by simp))];unfold Nw;rw [hK, List.drop_left, Jy hnb, if_neg (by simp), hD, hM, hp.1, hp.2, if_neg (by omega), hC];rfl
theorem b36 (n : Nat) (h : n ≤ 8388607) : Lx true (Nm.dec n ++ [105]) [⟨4, 0, 0, n, []⟩] := by
 obtain ⟨c, s, hcs⟩ : ∃ c s, Nm.dec n = c :: s := by
  cases he : Nm.dec n with
  | nil => exact absurd he (Nm.dec_ne n)
  | cons x y => exact ⟨x, y, rfl⟩
 have ha := S2 n;have ht := Xn n;have hp := T7 n (by omega);rw [hcs] at ha ht hp ⊢;obtain ⟨g1, g2, g3, _⟩ := W8 (ha c (by simp));rw [List.cons_append];refine Ri (t := ⟨4, 0, 0, n, []⟩) g2 fun m h1 _ => ?_
 have hnb := h1 rfl;have e : c :: (s ++ [105]) ++ m = c :: s ++ (105 :: m) := by simp
 rw [e]
 have hr : C1 dgt (c :: s ++ (105 :: m)) = (c :: s).length := by
  rw [R4 ha, Jy fun x hx => by
   simp at hx; subst hx; decide]
  rfl
 have hC : isC (c :: s ++ (105 :: m)) = true := by
  unfold isC;rw [hr, List.drop_left];rfl
 have hK : a1e (c :: s ++ (105 :: m)) = (c :: s).length + 1 := by unfold a1e; rw [hC, hr]; rfl
 have hD : Wk (c :: s ++ (105 :: m)) = c :: s := by unfold Wk; rw [hr, List.take_left, ht]
 have hM : a3v (c :: s ++ (105 :: m)) = 8388607 := by unfold a3v; rw [hC]; rfl
 have hdr : (c :: s ++ (105 :: m)).drop ((c :: s).length + 1) = m := by
  rw [← List.drop_drop, List.drop_left]; rfl
 unfold one;rw [show (c :: s ++ (105 :: m)).headD 0 = c from rfl, g1, if_neg (by simp), if_pos (ha c (by simp))];unfold Nw;rw [hK, hdr, Jy hnb, if_neg (by simp), hD, hM, hp.1, hp.2, if_neg (by omega), hC];simp
end
section
abbrev TT := Inf × List Tok
def Ie (ts : List TT) (j : Nat) : TT := ts.getD j (c0n, [])
def Ql (m : Nat) (x : TT) : List Tok := if lvl x.1 < m then sg [40] :: (x.2 ++ [sg [41]]) else x.2
def Ao : List TT → List Tok
 | [] => []
 | x :: l => x.2 ++ l.flatMap fun y => sg [44] :: y.2
def Uk (ts : List TT) : List Tok := [sg [123]] ++ (ts.flatMap fun x => x.2) ++ [sg [125]]
def b5x (i : Inf) : Tok :=
 if i.kind = 21 then ⟨3, 0, 0, i.num, []⟩ else if i.kind = 22 then ⟨4, 0, 0, i.num, []⟩ else if i.kind = 23 then ⟨5, 0, 0, 0, i.text⟩
 else if i.kind = 24 then (if i.num = 0 then wd [102, 97, 108, 115, 101] else wd [116, 114, 117, 101]) else if i.kind = 25 then wd [110, 105, 108] else nmT i.text
def c0y (i : Inf) (ts : List TT) : List Tok :=
 if i.kind = 15 then [wd [105, 110, 116]] else if i.kind = 16 then [wd [98, 111, 111, 108]] else if i.kind = 17 then [wd [115, 116, 114]] else if i.kind = 18 then [wd [99, 111, 109, 112]]
 else if i.kind = 19 then [bgT i.text] else [sg [91]] ++ (Ie ts 0).2 ++ [sg [93]]
def tkN (i : Inf) (ts : List TT) : List Tok := match i.kind with
 | 1 => ts.flatMap fun x => x.2
 | 2 => [wd [114, 101, 99], bgT i.text] ++ Uk ts
 | 3 => [nmT i.text, sg [58]] ++ (Ie ts 0).2 ++ [sg [59]]
 | 4 => [wd [102, 110], nmT i.text, sg [40]] ++ Ao (ts.take i.num.toNat) ++ [sg [41]] ++ (if (Ie ts i.num.toNat).1.kind = 14 then [] else [sg [58]] ++ (Ie ts i.num.toNat).2) ++ (Ie ts (i.num.toNat + 1)).2
 | 5 => [nmT i.text, sg [58]] ++ (Ie ts 0).2
 | 6 => Uk ts
 | 7 => [wd [118, 97, 114], nmT i.text, sg [58]] ++ (Ie ts 0).2 ++ [sg [61]] ++ (Ie ts 1).2 ++ [sg [59]]
 | 8 => (Ie ts 0).2 ++ [sg [61]] ++ (Ie ts 1).2 ++ [sg [59]]
 | 9 => [wd [105, 102]] ++ (Ie ts 0).2 ++ (Ie ts 1).2 ++ (if ts.length = 3 then [wd [101, 108, 115, 101]] ++ (Ie ts 2).2 else [])
 | 10 => [wd [119, 104, 105, 108, 101]] ++ (Ie ts 0).2 ++ (Ie ts 1).2
 | 11 => [wd [114, 101, 116, 117, 114, 110]] ++ (if ts.length = 1 then (Ie ts 0).2 else []) ++ [sg [59]]
 | 12 => [wd [112, 114, 105, 110, 116]] ++ (Ie ts 0).2 ++ [sg [59]]
 | 13 => (Ie ts 0).2 ++ [sg [59]]
 | 14 => []
 | 15 | 16 | 17 | 18 | 19 | 20 => c0y i ts
 | 21 | 22 | 23 | 24 | 25 | 26 => [b5x i]
 | 27 => [nmT i.text, sg [40]] ++ Ao ts ++ [sg [41]]
 | 28 => Ql 8 (Ie ts 0) ++ [sg [91]] ++ (Ie ts 1).2 ++ [sg [93]]
 | 29 => Ql 8 (Ie ts 0) ++ [sg [46], nmT i.text]
 | 30 => [sg (opS i.num).1] ++ Ql 7 (Ie ts 0)
 | 31 => Ql (D2 (opS i.num).2) (Ie ts 0) ++ [sg (opS i.num).1] ++ Ql ((opS i.num).2 + 1) (Ie ts 1)
 | 32 => [wd [109, 97, 107, 101]] ++ (Ie ts 0).2 ++ [sg [40]] ++ Ao ts.tail ++ [sg [41]]
 | _ => []
def tkF : Fo → List TT
 | .nil => []
 | .cons i k r => (i, tkN i (tkF k)) :: tkF r
def Hd (s : List UInt8) : Prop := ∃ c r, s = c :: r ∧ c ≠ 61
theorem Hd.app {s : List UInt8} (h : Hd s) (u : List UInt8) : Hd (s ++ u) := by
 obtain ⟨c, r, rfl, h2⟩ := h;exact ⟨c, r ++ u, rfl, h2⟩
def Sub (s : List UInt8) (T : List Tok) : Prop := Lx true s T ∧ Hd s
theorem Lx.sub {s u : List UInt8} {T U : List Tok} (h : Lx false s T) (k : Sub u U) : Lx true (s ++ u) (T ++ U) := by
 obtain ⟨k1, c, r, rfl, k2⟩ := k;exact h.app k1 (by simp) (fun h => by cases h) (fun x hx => by simp at hx; subst hx; exact k2)
theorem Lx.lit {b d : Bool} {s r : List UInt8} {T U : List Tok} {c : UInt8} (h : Lx b s T) (k : Lx d (c :: r) U) (hc : nam c = false ∧ c ≠ 61) : Lx d (s ++ c :: r) (T ++ U) :=
 h.app k (by simp) (fun _ x hx => by simp at hx; subst hx; exact hc.1) (fun x hx => by simp at hx; subst hx; exact hc.2)
theorem bl (b : Bool) : Lx b [32] [] := Hu (by simp) (b1v b)
theorem b8u : Lx false [32, 61, 32] [sg [61]] := Hu (by simp) ((Bv (c := 61) (by decide)).lit (bl false) (by decide))
theorem Ol : Lx false [58, 32] [sg [58]] := (Bv (c := 58) (by decide)).lit (bl false) (by decide)
theorem a82 : Lx false [44, 32] [sg [44]] := (Bv (c := 44) (by decide)).lit (bl false) (by decide)
theorem Lo : Lx false [59] [sg [59]] := Bv (by decide)
theorem Wt : Lx false [40] [sg [40]] := Bv (by decide)
theorem Ws : Lx false [41] [sg [41]] := Bv (by decide)
theorem De {w : List UInt8} (h : w ∈ Vh) : Lx false (w ++ [32]) [wd w] := by
 have := (Wq h).lit (bl false) (by decide)
 rwa [List.append_nil] at this
theorem b35 : Lx false [32, 101, 108, 115, 101, 32] [wd [101, 108, 115, 101]] := Hu (by simp) (De (w := [101, 108, 115, 101]) (by decide))
theorem b8s (n : Nat) {b : Bool} {s : List UInt8} {T : List Tok} (h : Lx b s T) : Lx b (nl n ++ s) T := by
 have : Lx b (List.replicate n 9 ++ s) T := by
  induction n with
  | zero => simpa using h
  | succ n ih =>
   rw [List.replicate_succ, List.cons_append];exact Hu (by simp) ih
 exact Hu (by simp) this
def Pr (x : Tx) (y : TT) : Prop := x.1 = y.1 ∧ (x.1.kind ≠ 14 → Sub x.2 y.2)
def PrL : List Tx → List TT → Prop
 | [], [] => True
 | x :: l, y :: t => Pr x y ∧ PrL l t
 | _, _ => False
theorem a3h : ∀ {ks : List Tx} {ts : List TT}, PrL ks ts → ks.length = ts.length
 | [], [], _ => rfl
 | _ :: l, _ :: t, h => by rw [List.length_cons, List.length_cons, a3h h.2]
theorem Jc {x : Tx} {ts : List TT} (h : PrL [x] ts) : ∃ x', ts = [x'] ∧ Pr x x' := by
 match ts, h with
 | [x'], h => exact ⟨x', rfl, h.1⟩
theorem J3 {x y : Tx} {ts : List TT} (h : PrL [x, y] ts) : ∃ x' y', ts = [x', y'] ∧ Pr x x' ∧ Pr y y' := by
 match ts, h with
 | [x', y'], h => exact ⟨x', y', rfl, h.1, h.2.1⟩
theorem a3g {x y z : Tx} {ts : List TT} (h : PrL [x, y, z] ts) : ∃ x' y' z', ts = [x', y', z'] ∧ Pr x x' ∧ Pr y y' ∧ Pr z z' := by
 match ts, h with
 | [x', y', z'], h => exact ⟨x', y', z', rfl, h.1, h.2.1, h.2.2.1⟩
theorem a3i : ∀ {ks ls : List Tx} {ts : List TT}, PrL (ks ++ ls) ts → ∃ us vs, ts = us ++ vs ∧ PrL ks us ∧ PrL ls vs
 | [], ls, ts, h => ⟨[], ts, rfl, trivial, h⟩
 | x :: l, ls, y :: t, h => by
  obtain ⟨us, vs, rfl, h1, h2⟩ := a3i (ks := l) h.2;exact ⟨y :: us, vs, rfl, ⟨h.1, h1⟩, h2⟩
theorem Pr.brk {x : Tx} {y : TT} (h : Pr x y) (hk : x.1.kind ≠ 14) (m : Nat) : Sub (brk m x) (Ql m y) := by
 have hs := h.2 hk;unfold YtoaplbljflhheaaGreat.brk Ql;rw [← h.1];split
 ·exact ⟨((Wt.sub hs).lit Ws (by decide)).weak true, 40, _, rfl, by decide⟩
 ·exact hs
def a6p (ks : List Tx) : Prop := ∀ x ∈ ks, x.1.kind ≠ 14
theorem a4c : ∀ {l : List Tx} {t : List TT}, PrL l t → a6p l → ∀ {s : List UInt8} {T : List Tok}, Lx true s T → Lx true (s ++ l.flatMap fun y => [44, 32] ++ y.2) (T ++ t.flatMap fun y => sg [44] :: y.2)
 | [], [], _, _, s, T, h => by simpa using h
 | x :: l, y :: t, hp, hn, s, T, h => by
  have h1 := (h.lit a82 (by decide)).sub (hp.1.2 (hn x (by simp)));have h2 := a4c hp.2 (fun z hz => hn z (by simp [hz])) h1;simp only [List.flatMap_cons];simpa using h2
theorem Si {ks : List Tx} {ts : List TT} (hp : PrL ks ts) (hn : a6p ks) : Lx false ([40] ++ Dr ks ++ [41]) ([sg [40]] ++ Ao ts ++ [sg [41]]) := by
 match ks, ts, hp with
 | [], [], _ => exact Wt.lit Ws (by decide)
 | x :: l, y :: t, hp =>
  have h1 := Wt.sub (hp.1.2 (hn x (by simp)));have h2 := a4c hp.2 (fun z hz => hn z (by simp [hz])) h1;have h3 := h2.lit Ws (by decide);simp only [Dr, Ao];simpa using h3
theorem a4a (n : Nat) : ∀ {l : List Tx} {t : List TT}, PrL l t → a6p l → ∀ {b : Bool} {s : List UInt8} {T : List Tok}, Lx b s T → Lx true (s ++ l.flatMap fun x => nl n ++ x.2) (T ++ t.flatMap fun y => y.2)
 | [], [], _, _, b, s, T, h => by
  cases b
  ·simpa using h.weak true
  ·simpa using h
 | x :: l, y :: t, hp, hn, b, s, T, h => by
  obtain ⟨k1, c, r, k2, k3⟩ := hp.1.2 (hn x (by simp));have h0 : Lx true (10 :: (List.replicate n 9 ++ x.2)) y.2 := b8s n k1;have h1 := h.lit h0 (by decide);have h2 := a4a n hp.2 (fun z hz => hn z (by simp [hz])) h1;simp only [List.flatMap_cons];simpa [nl] using h2
theorem Yf (n : Nat) {ks : List Tx} {ts : List TT} (hp : PrL ks ts) (hn : a6p ks) : Lx false (lines n ks) (Uk ts) := by
 have h1 := a4a (n + 1) hp hn (Bv (c := 123) (by decide));have h0 : Lx false (10 :: (List.replicate n 9 ++ [125])) [sg [125]] := b8s n (Bv (c := 125) (by decide));have h2 := h1.lit h0 (by decide);unfold lines Uk;simpa [nl] using h2
theorem a4b : ∀ {l : List Tx} {t : List TT}, PrL l t → a6p l → Lx false (l.flatMap fun x => x.2 ++ [10]) (t.flatMap fun y => y.2)
 | [], [], _, _ => b1v false
 | x :: l, y :: t, hp, hn => by
  have ih := a4b hp.2 (fun z hz => hn z (by simp [hz]));have h0 : Lx false (10 :: (l.flatMap fun x => x.2 ++ [10])) (t.flatMap fun y => y.2) := Hu (by simp) ih;have h1 := (hp.1.2 (hn x (by simp))).1.lit h0 (by decide);simp only [List.flatMap_cons];simpa using h1
theorem jx1 {P : Nat → Bool} {xs : List Tx} (h : Ag [P] (xs.map fun x => x.1.kind) = true) : ∃ x, xs = [x] ∧ P x.1.kind = true := by
 have hl := Dp h;rw [List.length_map] at hl
 match xs, hl with
 | [x], _ => exact ⟨x, rfl, Cb h (i := 0) (by simp)⟩
theorem jx2 {P Q : Nat → Bool} {xs : List Tx} (h : Ag [P, Q] (xs.map fun x => x.1.kind) = true) : ∃ x y, xs = [x, y] ∧ P x.1.kind = true ∧ Q y.1.kind = true := by
 have hl := Dp h;rw [List.length_map] at hl
 match xs, hl with
 | [x, y], _ => exact ⟨x, y, rfl, Cb h (i := 0) (by simp), Cb h (i := 1) (by simp)⟩
theorem jx3 {P Q R : Nat → Bool} {xs : List Tx} (h : Ag [P, Q, R] (xs.map fun x => x.1.kind) = true) : ∃ x y z, xs = [x, y, z] ∧ P x.1.kind = true ∧ Q y.1.kind = true ∧ R z.1.kind = true := by
 have hl := Dp h;rw [List.length_map] at hl
 match xs, hl with
 | [x, y, z], _ => exact ⟨x, y, z, rfl, Cb h (i := 0) (by simp), Cb h (i := 1) (by simp), Cb h (i := 2) (by simp)⟩
theorem e14 {k : Nat} (h : Ah k = true) : k ≠ 14 := by rw [Ah, decide_eq_true_eq] at h; omega
theorem t14 {k : Nat} (h : Ce k = true) : k ≠ 14 := by rw [Ce, decide_eq_true_eq] at h; omega
theorem c14 {k : Nat} {l : List Nat} (hl : l.contains 14 = false) (h : l.contains k = true) : k ≠ 14 := by
 rintro rfl;rw [hl] at h; cases h
end
section
theorem Sd {t : List UInt8} (h : Ef t = true) : Hd t := by
 unfold Ef at h;rw [Bool.and_eq_true] at h;obtain ⟨c, s, rfl, h1, h2⟩ := Kj h.1;refine ⟨c, s, rfl, ?_⟩;rintro rfl
 revert h1; decide
theorem a9k {t : List UInt8} (h : Gi t = true) : Hd t := by
 unfold Gi at h;obtain ⟨c, s, rfl, h1, h2⟩ := Kj h;refine ⟨c, s, rfl, ?_⟩;rintro rfl
 revert h1; decide
theorem Oa {t : List UInt8} (h : Ef t = true) : Sub t [nmT t] := ⟨Sh h, Sd h⟩
theorem Tm {t : List UInt8} (h : Gi t = true) : Sub t [bgT t] := ⟨a81 h, a9k h⟩
theorem I8 {w : List UInt8} (h : w ∈ Vh) (hd : Hd w) : Sub w [wd w] := ⟨Wq h, hd⟩
theorem Dq {c : UInt8} {r : List UInt8} (h : c ≠ 61) : Hd (c :: r) := ⟨c, r, rfl, h⟩
theorem b11 (n : Nat) : Hd (Nm.dec n) := by
 cases he : Nm.dec n with
 | nil => exact absurd he (Nm.dec_ne n)
 | cons x y =>
  refine ⟨x, y, rfl, ?_⟩;rintro rfl;have := S2 n 61 (by rw [he]; simp)
  revert this; decide
theorem b7r {n : Int} (h : n ∈ sgE.map (·.1)) : Lx false (opS n).1 [sg (opS n).1] ∧ ∃ c r, (opS n).1 = c :: r := by
 simp only [sgE, List.map_cons, List.map_nil, List.mem_cons, List.not_mem_nil, or_false] at h;rcases h with rfl | rfl | rfl | rfl | rfl | rfl | rfl | rfl | rfl | rfl | rfl | rfl | rfl | rfl | rfl
 ·exact ⟨Kp (c := 124) (d := 124) (by decide), _, _, rfl⟩
 ·exact ⟨Kp (c := 38) (d := 38) (by decide), _, _, rfl⟩
 ·exact ⟨Kp (c := 61) (d := 61) (by decide), _, _, rfl⟩
 ·exact ⟨Kp (c := 33) (d := 61) (by decide), _, _, rfl⟩
 ·exact ⟨Bv (c := 60) (by decide), _, _, rfl⟩
 ·exact ⟨Kp (c := 60) (d := 61) (by decide), _, _, rfl⟩
 ·exact ⟨Bv (c := 62) (by decide), _, _, rfl⟩
 ·exact ⟨Kp (c := 62) (d := 61) (by decide), _, _, rfl⟩
 ·exact ⟨Bv (c := 43) (by decide), _, _, rfl⟩
 ·exact ⟨Bv (c := 45) (by decide), _, _, rfl⟩
 ·exact ⟨Bv (c := 42) (by decide), _, _, rfl⟩
 ·exact ⟨Bv (c := 47) (by decide), _, _, rfl⟩
 ·exact ⟨Bv (c := 37) (by decide), _, _, rfl⟩
 ·exact ⟨Bv (c := 45) (by decide), _, _, rfl⟩
 ·exact ⟨Bv (c := 33) (by decide), _, _, rfl⟩
theorem c03 {n : Int} (h : n ∈ sgE.map (·.1)) : Lx false ([32] ++ (opS n).1 ++ [32]) [sg (opS n).1] := by
 obtain ⟨h1, c, r, h2⟩ := b7r h;rw [List.append_assoc];have := h1.lit (bl false) (by decide);rw [List.append_nil] at this;exact Hu (by simp) this
theorem b7p {n : Int} {k : Nat} (h : Cr k n = true) (hk : k = 30 ∨ k = 31) : n ∈ sgE.map (·.1) := by
 rcases hk with rfl | rfl
 ·simp [Cr] at h;rcases h with e | e <;> rw [e] <;> simp [sgE]
 ·simp [Cr] at h;have : n = 1 ∨ n = 2 ∨ n = 3 ∨ n = 4 ∨ n = 5 ∨ n = 6 ∨ n = 7 ∨ n = 8 ∨ n = 9 ∨ n = 10 ∨ n = 11 ∨ n = 14 ∨ n = 15 := by omega
  rcases this with rfl | rfl | rfl | rfl | rfl | rfl | rfl | rfl | rfl | rfl | rfl | rfl | rfl <;> simp [sgE]
theorem a6i {P : Nat → Bool} {ks : List Tx} (hP : ∀ k, P k = true → k ≠ 14) (h : (ks.map fun x => x.1.kind).all P = true) : a6p ks := fun x hx =>
 hP _ (List.all_eq_true.1 h _ (List.mem_map_of_mem (f := fun x : Tx => x.1.kind) hx))
theorem b34 (n : Nat) (i : Inf) (ks : List Tx) (ts : List TT) (hk1 : 2 ≤ i.kind) (hk2 : i.kind ≤ 32) (hk14 : i.kind ≠ 14) (ht : Dm i.kind i.text = true) (hn : Cr i.kind i.num = true) (hmx : i.num ≤ 9223372036854775807) (ha : Il i.kind i.num (ks.map fun x => x.1.kind) = true) (hp : PrL ks ts) : Sub (Hs n i ks) (tkN i ts) := by
 obtain ⟨kd, ln, cl, num, tx⟩ := i;simp only at hk1 hk2 hk14 ht hn ha hmx;have hk : kd = 2 ∨ kd = 3 ∨ kd = 4 ∨ kd = 5 ∨ kd = 6 ∨ kd = 7 ∨ kd = 8 ∨ kd = 9 ∨ kd = 10 ∨ kd = 11 ∨ kd = 12 ∨ kd = 13 ∨ kd = 15 ∨ kd = 16 ∨ kd = 17 ∨ kd = 18 ∨ kd = 19 ∨ kd = 20 ∨ kd = 21 ∨ kd = 22 ∨ kd = 23 ∨ kd = 24 ∨ kd = 25 ∨ kd = 26 ∨ kd = 27 ∨ kd = 28 ∨ kd = 29 ∨ kd = 30 ∨ kd = 31 ∨ kd = 32 := by omega
 rcases hk with rfl | rfl | rfl | rfl | rfl | rfl | rfl | rfl | rfl | rfl | rfl | rfl | rfl | rfl | rfl | rfl | rfl | rfl | rfl | rfl | rfl | rfl | rfl | rfl | rfl | rfl | rfl | rfl | rfl | rfl
 ·
  have hg : Gi tx = true := ht;have h14 : a6p ks := a6i (P := [3].contains) (fun k => c14 (by decide)) ha;have h1 := (De (w := [114, 101, 99]) (by decide)).sub (Tm hg);have h2 := (h1.lit (Hu (c := 32) (by simp) (Yf n hp h14)) (by decide)).weak true;refine ⟨?_, Dq (c := 114) (by decide)⟩;show Lx true ([114, 101, 99, 32] ++ tx ++ [32] ++ lines n ks) ([wd [114, 101, 99], bgT tx] ++ Uk ts);simpa using h2
 ·
  have hg : Ef tx = true := ht;obtain ⟨x, rfl, hx⟩ := jx1 (P := Ce) ha;obtain ⟨x', rfl, px⟩ := Jc hp;have h1 := ((((Sh hg).lit Ol (by decide)).sub (px.2 (t14 hx))).lit Lo (by decide)).weak true;refine ⟨?_, ((Sd hg).app _).app _ |>.app _⟩;show Lx true (tx ++ [58, 32] ++ x.2 ++ [59]) ([nmT tx, sg [58]] ++ x'.2 ++ [sg [59]]);simpa using h1
 ·
  have hg : Ef tx = true := ht;have hA : Jd num [5].contains (Ag [Gm, [6].contains]) (ks.map fun x => x.1.kind) = true := ha;rw [Jd, Bool.and_eq_true, Bool.and_eq_true, decide_eq_true_eq] at hA;obtain ⟨h1, h2, h3⟩ := hA;rw [← List.map_take] at h2;rw [← List.map_drop] at h3;obtain ⟨r, b, hrb, er, eb⟩ := jx2 h3;have hps : ks = ks.take num.toNat ++ [r, b] := by rw [← hrb, List.take_append_drop]
  have hlen : (ks.take num.toNat).length = num.toNat := by
   have h4 : (ks.drop num.toNat).length = 2 := by rw [hrb]; rfl
   rw [List.length_drop] at h4;rw [List.length_take]; omega
  obtain ⟨ps, hps2⟩ : ∃ ps, ks.take num.toNat = ps := ⟨_, rfl⟩;rw [hps2] at hps hlen h2;obtain ⟨us, vs, rfl, q1, q2⟩ := a3i (by rw [← hps]; exact hp);obtain ⟨r', b', rfl, pr, pb⟩ := J3 q2;have hul : us.length = num.toNat := by rw [← a3h q1, hlen]
  have eb' : b.1.kind ≠ 14 := by
   have : b.1.kind = 6 := by simpa using eb
   omega
  have k1 : kth (ps ++ [r, b]) num.toNat = r := by rw [kth, ← hlen, List.getD_eq_getElem?_getD, List.getElem?_append_right (Nat.le_refl _)]; simp
  have k2 : kth (ps ++ [r, b]) (num.toNat + 1) = b := by rw [kth, ← hlen, List.getD_eq_getElem?_getD, List.getElem?_append_right (by omega)]; simp
  have k3 : Ie (us ++ [r', b']) num.toNat = r' := by rw [Ie, ← hul, List.getD_eq_getElem?_getD, List.getElem?_append_right (Nat.le_refl _)]; simp
  have k4 : Ie (us ++ [r', b']) (num.toNat + 1) = b' := by rw [Ie, ← hul, List.getD_eq_getElem?_getD, List.getElem?_append_right (by omega)]; simp
  have k5 : (us ++ [r', b']).take num.toNat = us := by rw [← hul, List.take_left]
  have h14 : a6p ps := a6i (P := [5].contains) (fun k => c14 (by decide)) h2;have g1 := (De (w := [102, 110]) (by decide)).sub (Oa hg);have g2 := g1.lit (Si q1 h14) (by decide);refine ⟨?_, Dq (c := 102) (by decide)⟩
  show Lx true ([102, 110, 32] ++ tx ++ [40] ++ Dr (ks.take num.toNat) ++ [41] ++ (if (kth ks num.toNat).1.kind = 14 then [] else [58, 32] ++ (kth ks num.toNat).2) ++ [32] ++ (kth ks (num.toNat + 1)).2)
   ([wd [102, 110], nmT tx, sg [40]] ++ Ao ((us ++ [r', b']).take num.toNat) ++ [sg [41]] ++ (if (Ie (us ++ [r', b']) num.toNat).1.kind = 14 then [] else [sg [58]] ++ (Ie (us ++ [r', b']) num.toNat).2) ++ (Ie (us ++ [r', b']) (num.toNat + 1)).2)
  rw [hps2, hps, k1, k2, k3, k4, k5, ← pr.1];by_cases hr : r.1.kind = 14
  ·rw [if_pos hr, if_pos hr];have g3 := (g2.lit (bl false) (by decide)).sub (pb.2 eb');simpa using g3
  ·rw [if_neg hr, if_neg hr];have g3 := (((g2.lit Ol (by decide)).sub (pr.2 hr)).lit (bl false) (by decide)).sub (pb.2 eb');simpa using g3
 ·
  have hg : Ef tx = true := ht;obtain ⟨x, rfl, hx⟩ := jx1 (P := Ce) ha;obtain ⟨x', rfl, px⟩ := Jc hp;have h1 := ((Sh hg).lit Ol (by decide)).sub (px.2 (t14 hx));refine ⟨?_, ((Sd hg).app _).app _⟩;show Lx true (tx ++ [58, 32] ++ x.2) ([nmT tx, sg [58]] ++ x'.2);simpa using h1
 ·
  have h14 : a6p ks := a6i (P := Cq) (fun k h => by rw [Cq, decide_eq_true_eq] at h; omega) ha;exact ⟨(Yf n hp h14).weak true, Dq (c := 123) (by decide)⟩
 ·
  have hg : Ef tx = true := ht;obtain ⟨x, y, rfl, hx, hy⟩ := jx2 (P := Ce) (Q := Ah) ha;obtain ⟨x', y', rfl, px, py⟩ := J3 hp;have h1 := (De (w := [118, 97, 114]) (by decide)).sub (Oa hg);have h2 := (h1.lit Ol (by decide)).sub (px.2 (t14 hx));have h3 := ((h2.lit b8u (by decide)).sub (py.2 (e14 hy))).lit Lo (by decide);refine ⟨?_, Dq (c := 118) (by decide)⟩;show Lx true ([118, 97, 114, 32] ++ tx ++ [58, 32] ++ x.2 ++ [32, 61, 32] ++ y.2 ++ [59]) ([wd [118, 97, 114], nmT tx, sg [58]] ++ x'.2 ++ [sg [61]] ++ y'.2 ++ [sg [59]]);simpa using h3.weak true
 ·
  obtain ⟨x, y, rfl, hx, hy⟩ := jx2 (P := [26, 28, 29].contains) (Q := Ah) ha;obtain ⟨x', y', rfl, px, py⟩ := J3 hp;have sx := px.2 (c14 (by decide) hx);have h3 := ((sx.1.lit b8u (by decide)).sub (py.2 (e14 hy))).lit Lo (by decide);refine ⟨?_, ((sx.2.app _).app _).app _⟩;show Lx true (x.2 ++ [32, 61, 32] ++ y.2 ++ [59]) (x'.2 ++ [sg [61]] ++ y'.2 ++ [sg [59]]);simpa using h3.weak true
 ·
  have hA : (Ag [Ah, [6].contains] (ks.map fun x => x.1.kind) || Ag [Ah, [6].contains, [6].contains] (ks.map fun x => x.1.kind)) = true := ha;rw [Bool.or_eq_true] at hA;rcases hA with hA | hA
  ·obtain ⟨x, y, rfl, hx, hy⟩ := jx2 hA;obtain ⟨x', y', rfl, px, py⟩ := J3 hp;have h1 := (De (w := [105, 102]) (by decide)).sub (px.2 (e14 hx));have h2 := (h1.lit (bl false) (by decide)).sub (py.2 (c14 (by decide) hy));refine ⟨?_, Dq (c := 105) (by decide)⟩;show Lx true ([105, 102, 32] ++ x.2 ++ [32] ++ y.2 ++ []) ([wd [105, 102]] ++ x'.2 ++ y'.2 ++ []);simpa using h2
  ·obtain ⟨x, y, z, rfl, hx, hy, hz⟩ := jx3 hA;obtain ⟨x', y', z', rfl, px, py, pz⟩ := a3g hp;have h1 := (De (w := [105, 102]) (by decide)).sub (px.2 (e14 hx));have h2 := (h1.lit (bl false) (by decide)).sub (py.2 (c14 (by decide) hy));have h3 := (h2.lit b35 (by decide)).sub (pz.2 (c14 (by decide) hz));refine ⟨?_, Dq (c := 105) (by decide)⟩;show Lx true ([105, 102, 32] ++ x.2 ++ [32] ++ y.2 ++ ([32, 101, 108, 115, 101, 32] ++ z.2)) ([wd [105, 102]] ++ x'.2 ++ y'.2 ++ ([wd [101, 108, 115, 101]] ++ z'.2));simpa using h3
 ·
  obtain ⟨x, y, rfl, hx, hy⟩ := jx2 (P := Ah) (Q := [6].contains) ha;obtain ⟨x', y', rfl, px, py⟩ := J3 hp;have h1 := (De (w := [119, 104, 105, 108, 101]) (by decide)).sub (px.2 (e14 hx));have h2 := (h1.lit (bl false) (by decide)).sub (py.2 (c14 (by decide) hy));refine ⟨?_, Dq (c := 119) (by decide)⟩;show Lx true ([119, 104, 105, 108, 101, 32] ++ x.2 ++ [32] ++ y.2) ([wd [119, 104, 105, 108, 101]] ++ x'.2 ++ y'.2);simpa using h2
 ·
  have hA : (Ag [] (ks.map fun x => x.1.kind) || Ag [Ah] (ks.map fun x => x.1.kind)) = true := ha;rw [Bool.or_eq_true] at hA;rcases hA with hA | hA
  ·have hl := Dp hA;rw [List.length_map] at hl;obtain rfl := List.eq_nil_of_length_eq_zero hl
   match ts, hp with
   | [], _ =>
    have h1 := ((Wq (w := [114, 101, 116, 117, 114, 110]) (by decide)).lit Lo (by decide)).weak true;exact ⟨h1, Dq (c := 114) (by decide)⟩
  ·obtain ⟨x, rfl, hx⟩ := jx1 hA;obtain ⟨x', rfl, px⟩ := Jc hp;have h1 := ((De (w := [114, 101, 116, 117, 114, 110]) (by decide)).sub (px.2 (e14 hx))).lit Lo (by decide);refine ⟨?_, Dq (c := 114) (by decide)⟩;show Lx true ([114, 101, 116, 117, 114, 110] ++ ([32] ++ x.2) ++ [59]) ([wd [114, 101, 116, 117, 114, 110]] ++ x'.2 ++ [sg [59]]);simpa using h1.weak true
 ·
  obtain ⟨x, rfl, hx⟩ := jx1 (P := Ah) ha;obtain ⟨x', rfl, px⟩ := Jc hp;have h1 := ((De (w := [112, 114, 105, 110, 116]) (by decide)).sub (px.2 (e14 hx))).lit Lo (by decide);refine ⟨?_, Dq (c := 112) (by decide)⟩;show Lx true ([112, 114, 105, 110, 116, 32] ++ x.2 ++ [59]) ([wd [112, 114, 105, 110, 116]] ++ x'.2 ++ [sg [59]]);simpa using h1.weak true
 ·
  obtain ⟨x, rfl, hx⟩ := jx1 (P := [27].contains) ha;obtain ⟨x', rfl, px⟩ := Jc hp;have sx := px.2 (c14 (by decide) hx);have h1 := sx.1.lit Lo (by decide);exact ⟨h1.weak true, sx.2.app _⟩
 ·exact I8 (w := [105, 110, 116]) (by decide) (Dq (c := 105) (by decide))
 ·exact I8 (w := [98, 111, 111, 108]) (by decide) (Dq (c := 98) (by decide))
 ·exact I8 (w := [115, 116, 114]) (by decide) (Dq (c := 115) (by decide))
 ·exact I8 (w := [99, 111, 109, 112]) (by decide) (Dq (c := 99) (by decide))
 ·exact Tm ht
 ·
  obtain ⟨x, rfl, hx⟩ := jx1 (P := Ce) ha;obtain ⟨x', rfl, px⟩ := Jc hp;have h1 := ((Bv (c := 91) (by decide)).sub (px.2 (t14 hx))).lit (Bv (c := 93) (by decide)) (by decide);exact ⟨h1.weak true, Dq (c := 91) (by decide)⟩
 ·
  have h0 : 0 ≤ num := by simpa [Cr] using hn
  have := b8v num.toNat (by omega);rw [show ((num.toNat : Nat) : Int) = num by omega] at this;exact ⟨this, b11 _⟩
 ·
  have h0 : 0 ≤ num ∧ num < 8388608 := by simpa [Cr] using hn
  have := b36 num.toNat (by omega);rw [show ((num.toNat : Nat) : Int) = num by omega] at this;exact ⟨this, (b11 _).app _⟩
 ·exact ⟨(b8t tx).weak true, Dq (c := 34) (by decide)⟩
 ·
  have h01 : num = 0 ∨ num = 1 := by simpa [Cr] using hn
  rcases h01 with rfl | rfl
  ·exact I8 (w := [102, 97, 108, 115, 101]) (by decide) (Dq (c := 102) (by decide))
  ·exact I8 (w := [116, 114, 117, 101]) (by decide) (Dq (c := 116) (by decide))
 ·exact I8 (w := [110, 105, 108]) (by decide) (Dq (c := 110) (by decide))
 ·exact Oa ht
 ·
  have hg : Ef tx = true := ht;have h14 : a6p ks := a6i (P := Ah) (fun k => e14) ha;have h1 := (Sh hg).lit (Si hp h14) (by decide);refine ⟨?_, ((Sd hg).app _).app _ |>.app _⟩;show Lx true (tx ++ [40] ++ Dr ks ++ [41]) ([nmT tx, sg [40]] ++ Ao ts ++ [sg [41]]);simpa using h1.weak true
 ·
  obtain ⟨x, y, rfl, hx, hy⟩ := jx2 (P := Ah) (Q := Ah) ha;obtain ⟨x', y', rfl, px, py⟩ := J3 hp;have sx := px.brk (e14 hx) 8;have h1 := ((sx.1.lit (Bv (c := 91) (by decide)) (by decide)).sub (py.2 (e14 hy))).lit (Bv (c := 93) (by decide)) (by decide);exact ⟨h1.weak true, ((sx.2.app _).app _).app _⟩
 ·
  have hg : Ef tx = true := ht;obtain ⟨x, rfl, hx⟩ := jx1 (P := Ah) ha;obtain ⟨x', rfl, px⟩ := Jc hp;have sx := px.brk (e14 hx) 8;have h1 := (sx.1.lit (Bv (c := 46) (by decide)) (by decide)).sub (Oa hg);refine ⟨?_, (sx.2.app _).app _⟩;show Lx true (brk 8 x ++ [46] ++ tx) (Ql 8 x' ++ [sg [46], nmT tx]);simpa using h1
 ·
  obtain ⟨x, rfl, hx⟩ := jx1 (P := Ah) ha;obtain ⟨x', rfl, px⟩ := Jc hp;obtain ⟨h1, c, r, h2⟩ := b7r (b7p hn (.inl rfl));have h3 := h1.sub (px.brk (e14 hx) 7);refine ⟨h3, Hd.app ?_ _⟩;have h12 : num = 12 ∨ num = 13 := by simpa [Cr] using hn
  rcases h12 with rfl | rfl
  ·exact Dq (c := 45) (by decide)
  ·exact Dq (c := 33) (by decide)
 ·
  obtain ⟨x, y, rfl, hx, hy⟩ := jx2 (P := Ah) (Q := Ah) ha;obtain ⟨x', y', rfl, px, py⟩ := J3 hp;have sx := px.brk (e14 hx) (D2 (opS num).2);have sy := py.brk (e14 hy) ((opS num).2 + 1);have h0 : Lx false (32 :: ((opS num).1 ++ [32])) [sg (opS num).1] := c03 (b7p hn (.inr rfl));have h1 := (sx.1.lit h0 (by decide)).sub sy;refine ⟨?_, (((sx.2.app _).app _).app _).app _⟩;show Lx true (brk (D2 (opS num).2) x ++ [32] ++ (opS num).1 ++ [32] ++ brk ((opS num).2 + 1) y) (Ql (D2 (opS num).2) x' ++ [sg (opS num).1] ++ Ql ((opS num).2 + 1) y');simpa using h1
 ·
  have hA : (Ag [[19].contains] (ks.map fun x => x.1.kind) || Ag [[20].contains, Ah] (ks.map fun x => x.1.kind)) = true := ha;have hw := De (w := [109, 97, 107, 101]) (by decide);rw [Bool.or_eq_true] at hA;rcases hA with hA | hA
  ·obtain ⟨x, rfl, hx⟩ := jx1 hA;obtain ⟨x', rfl, px⟩ := Jc hp;have h1 := (hw.sub (px.2 (c14 (by decide) hx))).lit (Si (ks := []) (ts := []) trivial (fun z hz => by cases hz)) (by decide);refine ⟨?_, Dq (c := 109) (by decide)⟩;show Lx true ([109, 97, 107, 101, 32] ++ x.2 ++ [40] ++ Dr [] ++ [41]) ([wd [109, 97, 107, 101]] ++ x'.2 ++ [sg [40]] ++ Ao [] ++ [sg [41]]);simpa using h1.weak true
  ·obtain ⟨x, y, rfl, hx, hy⟩ := jx2 hA;obtain ⟨x', y', rfl, px, py⟩ := J3 hp;have h1 := (hw.sub (px.2 (c14 (by decide) hx))).lit (Si (ks := [y]) (ts := [y']) ⟨py, trivial⟩ (fun z hz => by simp at hz; subst hz; exact e14 hy)) (by decide);refine ⟨?_, Dq (c := 109) (by decide)⟩;show Lx true ([109, 97, 107, 101, 32] ++ x.2 ++ [40] ++ Dr [y] ++ [41]) ([wd [109, 97, 107, 101]] ++ x'.2 ++ [sg [40]] ++ Ao [y'] ++ [sg [41]]);simpa using h1.weak true
theorem O8 (n : Nat) (F : Fo) : (D8 n F).map (fun x => x.1.kind) = Ak F := by
 induction F with
 | nil => rfl
 | cons i k r _ ihr => simp [D8, Ak, ihr]
theorem a4d {F : Fo} : ∀ n, Am F = true → Rc F → (∀ x ∈ D6 F, 2 ≤ x.1.kind ∧ x.1.kind ≤ 32) → PrL (D8 n F) (tkF F) := by
 induction F with
 | nil => intro n _ _ _; trivial
 | cons i k r ihk ihr =>
  intro n h hn hk;rw [Am, Bool.and_eq_true, Bool.and_eq_true] at h;have hg := h.1.1;unfold Be at hg;rw [Bool.and_eq_true, Bool.and_eq_true] at hg;have h1 := ihk (Ej n i) h.1.2 (fun x hx => hn x (by simp [D6, hx])) (fun x hx => hk x (by simp [D6, hx]));have h2 := ihr n h.2 (fun x hx => hn x (by simp [D6, hx])) (fun x hx => hk x (by simp [D6, hx]));have hki := hk (i, k) (by simp [D6]);exact ⟨⟨rfl, fun h14 => b34 n i _ _ hki.1 hki.2 h14 hg.1.1 hg.1.2 (hn (i, k) (by simp [D6])) (by rw [O8]; exact hg.2) h1⟩, h2⟩
end
section
def CG (o X : Out) (b : Prop) : Prop := (b ∧ o = X) ∨ (¬ b ∧ ∃ l k, o = .bad 6 l k)
theorem CG.bind {o X : Out} {F : Fo} {r : List Tok} {b c : Prop} {f : Fo → List Tok → Out} (h : CG o (.ok F r) b) (k : CG (f F r) X c) : CG (o.bind f) X (b ∧ c) := by
 rcases h with ⟨hb, rfl⟩ | ⟨hb, l, m, rfl⟩
 ·rcases k with ⟨hc, e⟩ | ⟨hc, l, m, e⟩
  ·exact .inl ⟨⟨hb, hc⟩, e⟩
  ·exact .inr ⟨fun h => hc h.2, l, m, e⟩
 ·exact .inr ⟨fun h => hb h.1, l, m, rfl⟩
theorem CG.imp {o X : Out} {b c : Prop} (h : CG o X b) (e : b ↔ c) : CG o X c := by rw [← e]; exact h
theorem CG.ok {X : Out} {b : Prop} (h : b) : CG X X b := .inl ⟨h, rfl⟩
theorem CG.to {o X Y : Out} {b : Prop} (h : CG o X b) (e : X = Y) : CG o Y b := e ▸ h
def dpB (m : Nat) (x : Inf × Nat) : Nat := if lvl x.1 < m then x.2 + 1 else x.2
def Lp (ds : List (Inf × Nat)) (j : Nat) : Inf × Nat := ds.getD j (c0n, 0)
def Iy : List (Inf × Nat) → Nat
 | [] => 0
 | x :: l => max x.2 (Iy l)
def dpN (i : Inf) (ds : List (Inf × Nat)) : Nat := match i.kind with
 | 1 => Iy ds
 | 2 => 1 + Iy ds
 | 3 => (Lp ds 0).2
 | 4 => max (1 + Iy (ds.take i.num.toNat)) (max (Lp ds i.num.toNat).2 (Lp ds (i.num.toNat + 1)).2)
 | 5 => (Lp ds 0).2
 | 6 => 1 + Iy ds
 | 7 => max (Lp ds 0).2 (Lp ds 1).2
 | 8 => max (Lp ds 0).2 (Lp ds 1).2
 | 9 => max (Lp ds 0).2 (max (Lp ds 1).2 (Lp ds 2).2)
 | 10 => max (Lp ds 0).2 (Lp ds 1).2
 | 11 => (Lp ds 0).2
 | 12 => (Lp ds 0).2
 | 13 => (Lp ds 0).2
 | 20 => 1 + (Lp ds 0).2
 | 27 => 1 + Iy ds
 | 28 => max (dpB 8 (Lp ds 0)) (1 + (Lp ds 1).2)
 | 29 => dpB 8 (Lp ds 0)
 | 30 => 1 + dpB 7 (Lp ds 0)
 | 31 => max (dpB (D2 (opS i.num).2) (Lp ds 0)) (dpB ((opS i.num).2 + 1) (Lp ds 1))
 | 32 => max (Lp ds 0).2 (1 + (Lp ds 1).2)
 | _ => 0
def dpF : Fo → List (Inf × Nat)
 | .nil => []
 | .cons i k r => (i, dpN i (dpF k)) :: dpF r
theorem fx1 {P : Nat → Bool} {k : Fo} (h : Ag [P] (Ak k) = true) : ∃ i1 k1, k = .cons i1 k1 .nil ∧ P i1.kind = true := by
 have hl := Dp h
 match k, h, hl with
 | .cons i1 k1 .nil, h, _ => exact ⟨i1, k1, rfl, Cb h (i := 0) (by simp)⟩
theorem fx2 {P Q : Nat → Bool} {k : Fo} (h : Ag [P, Q] (Ak k) = true) : ∃ i1 k1 i2 k2, k = .cons i1 k1 (.cons i2 k2 .nil) ∧ P i1.kind = true ∧ Q i2.kind = true := by
 have hl := Dp h
 match k, h, hl with
 | .cons i1 k1 (.cons i2 k2 .nil), h, _ => exact ⟨i1, k1, i2, k2, rfl, Cb h (i := 0) (by simp), Cb h (i := 1) (by simp)⟩
theorem fx3 {P Q R : Nat → Bool} {k : Fo} (h : Ag [P, Q, R] (Ak k) = true) : ∃ i1 k1 i2 k2 i3 k3, k = .cons i1 k1 (.cons i2 k2 (.cons i3 k3 .nil)) ∧ P i1.kind = true ∧ Q i2.kind = true ∧ R i3.kind = true := by
 have hl := Dp h
 match k, h, hl with
 | .cons i1 k1 (.cons i2 k2 (.cons i3 k3 .nil)), h, _ => exact ⟨i1, k1, i2, k2, i3, k3, rfl, Cb h (i := 0) (by simp), Cb h (i := 1) (by simp), Cb h (i := 2) (by simp)⟩
theorem fx0 {k : Fo} (h : Ag [] (Ak k) = true) : k = .nil := by
 have hl := Dp h
 match k, hl with
 | .nil, _ => rfl
abbrev TK (i : Inf) (k : Fo) : List Tok := tkN i (tkF k)
abbrev BT (L : Nat) (i : Inf) (k : Fo) : List Tok := Ql L (i, TK i k)
abbrev DP (i : Inf) (k : Fo) : Nat := dpN i (dpF k)
abbrev BD (L : Nat) (i : Inf) (k : Fo) : Nat := dpB L (i, DP i k)
abbrev BE (i : Inf) (k : Fo) : Fo := .cons (D4 i) (Ar k) .nil
theorem A6 (x y : List UInt8) (r : List Tok) : sees x (sg y :: r) = decide (y = x) := by simp [sees, K7, hd]
theorem R2 (x y : List UInt8) (r : List Tok) : sees x (wd y :: r) = decide (y = x) := by simp [sees, K7, hd]
theorem Ja {x : List UInt8} {t : Tok} {r : List Tok} (h : t.kind ≠ 6 ∧ t.kind ≠ 7) : sees x (t :: r) = false := by
 have h1 := h.1;have h2 := h.2;simp [sees, K7, hd, h1, h2]
theorem b20 (x : List UInt8) (d : Nat) (F : Fo) (r : List Tok) : ((take x d (sg x :: r)).bind fun G r' => .ok (F.app G) r') = .ok F r := by
 unfold take Hr;rw [A6, decide_eq_true rfl, if_pos rfl];show Out.ok (F.app .nil) r = _;rw [Jl]
theorem P5 {p : Pt} {d : Nat} {t : Tok} {T : List Tok} {X : Out} {D : Nat} (hd : d ≤ 40) (h : d < 40 → CG (p (d + 1) T) X (d + 1 + D ≤ 40)) : CG (Cm p d (t :: T)) X (d + 1 + D ≤ 40) := by
 unfold Cm;by_cases h40 : d = 40
 ·rw [if_pos h40];exact .inr ⟨by omega, _, _, rfl⟩
 ·rw [if_neg h40];exact h (by omega)
theorem G9 {o c : List UInt8} {p : Pt} {d : Nat} {T r : List Tok} {F : Fo} {D : Nat} (hd : d ≤ 40) (h : d < 40 → CG (p (d + 1) (T ++ sg c :: r)) (.ok F (sg c :: r)) (d + 1 + D ≤ 40)) : CG (Aq o c p d (sg o :: (T ++ sg c :: r))) (.ok F r) (d + 1 + D ≤ 40) := by
 unfold Aq;rw [A6, decide_eq_true rfl, if_pos rfl];unfold Di
 have h1 : CG ((take c d (sg c :: r)).bind fun G r' => .ok (F.app G) r') (.ok F r) True := by
  rw [b20]; exact CG.ok trivial
 exact ((P5 hd h).bind h1).imp (by simp)
theorem Bn {i : Inf} {k : Fo} (h : Be i k = true) : Dm i.kind i.text = true ∧ Cr i.kind i.num = true ∧ Il i.kind i.num (Ak k) = true := by
 unfold Be at h;rw [Bool.and_eq_true, Bool.and_eq_true] at h;exact ⟨h.1.1, h.1.2, h.2⟩
theorem b1x : ∀ s i k, k.cnt < s → Be i k = true → Am k = true → 15 ≤ i.kind → i.kind ≤ 20 → ∀ n d r, (TK i k).length < n → d ≤ 40 → CG (Cz n d (TK i k ++ r)) (.ok (BE i k) r) (d + DP i k ≤ 40) := by
 intro s
 induction s with
 | zero => intro i k h; omega
 | succ s ih =>
  intro i k hs hg hG k1 k2 n d r hn hd;obtain ⟨ht, hm, ha⟩ := Bn hg;obtain ⟨n, rfl⟩ : ∃ m, n = m + 1 := ⟨n - 1, by omega⟩;obtain ⟨kd, ln, cl, num, tx⟩ := i;simp only at ht hm ha k1 k2;have hk : kd = 15 ∨ kd = 16 ∨ kd = 17 ∨ kd = 18 ∨ kd = 19 ∨ kd = 20 := by omega
  rcases hk with rfl | rfl | rfl | rfl | rfl | rfl
  ·obtain rfl := fx0 (show Ag [] (Ak k) = true from ha);obtain rfl : tx = [] := by simpa [Dm] using ht
   obtain rfl : num = 0 := by simpa [Cr] using hm
   exact .inl ⟨by show d + 0 ≤ 40; omega, rfl⟩
  ·obtain rfl := fx0 (show Ag [] (Ak k) = true from ha);obtain rfl : tx = [] := by simpa [Dm] using ht
   obtain rfl : num = 0 := by simpa [Cr] using hm
   exact .inl ⟨by show d + 0 ≤ 40; omega, rfl⟩
  ·obtain rfl := fx0 (show Ag [] (Ak k) = true from ha);obtain rfl : tx = [] := by simpa [Dm] using ht
   obtain rfl : num = 0 := by simpa [Cr] using hm
   exact .inl ⟨by show d + 0 ≤ 40; omega, rfl⟩
  ·obtain rfl := fx0 (show Ag [] (Ak k) = true from ha);obtain rfl : tx = [] := by simpa [Dm] using ht
   obtain rfl : num = 0 := by simpa [Cr] using hm
   exact .inl ⟨by show d + 0 ≤ 40; omega, rfl⟩
  ·obtain rfl := fx0 (show Ag [] (Ak k) = true from ha);obtain rfl : num = 0 := by simpa [Cr] using hm
   refine .inl ⟨by show d + 0 ≤ 40; omega, ?_⟩;show Fq [91] (A7 (Cz n)) Au d (bgT tx :: r) = _;unfold Fq;rw [Ja ⟨by show (2 : Nat) ≠ 6; decide, by show (2 : Nat) ≠ 7; decide⟩, if_neg (by simp)];rfl
  ·obtain ⟨i1, k1', rfl, hx⟩ := fx1 (P := Ce) ha;obtain rfl : tx = [] := by simpa [Dm] using ht
   obtain rfl : num = 0 := by simpa [Cr] using hm
   rw [Ce, decide_eq_true_eq] at hx;rw [Am, Bool.and_eq_true, Bool.and_eq_true] at hG
   have e : TK ⟨20, ln, cl, 0, []⟩ (.cons i1 k1' .nil) ++ r = sg [91] :: (TK i1 k1' ++ sg [93] :: r) := by
    show [sg [91]] ++ TK i1 k1' ++ [sg [93]] ++ r = _;simp
   have hl : (TK ⟨20, ln, cl, 0, []⟩ (.cons i1 k1' .nil)).length = (TK i1 k1').length + 2 := by
    show ([sg [91]] ++ TK i1 k1' ++ [sg [93]]).length = _;simp
   rw [hl] at hn;rw [e];have hw := G9 (o := [91]) (c := [93]) (p := Cz n) (d := d) (T := TK i1 k1') (r := r) (F := BE i1 k1') (D := DP i1 k1') hd (fun hlt => ih i1 k1' (by simp [Fo.cnt] at hs; omega) hG.1.1 hG.1.2 hx.1 hx.2 n (d + 1) _ (by omega) (by omega));show CG (Fq [91] (A7 (Cz n)) Au d _) _ _;unfold Fq;rw [A6, decide_eq_true rfl, if_pos rfl];unfold A7 Bx;refine ((hw.bind (X := .ok (BE ⟨20, ln, cl, 0, []⟩ (.cons i1 k1' .nil)) r) (c := True) (CG.ok trivial))).imp ?_;show d + 1 + DP i1 k1' ≤ 40 ∧ True ↔ d + (1 + DP i1 k1') ≤ 40;rw [and_true];omega
end
section
def Sg (L : Nat) : List (List UInt8) := match L with
 | 1 => [[124, 124]]
 | 2 => [[38, 38]]
 | 3 => [[61, 61], [33, 61]]
 | 4 => [[60], [60, 61], [62], [62, 61]]
 | 5 => [[43], [45]]
 | 6 => [[42], [47], [37]]
 | _ => []
def PL (n L : Nat) : Pt := match L with
 | 1 => orP (unP n) n
 | 2 => c0s (unP n) n
 | 3 => Yv (unP n) n
 | 4 => a84 (unP n) n
 | 5 => c0k (unP n) n
 | 6 => a7e (unP n) n
 | 7 => unP n
 | _ => H9 (Bc (n - 1)) n
def Stp (L : Nat) (r : List Tok) : Prop := ∀ l, L ≤ l → l ≤ 6 → anyS (Sg l) r = false
def Po (r : List Tok) : Prop := sees [91] r = false ∧ sees [46] r = false ∧ sees [40] r = false
theorem Stp.mono {L L' : Nat} {r : List Tok} (h : Stp L r) (hl : L ≤ L') : Stp L' r := fun l h1 h2 => h l (by omega) h2
theorem Zi (S : List (List UInt8)) (x : List UInt8) (r : List Tok) : anyS S (sg x :: r) = decide (x ∈ S) := by
 unfold anyS;rw [Bool.eq_iff_iff];simp [A6]
theorem Jx {x : List UInt8} (h : (List.range 7).all (fun l => decide (x ∉ Sg l)) = true) (r : List Tok) (L : Nat) : Stp L (sg x :: r) := fun l _ h2 => by
 rw [Zi, decide_eq_false_iff_not];have := List.all_eq_true.1 h l (List.mem_range.2 (by omega));simpa using this
theorem Qs {x : List UInt8} (h : x ≠ [91] ∧ x ≠ [46] ∧ x ≠ [40]) (r : List Tok) : Po (sg x :: r) := by
 refine ⟨?_, ?_, ?_⟩ <;> rw [A6, decide_eq_false_iff_not]
 ·exact h.1
 ·exact h.2.1
 ·exact h.2.2
theorem a8g {n : Int} (h : Cr 31 n = true) : 1 ≤ (opS n).2 ∧ (opS n).2 ≤ 6 ∧ (opS n).1 ∈ Sg (opS n).2 ∧ J7 (opS n).1 = n ∧ ((opS n).1 ≠ [91] ∧ (opS n).1 ≠ [46] ∧ (opS n).1 ≠ [40]) ∧ ∀ r, Stp ((opS n).2 + 1) (sg (opS n).1 :: r) := by
 simp [Cr] at h;have : n = 1 ∨ n = 2 ∨ n = 3 ∨ n = 4 ∨ n = 5 ∨ n = 6 ∨ n = 7 ∨ n = 8 ∨ n = 9 ∨ n = 10 ∨ n = 11 ∨ n = 14 ∨ n = 15 := by omega
 have K : ∀ (x : List UInt8) (L : Nat), (List.range 7).all (fun l => decide (l ≤ L) || decide (x ∉ Sg l)) = true → ∀ r, Stp (L + 1) (sg x :: r) := fun x L hh r l h1 h2 => by
  rw [Zi, decide_eq_false_iff_not];have := List.all_eq_true.1 hh l (List.mem_range.2 (by omega));rw [Bool.or_eq_true, decide_eq_true_eq, decide_eq_true_eq] at this;rcases this with h | h
  ·omega
  ·exact h
 rcases this with rfl | rfl | rfl | rfl | rfl | rfl | rfl | rfl | rfl | rfl | rfl | rfl | rfl <;> exact ⟨by decide, by decide, by decide, by decide, by decide, K _ _ (by decide)⟩
theorem Qa {p : Pt} {S : List (List UInt8)} {n d : Nat} {F : Fo} {r : List Tok} (hn : 1 ≤ n) (h : anyS S r = false) : Cp p S n F d r = .ok F r := by
 obtain ⟨m, rfl⟩ : ∃ m, n = m + 1 := ⟨n - 1, by omega⟩;unfold Cp;rw [h]; rfl
theorem c1i {n L d : Nat} {ts r : List Tok} {F : Fo} {b : Prop} (hn : 1 ≤ n) (h1 : 1 ≤ L) (h6 : L ≤ 6) (h : CG (PL n (L + 1) d ts) (.ok F r) b) (hs : anyS (Sg L) r = false) : CG (PL n L d ts) (.ok F r) b := by
 have hc : L = 1 ∨ L = 2 ∨ L = 3 ∨ L = 4 ∨ L = 5 ∨ L = 6 := by omega
 have K : ∀ p, CG (p d ts) (.ok F r) b → CG (C4 p (Sg L) n d ts) (.ok F r) b := fun p hp => by
  unfold C4;exact (hp.bind (X := .ok F r) (c := True) (by rw [Qa hn hs]; exact CG.ok trivial)).imp (by simp)
 have K2 : ∀ p, CG (p d ts) (.ok F r) b → CG (Js p (Sg L) d ts) (.ok F r) b := fun p hp => by
  unfold Js;exact (hp.bind (X := .ok F r) (c := True) (by rw [hs]; exact CG.ok trivial)).imp (by simp)
 rcases hc with rfl | rfl | rfl | rfl | rfl | rfl
 ·exact K _ h
 ·exact K _ h
 ·exact K2 _ h
 ·exact K2 _ h
 ·exact K _ h
 ·exact K _ h
theorem b0a {n d : Nat} {ts r : List Tok} {F : Fo} {b : Prop} (hn : 1 ≤ n) (j : Nat) : ∀ {L a : Nat}, a = L + j → 1 ≤ L → a ≤ 7 → CG (PL n a d ts) (.ok F r) b → Stp L r → CG (PL n L d ts) (.ok F r) b := by
 induction j with
 | zero => intro L a ha _ _ h _; rw [ha] at h; exact h
 | succ j ih =>
  intro L a ha h1 h7 h hs;exact c1i hn h1 (by omega) (ih (L := L + 1) (by omega) (by omega) h7 h (hs.mono (by omega))) (hs L (Nat.le_refl _) (by omega))
theorem b9q {n d : Nat} {ts r : List Tok} {F : Fo} {b : Prop} (hn : 1 ≤ n) (h : CG (PL n 8 d ts) (.ok F r) b) (h1 : sees [45] ts = false) (h2 : sees [33] ts = false) : CG (PL n 7 d ts) (.ok F r) b := by
 obtain ⟨m, rfl⟩ : ∃ m, n = m + 1 := ⟨n - 1, by omega⟩;show CG (unP (m + 1) d ts) _ _;rw [Rs];unfold Cy;rw [h1, h2];exact h
theorem Q8 {E : Pt} {n d : Nat} {F : Fo} {r : List Tok} (hn : 1 ≤ n) (h : Po r) : C8 E n F d r = .ok F r := by
 obtain ⟨m, rfl⟩ : ∃ m, n = m + 1 := ⟨n - 1, by omega⟩;unfold C8;rw [h.1, h.2.1];rfl
structure Cl (i : Inf) (k : Fo) : Prop where
 A : ∀ L n d r, 1 ≤ L → L ≤ 8 → (BT L i k).length < n → d ≤ 40 → Stp L r → Po r → CG (PL n L d (BT L i k ++ r)) (.ok (BE i k) r) (d + BD L i k ≤ 40)
 B : ∀ L n d r, L = 1 ∨ L = 2 ∨ L = 5 ∨ L = 6 → (BT L i k).length < n → d ≤ 40 → Stp (L + 1) r → Po r → ∃ n1, n ≤ n1 + (BT L i k).length ∧ CG (C4 (PL n (L + 1)) (Sg L) n d (BT L i k ++ r)) (Cp (PL n (L + 1)) (Sg L) n1 (BE i k) d r) (d + BD L i k ≤ 40)
 C : ∀ n d r, (BT 8 i k).length < n → d ≤ 40 → sees [40] r = false → ∃ n1, n ≤ n1 + (BT 8 i k).length ∧ CG (H9 (Bc (n - 1)) n d (BT 8 i k ++ r)) (C8 (Bc (n - 1)) n1 (BE i k) d r) (d + BD 8 i k ≤ 40)
 H : 7 < lvl i → ∀ r, sees [45] (TK i k ++ r) = false ∧ sees [33] (TK i k ++ r) = false
theorem Lh {L : Nat} {i : Inf} {k : Fo} (h : lvl i < L) : BT L i k = sg [40] :: (TK i k ++ [sg [41]]) := by
 show Ql L (i, TK i k) = _;unfold Ql; rw [if_pos h]
theorem Fy {L : Nat} {i : Inf} {k : Fo} (h : ¬ lvl i < L) : BT L i k = TK i k := by
 show Ql L (i, TK i k) = _;unfold Ql; rw [if_neg h]
theorem Mq {L : Nat} {i : Inf} {k : Fo} (h : lvl i < L) : BD L i k = DP i k + 1 := by
 show dpB L (i, DP i k) = _;unfold dpB; rw [if_pos h]
theorem Ct {L : Nat} {i : Inf} {k : Fo} (h : ¬ lvl i < L) : BD L i k = DP i k := by
 show dpB L (i, DP i k) = _;unfold dpB; rw [if_neg h]
theorem S6 {i : Inf} {k : Fo} (hl : 1 ≤ lvl i ∧ lvl i ≤ 8)
  (own : ∀ L n d r, 1 ≤ L → L ≤ lvl i → (TK i k).length < n → d ≤ 40 → Stp L r → Po r → CG (PL n L d (TK i k ++ r)) (.ok (BE i k) r) (d + DP i k ≤ 40))
  (chn : ∀ n d r, lvl i = 1 ∨ lvl i = 2 ∨ lvl i = 5 ∨ lvl i = 6 → (TK i k).length < n → d ≤ 40 → Stp (lvl i + 1) r → Po r → ∃ n1, n ≤ n1 + (TK i k).length ∧ CG (C4 (PL n (lvl i + 1)) (Sg (lvl i)) n d (TK i k ++ r)) (Cp (PL n (lvl i + 1)) (Sg (lvl i)) n1 (BE i k) d r) (d + DP i k ≤ 40))
  (pst : lvl i = 8 → ∀ n d r, (TK i k).length < n → d ≤ 40 → sees [40] r = false → ∃ n1, n ≤ n1 + (TK i k).length ∧ CG (H9 (Bc (n - 1)) n d (TK i k ++ r)) (C8 (Bc (n - 1)) n1 (BE i k) d r) (d + DP i k ≤ 40))
  (hh : 7 < lvl i → ∀ r, sees [45] (TK i k ++ r) = false ∧ sees [33] (TK i k ++ r) = false) : Cl i k := by
 have hC : ∀ n d r, (BT 8 i k).length < n → d ≤ 40 → sees [40] r = false → ∃ n1, n ≤ n1 + (BT 8 i k).length ∧ CG (H9 (Bc (n - 1)) n d (BT 8 i k ++ r)) (C8 (Bc (n - 1)) n1 (BE i k) d r) (d + BD 8 i k ≤ 40) := by
  intro n d r hn hd hr;by_cases h8 : lvl i < 8
  ·rw [Lh h8] at hn ⊢;rw [Mq h8];simp only [List.length_cons, List.length_append, List.length_nil] at hn;obtain ⟨m, rfl⟩ : ∃ m, n = m + 2 := ⟨n - 2, by omega⟩;refine ⟨m + 2, by omega, ?_⟩
   have hw := G9 (o := [40]) (c := [41]) (p := Bc (m + 1)) (d := d) (T := TK i k) (r := r) (F := BE i k) (D := DP i k) hd (fun hlt => by
    rw [Kz]
    exact own 1 (m + 1) (d + 1) _ (by decide) hl.1 (by omega) (by omega) (Jx (by decide) _ _) (Qs (by decide) _))
   unfold H9;have e : sg [40] :: (TK i k ++ [sg [41]]) ++ r = sg [40] :: (TK i k ++ sg [41] :: r) := by simp
   rw [e]
   have ha : Eo (Bc (m + 1)) (m + 2) d (sg [40] :: (TK i k ++ sg [41] :: r)) = Aq [40] [41] (Bc (m + 1)) d (sg [40] :: (TK i k ++ sg [41] :: r)) := by
    unfold Eo;rw [A6, decide_eq_true rfl, if_pos rfl]
   show CG ((Eo (Bc (m + 1)) (m + 2) d (sg [40] :: (TK i k ++ sg [41] :: r))).bind _) _ _;rw [ha];exact (hw.bind (c := True) (CG.ok trivial)).imp (by rw [and_true]; omega)
  ·rw [Fy h8] at hn ⊢;rw [Ct h8];exact pst (by omega) n d r hn hd hr
 have hA : ∀ L n d r, 1 ≤ L → L ≤ 8 → (BT L i k).length < n → d ≤ 40 → Stp L r → Po r → CG (PL n L d (BT L i k ++ r)) (.ok (BE i k) r) (d + BD L i k ≤ 40) := by
  intro L n d r h1 h8 hn hd hs hp;by_cases hL : lvl i < L
  ·have h88 : lvl i < 8 := by omega
   have e1 : BT L i k = BT 8 i k := by rw [Lh hL, Lh h88]
   have e2 : BD L i k = BD 8 i k := by rw [Mq hL, Mq h88]
   rw [e1] at hn ⊢;rw [e2];obtain ⟨n1, q1, q2⟩ := hC n d r hn hd hp.2.2;rw [Q8 (by omega) hp] at q2;have q8 : CG (PL n 8 d (BT 8 i k ++ r)) (.ok (BE i k) r) (d + BD 8 i k ≤ 40) := q2;by_cases hL8 : L = 8
   ·rw [hL8]; exact q8
   ·have q7 := b9q (by omega) q8 (by rw [Lh h88]; show sees [45] (sg [40] :: _) = false; rw [A6]; rfl) (by rw [Lh h88]; show sees [33] (sg [40] :: _) = false; rw [A6]; rfl);exact b0a (by omega) (7 - L) (by omega) h1 (Nat.le_refl _) q7 hs
  ·rw [Fy hL] at hn ⊢;rw [Ct hL];exact own L n d r h1 (by omega) hn hd hs hp
 refine ⟨hA, fun L n d r hc hn hd hs hp => ?_, hC, hh⟩;by_cases hL : lvl i = L
 ·rw [Fy (by omega)] at hn ⊢;rw [Ct (by omega)];subst hL;exact chn n d r hc hn hd hs hp
 ·have e1 : BT L i k = BT (L + 1) i k := by
   by_cases h : lvl i < L
   ·rw [Lh h, Lh (by omega)]
   ·rw [Fy h, Fy (by omega)]
  have e2 : BD L i k = BD (L + 1) i k := by
   by_cases h : lvl i < L
   ·rw [Mq h, Mq (by omega)]
   ·rw [Ct h, Ct (by omega)]
  rw [e1] at hn ⊢;rw [e2];refine ⟨n, by omega, ?_⟩;unfold C4;exact ((hA (L + 1) n d r (by omega) (by omega) hn hd hs hp).bind (c := True) (CG.ok trivial)).imp (by simp)
end
section
theorem a5u {i : Inf} {k : Fo} (h8 : lvl i = 8)
  (pst : ∀ n d r, (TK i k).length < n → d ≤ 40 → sees [40] r = false → ∃ n1, n ≤ n1 + (TK i k).length ∧ CG (H9 (Bc (n - 1)) n d (TK i k ++ r)) (C8 (Bc (n - 1)) n1 (BE i k) d r) (d + DP i k ≤ 40))
  (hh : ∀ r, sees [45] (TK i k ++ r) = false ∧ sees [33] (TK i k ++ r) = false) : Cl i k :=
 S6 (by omega) (fun L n d r h1 hL hn hd hs hp => by
  obtain ⟨n1, q1, q2⟩ := pst n d r hn hd hp.2.2;rw [Q8 (by omega) hp] at q2;have q8 : CG (PL n 8 d (TK i k ++ r)) (.ok (BE i k) r) (d + DP i k ≤ 40) := q2;by_cases hL8 : L = 8
  ·rw [hL8]; exact q8
  ·exact b0a (by omega) (7 - L) (by omega) h1 (Nat.le_refl _) (b9q (by omega) q8 (hh r).1 (hh r).2) hs) (fun n d r hc => by omega) (fun _ => pst) (fun _ => hh)
theorem Dh {i : Inf} {k : Fo} (h8 : lvl i = 8)
  (atm : ∀ n d r, (TK i k).length < n → d ≤ 40 → sees [40] r = false → CG (Eo (Bc (n - 1)) n d (TK i k ++ r)) (.ok (BE i k) r) (d + DP i k ≤ 40))
  (hh : ∀ r, sees [45] (TK i k ++ r) = false ∧ sees [33] (TK i k ++ r) = false) : Cl i k :=
 a5u h8 (fun n d r hn hd hr => ⟨n, by omega, by
  unfold H9
  exact ((atm n d r hn hd hr).bind (c := True) (CG.ok trivial)).imp (by simp)⟩) hh
theorem G7 {E : Pt} {n d : Nat} {t : Tok} {r : List Tok} (h40 : sees [40] (t :: r) = false) (hm : sees [109, 97, 107, 101] (t :: r) = false) (h1 : t.kind ≠ 1) : Eo E n d (t :: r) = Fc d (t :: r) := by
 unfold Eo;rw [h40, hm, if_neg (by simp), if_neg (by simp)];exact if_neg h1
def a6t : Fo → Prop
 | .nil => True
 | .cons i k r => (Cl i k ∧ 1 ≤ lvl i) ∧ a6t r
theorem P7 (i : Inf) (k r : Fo) : Ao (tkF (.cons i k r)) = TK i k ++ (match r with | .nil => [] | r => sg [44] :: Ao (tkF r)) := by
 cases r with
 | nil => simp [tkF, Ao]
 | cons i2 k2 r2 => simp [tkF, Ao]
theorem b9b {m : Nat} (hm : 1 ≤ m) : ∀ (k : Fo), k ≠ .nil → a6t k → ∀ n d r, (Ao (tkF k)).length < n → (Ao (tkF k)).length < m → d ≤ 40 → CG (Gl (Bc m) n d (Ao (tkF k) ++ sg [41] :: r)) (.ok (Ar k) (sg [41] :: r)) (d + Iy (dpF k) ≤ 40) := by
 intro k
 induction k with
 | nil => intro h; exact absurd rfl h
 | cons i k r _ ihr =>
  intro _ hA n d q hn hnm hd;obtain ⟨n, rfl⟩ : ∃ n', n = n' + 1 := ⟨n - 1, by omega⟩;obtain ⟨m, rfl⟩ : ∃ m', m = m' + 1 := ⟨m - 1, by omega⟩;have e1 : BT 1 i k = TK i k := Fy (by have := hA.1.2; omega);have e2 : BD 1 i k = DP i k := Ct (by have := hA.1.2; omega);rw [P7] at hn hnm ⊢;unfold Gl;rw [Kz]
  cases r with
  | nil =>
   simp only [List.append_nil] at hn hnm ⊢;have h1 := hA.1.1.A 1 (m + 1) d (sg [41] :: q) (by decide) (by decide) (by rw [e1]; exact hnm) hd (Jx (by decide) _ _) (Qs (by decide) _);rw [e1, e2] at h1;have h1 : CG (orP (unP (m + 1)) (m + 1) d (TK i k ++ sg [41] :: q)) _ _ := h1;refine (h1.bind (c := True) (X := .ok (Ar (.cons i k .nil)) (sg [41] :: q)) ?_).imp ?_
   ·rw [A6];exact CG.ok trivial
   ·show d + DP i k ≤ 40 ∧ True ↔ d + max (DP i k) 0 ≤ 40
    simp
  | cons i2 k2 r2 =>
   simp only [List.length_append, List.length_cons] at hn hnm;have h1 := hA.1.1.A 1 (m + 1) d (sg [44] :: (Ao (tkF (.cons i2 k2 r2)) ++ sg [41] :: q)) (by decide) (by decide) (by rw [e1]; omega) hd (Jx (by decide) _ _) (Qs (by decide) _);rw [e1, e2] at h1;have h1 : CG (orP (unP (m + 1)) (m + 1) d (TK i k ++ sg [44] :: (Ao (tkF (.cons i2 k2 r2)) ++ sg [41] :: q))) _ _ := h1;have h2 := ihr (by simp) hA.2 n d q (by omega) (by omega) hd;rw [Kz] at h2;have e3 : TK i k ++ sg [44] :: Ao (tkF (.cons i2 k2 r2)) ++ sg [41] :: q = TK i k ++ sg [44] :: (Ao (tkF (.cons i2 k2 r2)) ++ sg [41] :: q) := by simp
   rw [e3];refine (h1.bind (c := d + Iy (dpF (.cons i2 k2 r2)) ≤ 40) (X := .ok (Ar (.cons i k (.cons i2 k2 r2))) (sg [41] :: q)) ?_).imp ?_
   ·rw [A6, decide_eq_true rfl, if_pos rfl];exact (h2.bind (c := True) (X := .ok (Ar (.cons i k (.cons i2 k2 r2))) (sg [41] :: q)) (CG.ok trivial)).imp (by simp)
   ·show d + DP i k ≤ 40 ∧ d + Iy (dpF (.cons i2 k2 r2)) ≤ 40 ↔ d + max (DP i k) (Iy (dpF (.cons i2 k2 r2))) ≤ 40;omega
theorem b17 {P : Nat → Bool} (hP : ∀ k, P k = true → Ah k = true) : ∀ (k : Fo), (Ak k).all P = true → Am k = true → (∀ i1 k1, k1.cnt < k.cnt → Be i1 k1 = true → Am k1 = true → 21 ≤ i1.kind → i1.kind ≤ 32 → Cl i1 k1 ∧ 1 ≤ lvl i1) → a6t k
 | .nil, _, _, _ => trivial
 | .cons i k r, h, hg, ih => by
  rw [Am, Bool.and_eq_true, Bool.and_eq_true] at hg;rw [Ak, List.all_cons, Bool.and_eq_true] at h;have hk := hP _ h.1;rw [Ah, decide_eq_true_eq] at hk;exact ⟨ih i k (by simp [Fo.cnt]; omega) hg.1.1 hg.1.2 hk.1 hk.2, b17 hP r h.2 hg.2 (fun i1 k1 h1 => ih i1 k1 (by simp [Fo.cnt]; omega))⟩
theorem b9d {m : Nat} (hm : 1 ≤ m) (k : Fo) (hA : a6t k) (hne : k ≠ .nil → ∃ t T, Ao (tkF k) = t :: T ∧ K7 [41] t = false) (n d : Nat) (r : List Tok) (hn : (Ao (tkF k)).length < n) (hnm : (Ao (tkF k)).length < m) (hd : d ≤ 40) :
  CG (Aq [40] [41] (C2 (Bc m) n) d (sg [40] :: (Ao (tkF k) ++ sg [41] :: r))) (.ok (Ar k) r) (d + 1 + Iy (dpF k) ≤ 40) := by
 refine G9 hd fun hlt => ?_
 unfold C2 Fq;by_cases h0 : k = .nil
 ·subst h0;show CG (if sees [41] (sg [41] :: r) = true then _ else _) _ _;rw [A6, decide_eq_true rfl, if_pos rfl];exact CG.ok (by show d + 1 + 0 ≤ 40; omega)
 ·obtain ⟨t, T, h1, h2⟩ := hne h0;have hs : sees [41] (Ao (tkF k) ++ sg [41] :: r) = false := by rw [h1]; exact h2
  rw [hs, if_neg (by simp)];exact b9b hm k h0 hA n (d + 1) r hn hnm (by omega)
theorem a5a (i : Inf) (ts : List TT) (h : 21 ≤ i.kind ∧ i.kind ≤ 32) (hm : Cr i.kind i.num = true) (hall : i.kind = 28 ∨ i.kind = 29 ∨ i.kind = 31 → ∃ x l, ts = x :: l ∧ ∃ t T, x.2 = t :: T ∧ K7 [41] t = false) : ∃ t T, tkN i ts = t :: T ∧ K7 [41] t = false := by
 have hb : ∀ m (x : TT), (∃ t T, x.2 = t :: T ∧ K7 [41] t = false) → ∃ t T, Ql m x = t :: T ∧ K7 [41] t = false := fun m x hx => by
  unfold Ql;split
  ·exact ⟨_, _, rfl, by decide⟩
  ·exact hx
 obtain ⟨kd, ln, cl, num, tx⟩ := i;simp only at h hm hall;have hk : kd = 21 ∨ kd = 22 ∨ kd = 23 ∨ kd = 24 ∨ kd = 25 ∨ kd = 26 ∨ kd = 27 ∨ kd = 28 ∨ kd = 29 ∨ kd = 30 ∨ kd = 31 ∨ kd = 32 := by omega
 rcases hk with rfl | rfl | rfl | rfl | rfl | rfl | rfl | rfl | rfl | rfl | rfl | rfl
 ·exact ⟨_, _, rfl, rfl⟩
 ·exact ⟨_, _, rfl, rfl⟩
 ·exact ⟨_, _, rfl, rfl⟩
 ·have h01 : num = 0 ∨ num = 1 := by simpa [Cr] using hm
  rcases h01 with rfl | rfl <;> exact ⟨_, _, rfl, rfl⟩
 ·exact ⟨_, _, rfl, rfl⟩
 ·exact ⟨_, _, rfl, rfl⟩
 ·exact ⟨_, _, rfl, rfl⟩
 ·obtain ⟨x, l, rfl, hx⟩ := hall (by simp);obtain ⟨t, T, e, f⟩ := hb 8 x hx;refine ⟨t, T ++ [sg [91]] ++ (Ie (x :: l) 1).2 ++ [sg [93]], ?_, f⟩;show Ql 8 x ++ [sg [91]] ++ (Ie (x :: l) 1).2 ++ [sg [93]] = _;rw [e]; simp
 ·obtain ⟨x, l, rfl, hx⟩ := hall (by simp);obtain ⟨t, T, e, f⟩ := hb 8 x hx;refine ⟨t, T ++ [sg [46], nmT tx], ?_, f⟩;show Ql 8 x ++ [sg [46], nmT tx] = _;rw [e]; simp
 ·have h12 : num = 12 ∨ num = 13 := by simpa [Cr] using hm
  rcases h12 with rfl | rfl <;> exact ⟨_, _, rfl, rfl⟩
 ·obtain ⟨x, l, rfl, hx⟩ := hall (by simp);obtain ⟨t, T, e, f⟩ := hb (D2 (opS num).2) x hx;refine ⟨t, T ++ [sg (opS num).1] ++ Ql ((opS num).2 + 1) (Ie (x :: l) 1), ?_, f⟩;show Ql (D2 (opS num).2) x ++ [sg (opS num).1] ++ Ql ((opS num).2 + 1) (Ie (x :: l) 1) = _;rw [e]; simp
 ·exact ⟨_, _, rfl, rfl⟩
theorem Sn : ∀ s i k, k.cnt < s → Be i k = true → Am k = true → 21 ≤ i.kind → i.kind ≤ 32 → ∃ t T, TK i k = t :: T ∧ K7 [41] t = false := by
 intro s
 induction s with
 | zero => intro i k h; omega
 | succ s ih =>
  intro i k hs hg hG k1 k2;obtain ⟨ht, hm, ha⟩ := Bn hg;refine a5a i (tkF k) ⟨k1, k2⟩ hm fun hk => ?_
  have hx : ∃ i1 k1' r, k = .cons i1 k1' r ∧ Ah i1.kind = true := by
   rcases hk with e | e | e
   ·rw [e] at ha;obtain ⟨i1, k1', i2, k2', rfl, h1, _⟩ := fx2 (P := Ah) (Q := Ah) ha;exact ⟨_, _, _, rfl, h1⟩
   ·rw [e] at ha;obtain ⟨i1, k1', rfl, h1⟩ := fx1 (P := Ah) ha;exact ⟨_, _, _, rfl, h1⟩
   ·rw [e] at ha;obtain ⟨i1, k1', i2, k2', rfl, h1, _⟩ := fx2 (P := Ah) (Q := Ah) ha;exact ⟨_, _, _, rfl, h1⟩
  obtain ⟨i1, k1', r, rfl, h1⟩ := hx;rw [Ah, decide_eq_true_eq] at h1;rw [Am, Bool.and_eq_true, Bool.and_eq_true] at hG;exact ⟨_, _, rfl, ih i1 k1' (by simp [Fo.cnt] at hs; omega) hG.1.1 hG.1.2 h1.1 h1.2⟩
theorem b1y : ∀ s i k, k.cnt < s → Be i k = true → Am k = true → 21 ≤ i.kind → i.kind ≤ 32 → Cl i k ∧ 1 ≤ lvl i := by
 intro s
 induction s with
 | zero => intro i k h; omega
 | succ s ih =>
  intro i k hs hg hG k1 k2;obtain ⟨ht, hm, ha⟩ := Bn hg;obtain ⟨kd, ln, cl, num, tx⟩ := i;simp only at ht hm ha k1 k2;have hk : kd = 21 ∨ kd = 22 ∨ kd = 23 ∨ kd = 24 ∨ kd = 25 ∨ kd = 26 ∨ kd = 27 ∨ kd = 28 ∨ kd = 29 ∨ kd = 30 ∨ kd = 31 ∨ kd = 32 := by omega
  rcases hk with rfl | rfl | rfl | rfl | rfl | rfl | rfl | rfl | rfl | rfl | rfl | rfl
  ·obtain rfl := fx0 (show Ag [] (Ak k) = true from ha);obtain rfl : tx = [] := by simpa [Dm] using ht
   refine ⟨Dh rfl (fun n d r _ hd _ => .inl ⟨by show d + 0 ≤ 40; omega, ?_⟩) (fun r => ⟨rfl, rfl⟩), by show 1 ≤ 8; decide⟩;exact (G7 rfl rfl (by intro h; cases h)).trans rfl
  ·obtain rfl := fx0 (show Ag [] (Ak k) = true from ha);obtain rfl : tx = [] := by simpa [Dm] using ht
   refine ⟨Dh rfl (fun n d r _ hd _ => .inl ⟨by show d + 0 ≤ 40; omega, ?_⟩) (fun r => ⟨rfl, rfl⟩), by show 1 ≤ 8; decide⟩;exact (G7 rfl rfl (by intro h; cases h)).trans rfl
  ·obtain rfl := fx0 (show Ag [] (Ak k) = true from ha);obtain rfl : num = 0 := by simpa [Cr] using hm
   refine ⟨Dh rfl (fun n d r _ hd _ => .inl ⟨by show d + 0 ≤ 40; omega, ?_⟩) (fun r => ⟨rfl, rfl⟩), by show 1 ≤ 8; decide⟩;exact (G7 (t := ⟨5, 0, 0, 0, tx⟩) rfl rfl (by intro h; cases h)).trans rfl
  ·obtain rfl := fx0 (show Ag [] (Ak k) = true from ha);obtain rfl : tx = [] := by simpa [Dm] using ht
   have h01 : num = 0 ∨ num = 1 := by simpa [Cr] using hm
   rcases h01 with rfl | rfl
   ·refine ⟨Dh rfl (fun n d r _ hd _ => .inl ⟨by show d + 0 ≤ 40; omega, ?_⟩) (fun r => ⟨rfl, rfl⟩), by show 1 ≤ 8; decide⟩;exact (G7 rfl rfl (by intro h; cases h)).trans rfl
   ·refine ⟨Dh rfl (fun n d r _ hd _ => .inl ⟨by show d + 0 ≤ 40; omega, ?_⟩) (fun r => ⟨rfl, rfl⟩), by show 1 ≤ 8; decide⟩;exact (G7 rfl rfl (by intro h; cases h)).trans rfl
  ·obtain rfl := fx0 (show Ag [] (Ak k) = true from ha);obtain rfl : tx = [] := by simpa [Dm] using ht
   obtain rfl : num = 0 := by simpa [Cr] using hm
   refine ⟨Dh rfl (fun n d r _ hd _ => .inl ⟨by show d + 0 ≤ 40; omega, ?_⟩) (fun r => ⟨rfl, rfl⟩), by show 1 ≤ 8; decide⟩;exact (G7 rfl rfl (by intro h; cases h)).trans rfl
  ·
   obtain rfl := fx0 (show Ag [] (Ak k) = true from ha);obtain rfl : num = 0 := by simpa [Cr] using hm
   refine ⟨Dh rfl (fun n d r _ hd hr => .inl ⟨by show d + 0 ≤ 40; omega, ?_⟩) (fun r => ⟨rfl, rfl⟩), by show 1 ≤ 8; decide⟩;show Eo (Bc (n - 1)) n d (nmT tx :: r) = _;unfold Eo;rw [Ja ⟨by show (1 : Nat) ≠ 6; decide, by show (1 : Nat) ≠ 7; decide⟩, Ja ⟨by show (1 : Nat) ≠ 6; decide, by show (1 : Nat) ≠ 7; decide⟩, if_neg (by simp), if_neg (by simp)];show Gk (Bc (n - 1)) n d (nmT tx :: r) = _;unfold Gk;show (if sees [40] r = true then _ else _) = _;rw [hr];rfl
  ·
   have hA : a6t k := b17 (P := Ah) (fun _ h => h) k ha hG (fun i1 k1 h1 => ih i1 k1 (by omega));obtain rfl : num = 0 := by simpa [Cr] using hm
   have hne : k ≠ .nil → ∃ t T, Ao (tkF k) = t :: T ∧ K7 [41] t = false := fun h0 => by
    cases k with
    | nil => exact absurd rfl h0
    | cons i1 k1' r =>
     rw [Am, Bool.and_eq_true, Bool.and_eq_true] at hG;have hk : Ah i1.kind = true := List.all_eq_true.1 (show (Ak (.cons i1 k1' r)).all Ah = true from ha) _ (by simp [Ak]);rw [Ah, decide_eq_true_eq] at hk;obtain ⟨t, T, e, f⟩ := Sn _ i1 k1' (Nat.lt_succ_self _) hG.1.1 hG.1.2 hk.1 hk.2;rw [P7, e];exact ⟨t, _, rfl, f⟩
   refine ⟨Dh rfl (fun n d r hn hd hr => ?_) (fun r => ⟨rfl, rfl⟩), by show 1 ≤ 8; decide⟩
   have e : TK ⟨27, ln, cl, 0, tx⟩ k ++ r = nmT tx :: sg [40] :: (Ao (tkF k) ++ sg [41] :: r) := by
    show [nmT tx, sg [40]] ++ Ao (tkF k) ++ [sg [41]] ++ r = _;simp
   have hl : (TK ⟨27, ln, cl, 0, tx⟩ k).length = (Ao (tkF k)).length + 3 := by
    show ([nmT tx, sg [40]] ++ Ao (tkF k) ++ [sg [41]]).length = _;simp
   rw [hl] at hn;rw [e];unfold Eo;rw [Ja ⟨by show (1 : Nat) ≠ 6; decide, by show (1 : Nat) ≠ 7; decide⟩, Ja ⟨by show (1 : Nat) ≠ 6; decide, by show (1 : Nat) ≠ 7; decide⟩, if_neg (by simp), if_neg (by simp)];show CG (Gk (Bc (n - 1)) n d (nmT tx :: sg [40] :: (Ao (tkF k) ++ sg [41] :: r))) _ _;unfold Gk;show CG (if sees [40] (sg [40] :: (Ao (tkF k) ++ sg [41] :: r)) = true then _ else _) _ _;rw [A6, decide_eq_true rfl, if_pos rfl];have hw := b9d (m := n - 1) (by omega) k hA hne n d r (by omega) (by omega) hd;unfold Bx;refine (hw.bind (f := fun F r => Out.ok (.cons (mkX 27 (nmT tx :: sg [40] :: (Ao (tkF k) ++ sg [41] :: r))) F .nil) r) (c := True) (CG.ok trivial)).imp ?_;show d + 1 + Iy (dpF k) ≤ 40 ∧ True ↔ d + (1 + Iy (dpF k)) ≤ 40;rw [and_true]; omega
  ·
   obtain ⟨ix, kx, iy, ky, rfl, ex, ey⟩ := fx2 (P := Ah) (Q := Ah) ha;obtain rfl : num = 0 := by simpa [Cr] using hm
   obtain rfl : tx = [] := by simpa [Dm] using ht
   rw [Ah, decide_eq_true_eq] at ex ey;rw [Am, Am, Bool.and_eq_true, Bool.and_eq_true, Bool.and_eq_true, Bool.and_eq_true] at hG;simp [Fo.cnt] at hs;obtain ⟨cx, lx⟩ := ih ix kx (by omega) hG.1.1 hG.1.2 ex.1 ex.2;obtain ⟨cy, ly⟩ := ih iy ky (by omega) hG.2.1.1 hG.2.1.2 ey.1 ey.2;have e1 : BT 1 iy ky = TK iy ky := Fy (by omega);have e2 : BD 1 iy ky = DP iy ky := Ct (by omega)
   have e : ∀ r, TK ⟨28, ln, cl, 0, []⟩ (.cons ix kx (.cons iy ky .nil)) ++ r = BT 8 ix kx ++ sg [91] :: (TK iy ky ++ sg [93] :: r) := fun r => by
    show BT 8 ix kx ++ [sg [91]] ++ TK iy ky ++ [sg [93]] ++ r = _;simp
   have hl : (TK ⟨28, ln, cl, 0, []⟩ (.cons ix kx (.cons iy ky .nil))).length = (BT 8 ix kx).length + (TK iy ky).length + 2 := by
    show (BT 8 ix kx ++ [sg [91]] ++ TK iy ky ++ [sg [93]]).length = _;simp; omega
   refine ⟨a5u rfl (fun n d r hn hd hr => ?_) (fun r => ?_), by show 1 ≤ 8; decide⟩
   ·rw [hl] at hn ⊢;rw [e];obtain ⟨n1, q1, q2⟩ := cx.C n d (sg [91] :: (TK iy ky ++ sg [93] :: r)) (by omega) hd (by rw [A6]; rfl);obtain ⟨n2, rfl⟩ : ∃ n2, n1 = n2 + 1 := ⟨n1 - 1, by omega⟩;obtain ⟨m, rfl⟩ : ∃ m, n = m + 2 := ⟨n - 2, by omega⟩;refine ⟨n2, by omega, ?_⟩
    have hw := G9 (o := [91]) (c := [93]) (p := Bc (m + 1)) (d := d) (T := TK iy ky) (r := r) (F := BE iy ky) (D := DP iy ky) hd (fun hlt => by
     have := cy.A 1 (m + 1) (d + 1) (sg [93] :: r) (by decide) (by decide) (by rw [e1]; omega) (by omega) (Jx (by decide) _ _) (Qs (by decide) _);rw [e1, e2] at this
     exact this)
    have q3 : CG (C8 (Bc (m + 1)) (n2 + 1) (BE ix kx) d (sg [91] :: (TK iy ky ++ sg [93] :: r))) (C8 (Bc (m + 1)) n2 (BE ⟨28, ln, cl, 0, []⟩ (.cons ix kx (.cons iy ky .nil))) d r) (d + 1 + DP iy ky ≤ 40) := by
     have e5 : C8 (Bc (m + 1)) (n2 + 1) (BE ix kx) d (sg [91] :: (TK iy ky ++ sg [93] :: r)) = (Aq [91] [93] (Bc (m + 1)) d (sg [91] :: (TK iy ky ++ sg [93] :: r))).bind fun G r' => C8 (Bc (m + 1)) n2 (.cons (mkK 28 (sg [91] :: (TK iy ky ++ sg [93] :: r))) ((BE ix kx).app G) .nil) d r' := by
      rw [C8];simp only;rw [A6, decide_eq_true rfl, if_pos rfl]
     rw [e5];exact (hw.bind (c := True) (CG.ok trivial)).imp (by simp)
    have q2 : CG (H9 (Bc (m + 1)) (m + 2) d (BT 8 ix kx ++ sg [91] :: (TK iy ky ++ sg [93] :: r))) (C8 (Bc (m + 1)) (n2 + 1) (BE ix kx) d (sg [91] :: (TK iy ky ++ sg [93] :: r))) (d + BD 8 ix kx ≤ 40) := q2;have hD : DP ⟨28, ln, cl, 0, []⟩ (.cons ix kx (.cons iy ky .nil)) = max (BD 8 ix kx) (1 + DP iy ky) := rfl;rw [hD];show CG (H9 (Bc (m + 1)) (m + 2) d (BT 8 ix kx ++ sg [91] :: (TK iy ky ++ sg [93] :: r))) (C8 (Bc (m + 1)) n2 _ d r) _;rcases q2 with ⟨hb, e4⟩ | ⟨hb, l', k', e4⟩
    ·rw [e4];refine q3.imp ?_;omega
    ·exact .inr ⟨by omega, l', k', e4⟩
   ·rw [e];by_cases h8 : lvl ix < 8
    ·rw [Lh h8];exact ⟨by show sees [45] (sg [40] :: _) = false; rw [A6]; rfl, by show sees [33] (sg [40] :: _) = false; rw [A6]; rfl⟩
    ·rw [Fy h8];exact cx.H (by omega) _
  ·
   obtain ⟨ix, kx, rfl, ex⟩ := fx1 (P := Ah) ha;obtain rfl : num = 0 := by simpa [Cr] using hm
   rw [Ah, decide_eq_true_eq] at ex;rw [Am, Bool.and_eq_true, Bool.and_eq_true] at hG;simp [Fo.cnt] at hs;obtain ⟨cx, lx⟩ := ih ix kx (by omega) hG.1.1 hG.1.2 ex.1 ex.2
   have e : ∀ r, TK ⟨29, ln, cl, 0, tx⟩ (.cons ix kx .nil) ++ r = BT 8 ix kx ++ sg [46] :: nmT tx :: r := fun r => by
    show BT 8 ix kx ++ [sg [46], nmT tx] ++ r = _;simp
   have hl : (TK ⟨29, ln, cl, 0, tx⟩ (.cons ix kx .nil)).length = (BT 8 ix kx).length + 2 := by
    show (BT 8 ix kx ++ [sg [46], nmT tx]).length = _;simp
   refine ⟨a5u rfl (fun n d r hn hd hr => ?_) (fun r => ?_), by show 1 ≤ 8; decide⟩
   ·rw [hl] at hn ⊢;rw [e];obtain ⟨n1, q1, q2⟩ := cx.C n d (sg [46] :: nmT tx :: r) (by omega) hd (by rw [A6]; rfl);obtain ⟨n2, rfl⟩ : ∃ n2, n1 = n2 + 1 := ⟨n1 - 1, by omega⟩;refine ⟨n2, by omega, ?_⟩
    have q3 : C8 (Bc (n - 1)) (n2 + 1) (BE ix kx) d (sg [46] :: nmT tx :: r) = C8 (Bc (n - 1)) n2 (BE ⟨29, ln, cl, 0, tx⟩ (.cons ix kx .nil)) d r := by
     rw [C8];simp only;rw [A6, A6, decide_eq_false (by decide), decide_eq_true rfl, if_neg (by simp), if_pos rfl];rfl
    rw [q3] at q2;exact q2
   ·rw [e];by_cases h8 : lvl ix < 8
    ·rw [Lh h8];exact ⟨by show sees [45] (sg [40] :: _) = false; rw [A6]; rfl, by show sees [33] (sg [40] :: _) = false; rw [A6]; rfl⟩
    ·rw [Fy h8];exact cx.H (by omega) _
  ·
   obtain ⟨ix, kx, rfl, ex⟩ := fx1 (P := Ah) ha;obtain rfl : tx = [] := by simpa [Dm] using ht
   rw [Ah, decide_eq_true_eq] at ex;rw [Am, Bool.and_eq_true, Bool.and_eq_true] at hG;simp [Fo.cnt] at hs;obtain ⟨cx, lx⟩ := ih ix kx (by omega) hG.1.1 hG.1.2 ex.1 ex.2;have h12 : num = 12 ∨ num = 13 := by simpa [Cr] using hm
   have hlv : lvl (⟨30, ln, cl, num, []⟩ : Inf) = 7 := by rcases h12 with rfl | rfl <;> rfl
   have hl : (TK ⟨30, ln, cl, num, []⟩ (.cons ix kx .nil)).length = (BT 7 ix kx).length + 1 := by
    show ([sg (opS num).1] ++ BT 7 ix kx).length = _;simp
   refine ⟨S6 (by omega) (fun L n d r h1 hL hn hd hs2 hp => ?_) (fun n d r hc => by omega) (fun h => by omega) (fun h => by omega), by omega⟩;rw [hl] at hn;rw [hlv] at hL;obtain ⟨m, rfl⟩ : ∃ m, n = m + 2 := ⟨n - 2, by omega⟩;refine b0a (by omega) (7 - L) (by omega) h1 (Nat.le_refl _) ?_ hs2;have hx := fun (hlt : d < 40) => cx.A 7 (m + 1) (d + 1) r (by decide) (by decide) (by omega) (by omega) (fun l h1 h2 => by omega) hp
   show CG (unP (m + 2) d (sg (opS num).1 :: (BT 7 ix kx ++ r))) _ _;rw [Rs];unfold Cy;have hD : DP ⟨30, ln, cl, num, []⟩ (.cons ix kx .nil) = 1 + BD 7 ix kx := rfl;rw [hD];rcases h12 with rfl | rfl
   ·rw [A6, decide_eq_true (show (opS 12).1 = [45] from rfl), if_pos rfl];unfold Bx;exact ((P5 (t := sg [45]) hd (fun hlt => hx hlt)).bind (c := True) (CG.ok trivial)).imp (by rw [and_true]; omega)
   ·rw [A6, A6, decide_eq_true (show (opS 13).1 = [33] from rfl), decide_eq_false (by decide), if_neg (by simp), if_pos rfl];unfold Bx;exact ((P5 (t := sg [33]) hd (fun hlt => hx hlt)).bind (c := True) (CG.ok trivial)).imp (by rw [and_true]; omega)
  ·
   obtain ⟨ix, kx, iy, ky, rfl, ex, ey⟩ := fx2 (P := Ah) (Q := Ah) ha;obtain rfl : tx = [] := by simpa [Dm] using ht
   rw [Ah, decide_eq_true_eq] at ex ey;rw [Am, Am, Bool.and_eq_true, Bool.and_eq_true, Bool.and_eq_true, Bool.and_eq_true] at hG;simp [Fo.cnt] at hs;obtain ⟨cx, lx⟩ := ih ix kx (by omega) hG.1.1 hG.1.2 ex.1 ex.2;obtain ⟨cy, ly⟩ := ih iy ky (by omega) hG.2.1.1 hG.2.1.2 ey.1 ey.2;obtain ⟨o1, o2, o3, o4, o5, o6⟩ := a8g hm;obtain ⟨l, hlq⟩ : ∃ l, (opS num).2 = l := ⟨_, rfl⟩;obtain ⟨x, hxq⟩ : ∃ x, (opS num).1 = x := ⟨_, rfl⟩;have hlv : lvl (⟨31, ln, cl, num, []⟩ : Inf) = l := hlq
   have e : ∀ r, TK ⟨31, ln, cl, num, []⟩ (.cons ix kx (.cons iy ky .nil)) ++ r = BT (D2 l) ix kx ++ sg x :: (BT (l + 1) iy ky ++ r) := fun r => by
    show BT (D2 (opS num).2) ix kx ++ [sg (opS num).1] ++ BT ((opS num).2 + 1) iy ky ++ r = _;rw [hlq, hxq]; simp
   have hl : (TK ⟨31, ln, cl, num, []⟩ (.cons ix kx (.cons iy ky .nil))).length = (BT (D2 l) ix kx).length + (BT (l + 1) iy ky).length + 1 := by
    show (BT (D2 (opS num).2) ix kx ++ [sg (opS num).1] ++ BT ((opS num).2 + 1) iy ky).length = _;rw [hlq, hxq]; simp; omega
   have hD : DP ⟨31, ln, cl, num, []⟩ (.cons ix kx (.cons iy ky .nil)) = max (BD (D2 l) ix kx) (BD (l + 1) iy ky) := by
    show max (BD (D2 (opS num).2) ix kx) (BD ((opS num).2 + 1) iy ky) = _;rw [hlq]
   rw [hlq, hxq] at o6;rw [hlq] at o1 o2 o3;rw [hxq] at o3 o4 o5
   have stp : ∀ n d r, (BT (l + 1) iy ky).length < n → d ≤ 40 → Stp (l + 1) r → Po r → CG (C9 (PL n (l + 1)) (BE ix kx) d (sg x :: (BT (l + 1) iy ky ++ r))) (.ok (BE ⟨31, ln, cl, num, []⟩ (.cons ix kx (.cons iy ky .nil))) r) (d + BD (l + 1) iy ky ≤ 40) := fun n d r hn hd hs2 hp => by
    have h := cy.A (l + 1) n d r (by omega) (by omega) hn hd hs2 hp;unfold C9;refine (h.bind (c := True) (X := .ok (BE ⟨31, ln, cl, num, []⟩ (.cons ix kx (.cons iy ky .nil))) r) ?_).imp (by simp);show CG (.ok (.cons ⟨31, 0, 0, J7 x, []⟩ _ .nil) r) _ _;rw [o4];exact CG.ok trivial
   have chn : ∀ n d r, l = 1 ∨ l = 2 ∨ l = 5 ∨ l = 6 → (TK ⟨31, ln, cl, num, []⟩ (.cons ix kx (.cons iy ky .nil))).length < n → d ≤ 40 → Stp (l + 1) r → Po r → ∃ n1, n ≤ n1 + (TK ⟨31, ln, cl, num, []⟩ (.cons ix kx (.cons iy ky .nil))).length ∧ CG (C4 (PL n (l + 1)) (Sg l) n d (TK ⟨31, ln, cl, num, []⟩ (.cons ix kx (.cons iy ky .nil)) ++ r)) (Cp (PL n (l + 1)) (Sg l) n1 (BE ⟨31, ln, cl, num, []⟩ (.cons ix kx (.cons iy ky .nil))) d r) (d + DP ⟨31, ln, cl, num, []⟩ (.cons ix kx (.cons iy ky .nil)) ≤ 40) := by
    intro n d r hc hn hd hs2 hp;have hll : D2 l = l := by unfold D2; rw [if_neg (by omega)]
    rw [hl, hll] at hn ⊢;rw [e, hD, hll];obtain ⟨n1, q1, q2⟩ := cx.B l n d (sg x :: (BT (l + 1) iy ky ++ r)) hc (by omega) hd (o6 _) (Qs o5 _);obtain ⟨n2, rfl⟩ : ∃ n2, n1 = n2 + 1 := ⟨n1 - 1, by omega⟩;refine ⟨n2, by omega, ?_⟩
    have q3 : CG (Cp (PL n (l + 1)) (Sg l) (n2 + 1) (BE ix kx) d (sg x :: (BT (l + 1) iy ky ++ r))) (Cp (PL n (l + 1)) (Sg l) n2 (BE ⟨31, ln, cl, num, []⟩ (.cons ix kx (.cons iy ky .nil))) d r) (d + BD (l + 1) iy ky ≤ 40) := by
     have e5 : Cp (PL n (l + 1)) (Sg l) (n2 + 1) (BE ix kx) d (sg x :: (BT (l + 1) iy ky ++ r)) = (C9 (PL n (l + 1)) (BE ix kx) d (sg x :: (BT (l + 1) iy ky ++ r))).bind fun G r' => Cp (PL n (l + 1)) (Sg l) n2 G d r' := by
      rw [Cp];simp only;rw [Zi, decide_eq_true o3, if_pos rfl]
     rw [e5];exact ((stp n d r (by omega) hd hs2 hp).bind (c := True) (CG.ok trivial)).imp (by simp)
    rcases q2 with ⟨hb, e4⟩ | ⟨hb, l', k', e4⟩
    ·rw [e4];exact q3.imp (by omega)
    ·exact .inr ⟨by omega, l', k', e4⟩
   refine ⟨S6 (by omega) (fun L n d r h1 hL hn hd hs2 hp => ?_) (fun n d r hc hn hd hs2 hp => ?_) (fun h => by omega) (fun h => by omega), by omega⟩
   ·rw [hlv] at hL
    have own : CG (PL n l d (TK ⟨31, ln, cl, num, []⟩ (.cons ix kx (.cons iy ky .nil)) ++ r)) (.ok (BE ⟨31, ln, cl, num, []⟩ (.cons ix kx (.cons iy ky .nil))) r) (d + DP ⟨31, ln, cl, num, []⟩ (.cons ix kx (.cons iy ky .nil)) ≤ 40) := by
     have hsl := hs2 l hL o2;by_cases h34 : l = 3 ∨ l = 4
     ·have hll : D2 l = l + 1 := by unfold D2; rw [if_pos h34]
      rw [hl, hll] at hn;rw [e, hD, hll];have hx := cx.A (l + 1) n d (sg x :: (BT (l + 1) iy ky ++ r)) (by omega) (by omega) (by omega) hd (o6 _) (Qs o5 _);have hpair : PL n l = Js (PL n (l + 1)) (Sg l) := by rcases h34 with h | h <;> rw [h] <;> rfl
      rw [hpair];unfold Js;refine (hx.bind (c := d + BD (l + 1) iy ky ≤ 40) (X := .ok (BE ⟨31, ln, cl, num, []⟩ (.cons ix kx (.cons iy ky .nil))) r) ?_).imp (by omega);rw [Zi, decide_eq_true o3, if_pos rfl];exact stp n d r (by omega) hd (hs2.mono (by omega)) hp
     ·have hc : l = 1 ∨ l = 2 ∨ l = 5 ∨ l = 6 := by omega
      obtain ⟨n1, q1, q2⟩ := chn n d r hc hn hd (hs2.mono (by omega)) hp;rw [Qa (by omega) hsl] at q2;have hch : PL n l = C4 (PL n (l + 1)) (Sg l) n := by rcases hc with h | h | h | h <;> rw [h] <;> rfl
      rw [hch];exact q2
    exact b0a (by omega) (l - L) (by omega) h1 (by omega) own hs2
   ·rw [hlv] at hc hs2 ⊢;exact chn n d r hc hn hd hs2 hp
  ·
   obtain rfl : num = 0 := by simpa [Cr] using hm
   obtain rfl : tx = [] := by simpa [Dm] using ht
   have hA : (Ag [[19].contains] (Ak k) || Ag [[20].contains, Ah] (Ak k)) = true := ha
   have hmk : ∀ n d r, Eo (Bc (n - 1)) n d (wd [109, 97, 107, 101] :: r) = (if (hd r).kind = 2 then Di Au (Aq [40] [41] A3) d r else Di (A7 (Cz n)) (Aq [40] [41] (Bc (n - 1))) d r).bind fun F q => .ok (.cons ⟨32, 0, 0, 0, []⟩ F .nil) q := fun n d r => by
    unfold Eo;rw [R2, R2, decide_eq_false (by decide), decide_eq_true rfl, if_neg (by simp), if_pos rfl];rfl
   rw [Bool.or_eq_true] at hA;rcases hA with hA | hA
   ·obtain ⟨ix, kx, rfl, ex⟩ := fx1 hA;have ex' : ix.kind = 19 := by simpa using ex
    rw [Am, Bool.and_eq_true, Bool.and_eq_true] at hG;obtain ⟨tx1, tx2, tx3⟩ := Bn hG.1.1;obtain ⟨kd, ln1, cl1, num1, t1⟩ := ix;have ex' : kd = 19 := ex';subst ex';obtain rfl := fx0 (show Ag [] (Ak kx) = true from tx3);obtain rfl : num1 = 0 := by simpa [Cr] using tx2
    refine ⟨Dh rfl (fun n d r hn hd hr => ?_) (fun r => ⟨rfl, rfl⟩), by show 1 ≤ 8; decide⟩;show CG (Eo (Bc (n - 1)) n d (wd [109, 97, 107, 101] :: bgT t1 :: sg [40] :: sg [41] :: r)) _ _;rw [hmk, if_pos (show (YtoaplbljflhheaaGreat.hd (bgT t1 :: sg [40] :: sg [41] :: r)).kind = 2 from rfl)];have hw := G9 (o := [40]) (c := [41]) (p := A3) (d := d) (T := []) (r := r) (F := .nil) (D := 0) hd (fun hlt => CG.ok (by omega))
    have hs1 : CG (Di Au (Aq [40] [41] A3) d (bgT t1 :: sg [40] :: sg [41] :: r)) (.ok (BE ⟨19, ln1, cl1, 0, t1⟩ .nil) r) (d + 1 + 0 ≤ 40) := by
     show CG ((Aq [40] [41] A3 d (sg [40] :: sg [41] :: r)).bind fun G r' => .ok ((Fo.cons ⟨19, 0, 0, 0, t1⟩ .nil .nil).app G) r') _ _;exact (hw.bind (c := True) (CG.ok trivial)).imp (by simp)
    exact (hs1.bind (c := True) (CG.ok trivial)).imp (by
     show d + 1 + 0 ≤ 40 ∧ True ↔ d + max 0 (1 + 0) ≤ 40
     simp)
   ·obtain ⟨ix, kx, iy, ky, rfl, ex, ey⟩ := fx2 hA;have ex' : ix.kind = 20 := by simpa using ex
    rw [Ah, decide_eq_true_eq] at ey;rw [Am, Am, Bool.and_eq_true, Bool.and_eq_true, Bool.and_eq_true, Bool.and_eq_true] at hG;simp [Fo.cnt] at hs;obtain ⟨cy, ly⟩ := ih iy ky (by omega) hG.2.1.1 hG.2.1.2 ey.1 ey.2;have e1 : BT 1 iy ky = TK iy ky := Fy (by omega);have e2 : BD 1 iy ky = DP iy ky := Ct (by omega)
    have hl : (TK ⟨32, ln, cl, 0, []⟩ (.cons ix kx (.cons iy ky .nil))).length = (TK ix kx).length + (TK iy ky).length + 3 := by
     show ([wd [109, 97, 107, 101]] ++ TK ix kx ++ [sg [40]] ++ Ao [(iy, TK iy ky)] ++ [sg [41]]).length = _;simp [Ao]; omega
    have e : ∀ r, TK ⟨32, ln, cl, 0, []⟩ (.cons ix kx (.cons iy ky .nil)) ++ r = wd [109, 97, 107, 101] :: (TK ix kx ++ sg [40] :: (TK iy ky ++ sg [41] :: r)) := fun r => by
     show [wd [109, 97, 107, 101]] ++ TK ix kx ++ [sg [40]] ++ Ao [(iy, TK iy ky)] ++ [sg [41]] ++ r = _;simp [Ao]
    refine ⟨Dh rfl (fun n d r hn hd hr => ?_) (fun r => ⟨rfl, rfl⟩), by show 1 ≤ 8; decide⟩;rw [hl] at hn;obtain ⟨m, rfl⟩ : ∃ m, n = m + 2 := ⟨n - 2, by omega⟩;rw [e, hmk]
    obtain ⟨T, hT⟩ : ∃ T, TK ix kx = sg [91] :: T := by
     obtain ⟨kd, ln1, cl1, num1, t1⟩ := ix;have ex' : kd = 20 := ex';subst ex';exact ⟨_, rfl⟩
    have hk7 : (YtoaplbljflhheaaGreat.hd (TK ix kx ++ sg [40] :: (TK iy ky ++ sg [41] :: r))).kind = 7 := by rw [hT]; rfl
    rw [hk7, if_neg (by decide)];have ht1 := b1x _ ix kx (Nat.lt_succ_self _) hG.1.1 hG.1.2 (by omega) (by omega) (m + 3) d (sg [40] :: (TK iy ky ++ sg [41] :: r)) (by omega) hd
    have ht2 : Cz (m + 3) d (TK ix kx ++ sg [40] :: (TK iy ky ++ sg [41] :: r)) = A7 (Cz (m + 2)) d (TK ix kx ++ sg [40] :: (TK iy ky ++ sg [41] :: r)) := by
     show Fq [91] (A7 (Cz (m + 2))) Au d _ = _;unfold Fq;rw [hT];show (if sees [91] (sg [91] :: (T ++ sg [40] :: (TK iy ky ++ sg [41] :: r))) = true then _ else _) = _;rw [A6, decide_eq_true rfl, if_pos rfl]
    rw [ht2] at ht1
    have hw := G9 (o := [40]) (c := [41]) (p := Bc (m + 1)) (d := d) (T := TK iy ky) (r := r) (F := BE iy ky) (D := DP iy ky) hd (fun hlt => by
     have := cy.A 1 (m + 1) (d + 1) (sg [41] :: r) (by decide) (by decide) (by rw [e1]; omega) (by omega) (Jx (by decide) _ _) (Qs (by decide) _);rw [e1, e2] at this
     exact this)
    have hs1 : CG (Di (A7 (Cz (m + 2))) (Aq [40] [41] (Bc (m + 1))) d (TK ix kx ++ sg [40] :: (TK iy ky ++ sg [41] :: r))) (.ok ((BE ix kx).app (BE iy ky)) r) ((d + DP ix kx ≤ 40) ∧ (d + 1 + DP iy ky ≤ 40)) := by
     unfold Di;exact ht1.bind ((hw.bind (f := fun G r' => .ok ((BE ix kx).app G) r') (c := True) (CG.ok trivial)).imp (by simp))
    exact (hs1.bind (c := True) (CG.ok trivial)).imp (by
     show (d + DP ix kx ≤ 40 ∧ d + 1 + DP iy ky ≤ 40) ∧ True ↔ d + max (DP ix kx) (1 + DP iy ky) ≤ 40
     rw [and_true]; omega)
end
section
def WfT (t : Tok) : Prop := (t.kind = 1 → Ef t.text = true) ∧ (t.kind = 2 → Gi t.text = true) ∧ (t.kind = 3 → 0 ≤ t.num ∧ t.num ≤ 9223372036854775807) ∧ (t.kind = 4 → 0 ≤ t.num ∧ t.num < 8388608)
def WfL (ts : List Tok) : Prop := ∀ t ∈ ts, WfT t
def wT (t : Tok) : Nat := 22 + 4 * t.text.length
def wL : List Tok → Nat
 | [] => 0
 | t :: l => wT t + wL l
def wF : Fo → Nat
 | .nil => 0
 | .cons i k r => (22 + 4 * i.text.length) + wF k + wF r
theorem a1o (F G : Fo) : wF (F.app G) = wF F + wF G := by
 induction F with
 | nil => simp [Fo.app, wF]
 | cons i k r _ ih => simp [Fo.app, wF, ih]; omega
theorem Pw (F G : Fo) : Am (F.app G) = (Am F && Am G) := by
 induction F with
 | nil => rfl
 | cons i k r _ ih => simp [Fo.app, Am, ih, Bool.and_assoc]
theorem O9 (F G : Fo) : Ak (F.app G) = Ak F ++ Ak G := by
 induction F with
 | nil => rfl
 | cons i k r _ ih => simp [Fo.app, Ak, ih]
theorem Ye (a b : List (Inf × Nat)) : Iy (a ++ b) = max (Iy a) (Iy b) := by
 induction a with
 | nil => simp [Iy]
 | cons x l ih => simp [Iy, ih, Nat.max_assoc]
theorem a5h (F G : Fo) : dpF (F.app G) = dpF F ++ dpF G := by
 induction F with
 | nil => rfl
 | cons i k r _ ih => simp [Fo.app, dpF, ih]
def Ge (i : Inf) (k : Fo) : Prop := Be i k = true ∧ Am k = true ∧ 21 ≤ i.kind ∧ i.kind ≤ 32
def Dx (L d : Nat) (F : Fo) (ts r : List Tok) : Prop := (∃ i k, F = .cons i k .nil ∧ Ge i k ∧ d + BD L i k ≤ 40) ∧ wF F + wL r ≤ wL ts ∧ WfL r
def DxP (L : Nat) (p : Pt) : Prop := ∀ d ts F r, d ≤ 40 → WfL ts → p d ts = .ok F r → Dx L d F ts r
def Gt (i : Inf) (k : Fo) : Prop := Be i k = true ∧ Am k = true ∧ 15 ≤ i.kind ∧ i.kind ≤ 20
def Dt (d : Nat) (F : Fo) (ts r : List Tok) : Prop := (∃ i k, F = .cons i k .nil ∧ Gt i k ∧ d + DP i k ≤ 40) ∧ wF F + wL r ≤ wL ts ∧ WfL r
def DtP (p : Pt) : Prop := ∀ d ts F r, d ≤ 40 → WfL ts → p d ts = .ok F r → Dt d F ts r
def Dl (d : Nat) (F : Fo) (ts r : List Tok) : Prop := (Am F = true ∧ (Ak F).all Ah = true ∧ d + Iy (dpF F) ≤ 40) ∧ wF F + wL r ≤ wL ts ∧ WfL r
theorem b5q {L L' : Nat} {i : Inf} {k : Fo} (h : L ≤ L') : BD L i k ≤ BD L' i k := by
 by_cases h1 : lvl i < L
 ·rw [Mq h1, Mq (by omega)]; exact Nat.le_refl _
 ·rw [Ct h1];by_cases h2 : lvl i < L'
  ·rw [Mq h2]; omega
  ·rw [Ct h2]; exact Nat.le_refl _
theorem c1w (L : Nat) (i : Inf) (k : Fo) : BD L i k ≤ DP i k + 1 ∧ DP i k ≤ BD L i k := by
 by_cases h1 : lvl i < L
 ·rw [Mq h1]; omega
 ·rw [Ct h1]; omega
theorem Dx.mono {L L' d : Nat} {F : Fo} {ts r : List Tok} (h : Dx L' d F ts r) (hl : L ≤ L') : Dx L d F ts r := by
 obtain ⟨⟨i, k, h1, h2, h3⟩, h4⟩ := h;exact ⟨⟨i, k, h1, h2, by have := b5q (i := i) (k := k) hl; omega⟩, h4⟩
theorem Ge.lvl {i : Inf} {k : Fo} (h : Ge i k) : 1 ≤ YtoaplbljflhheaaGreat.lvl i := (b1y _ i k (Nat.lt_succ_self _) h.1 h.2.1 h.2.2.1 h.2.2.2).2
theorem Ge.exp {i : Inf} {k : Fo} (h : Ge i k) : Ah i.kind = true := by rw [Ah, decide_eq_true_eq]; exact h.2.2
theorem Bg {ts : List Tok} (h : WfL ts) : WfL ts.tail := fun t ht => h t (List.mem_of_mem_tail ht)
theorem Gh {x : List UInt8} {ts : List Tok} (h : sees x ts = true) : 22 + wL ts.tail ≤ wL ts := by
 obtain ⟨t, l, rfl, _⟩ := Bw h;simp only [wL, wT, List.tail_cons]; omega
theorem a4n {k : Nat} {ts : List Tok} (h : (hd ts).kind = k) (hk : k ≠ 0) : ∃ t l, ts = t :: l ∧ t.kind = k ∧ 22 + 4 * t.text.length + wL l = wL ts := by
 obtain ⟨t, l, rfl, h1⟩ := Pl h hk;exact ⟨t, l, rfl, h1, by simp [wL, wT]⟩
theorem Ir {x : List UInt8} {d : Nat} {ts r : List Tok} {F : Fo} (e : take x d ts = .ok F r) (hw : WfL ts) : F = .nil ∧ 22 + wL r ≤ wL ts ∧ WfL r := by
 unfold take Hr at e;split at e
 ·rename_i h;cases e;exact ⟨rfl, Gh h, Bg hw⟩
 ·cases e
theorem Y2 {p : Pt} {d : Nat} {ts r : List Tok} {F : Fo} (e : Cm p d ts = .ok F r) (hd : d ≤ 40) : d + 1 ≤ 40 ∧ p (d + 1) ts.tail = .ok F r := by
 unfold Cm at e;split at e
 ·cases e
 ·exact ⟨by omega, e⟩
theorem I7 {o c : List UInt8} {p : Pt} {d : Nat} {ts r : List Tok} {F : Fo} (e : Aq o c p d ts = .ok F r) (hd : d ≤ 40) (hw : WfL ts) : ∃ q, d + 1 ≤ 40 ∧ p (d + 1) ts.tail = .ok F q ∧ WfL ts.tail ∧ 22 + wL ts.tail ≤ wL ts ∧ (WfL q → 22 + wL r ≤ wL q ∧ WfL r) := by
 unfold Aq at e;split at e
 ·rename_i h;obtain ⟨F1, q, e1, e2⟩ := Ad e;obtain ⟨F2, r2, e3, e4⟩ := Ad e2;cases e4;obtain ⟨h1, h2⟩ := Y2 e1 hd;have hF2 := Oj e3;subst hF2;rw [Jl];exact ⟨q, h1, h2, Bg hw, Gh h, fun hq => by obtain ⟨_, a, b⟩ := Ir e3 hq; exact ⟨a, b⟩⟩
 ·cases e
theorem Hb {t : Tok} {q : Nat × List UInt8} (h : Ho t = some q) : (q = (19, t.text) ∧ t.kind = 2) ∨ (q.2 = [] ∧ 15 ≤ q.1 ∧ q.1 ≤ 18) := by
 unfold Ho at h;split at h
 ·rename_i h2;cases h;exact .inl ⟨rfl, h2⟩
 ·right
  repeat' split at h
  all_goals first | (cases h; simp) | cases h
theorem a67 {ts : List Tok} {q : Nat × List UInt8} (h : Ho (hd ts) = some q) : ∃ t l, ts = t :: l := by
 cases ts with
 | nil => simp [hd, Ho, b61] at h
 | cons t l => exact ⟨t, l, rfl⟩
theorem a5n : DtP Au := fun d ts F r h40 hw e => by
 unfold Au at e;split at e
 ·rename_i q h;cases e;obtain ⟨t, l, rfl⟩ := a67 h;have hwt := hw t (by simp);have h : Ho t = some q := h;refine ⟨⟨_, _, rfl, ?_, ?_⟩, ?_, Bg hw⟩
  ·rcases Hb h with ⟨rfl, h2⟩ | ⟨h1, h2, h3⟩
   ·refine ⟨?_, rfl, Nat.le_of_ble_eq_true rfl, Nat.le_of_ble_eq_true rfl⟩;have := hwt.2.1 h2;show (Gi t.text && true && true) = true;rw [this]; rfl
   ·obtain ⟨qk, qt⟩ := q;simp only at h1 h2 h3;subst h1;have : qk = 15 ∨ qk = 16 ∨ qk = 17 ∨ qk = 18 := by omega
    rcases this with rfl | rfl | rfl | rfl <;> exact ⟨rfl, rfl, Nat.le_of_ble_eq_true rfl, Nat.le_of_ble_eq_true rfl⟩
  ·rcases Hb h with ⟨rfl, h2⟩ | ⟨h1, h2, h3⟩
   ·exact h40
   ·obtain ⟨qk, qt⟩ := q;simp only at h1 h2 h3;have : qk = 15 ∨ qk = 16 ∨ qk = 17 ∨ qk = 18 := by omega
    rcases this with rfl | rfl | rfl | rfl <;> exact h40
  ·simp only [wF, wL, wT, List.tail_cons];rcases Hb h with ⟨rfl, h2⟩ | ⟨h1, h2, h3⟩
   ·show 22 + 4 * t.text.length + 0 + 0 + wL l ≤ _;omega
   ·rw [h1]; simp
 ·cases e
theorem Rn {p : Pt} (hp : DtP p) : DtP (A7 p) := fun d ts F r h40 hw e => by
 obtain ⟨F1, r1, e1, e2⟩ := Ad e;cases e2;obtain ⟨q, h1, h2, h3, h4, h5⟩ := I7 e1 h40 hw;obtain ⟨⟨i, k, rfl, hg, hD⟩, hW, hq⟩ := hp (d + 1) _ _ _ h1 h3 h2;obtain ⟨h6, h7⟩ := h5 hq;refine ⟨⟨_, _, rfl, ⟨?_, ?_, Nat.le_of_ble_eq_true rfl, Nat.le_of_ble_eq_true rfl⟩, ?_⟩, ?_, h7⟩
 ·show (true && true && Ag [Ce] [i.kind]) = true;have : Ce i.kind = true := by rw [Ce, decide_eq_true_eq]; exact hg.2.2
  simp [Ag, List.range, List.range.loop, this]
 ·show (Be i k && Am k && true) = true;rw [hg.1, hg.2.1]; rfl
 ·show d + (1 + DP i k) ≤ 40;omega
 ·simp only [wF] at hW ⊢;show 22 + 4 * ([] : List UInt8).length + _ + _ + _ ≤ _;simp only [List.length_nil];omega
theorem a5m : ∀ n, DtP (Cz n)
 | 0 => fun d ts F r _ _ e => by cases e
 | n + 1 => fun d ts F r h40 hw e => by
  unfold Cz Fq at e;split at e
  ·exact Rn (a5m n) d ts F r h40 hw e
  ·exact a5n d ts F r h40 hw e
end
section
theorem U4 {t : Tok} {q : Nat × Int × List UInt8} (h : Bo t = some q) : (q = (21, t.num, []) ∧ t.kind = 3) ∨ (q = (22, t.num, []) ∧ t.kind = 4) ∨ (q = (23, 0, t.text) ∧ t.kind = 5) ∨ q = (24, 1, []) ∨ q = (24, 0, []) ∨ q = (25, 0, []) := by
 unfold Bo at h;split at h
 ·rename_i h2; cases h; exact .inl ⟨rfl, h2⟩
 ·split at h
  ·rename_i h2; cases h; exact .inr (.inl ⟨rfl, h2⟩)
  ·split at h
   ·rename_i h2; cases h; exact .inr (.inr (.inl ⟨rfl, h2⟩))
   ·repeat' split at h
    all_goals first | (cases h; simp) | cases h
theorem a5s {ts : List Tok} {q : Nat × Int × List UInt8} (h : Bo (hd ts) = some q) : ∃ t l, ts = t :: l := by
 cases ts with
 | nil => simp [hd, Bo, b61] at h
 | cons t l => exact ⟨t, l, rfl⟩
theorem Lr {d : Nat} {i : Inf} {ts r : List Tok} (hk : 21 ≤ i.kind ∧ i.kind ≤ 26) (ht : Dm i.kind i.text = true) (hm : Cr i.kind i.num = true) (h40 : d ≤ 40) (hw : wF (.cons i .nil .nil) + wL r ≤ wL ts) (hr : WfL r) : Dx 8 d (.cons i .nil .nil) ts r := by
 refine ⟨⟨i, .nil, rfl, ⟨?_, rfl, by omega, by omega⟩, ?_⟩, hw, hr⟩
 ·unfold Be;rw [ht, hm];obtain ⟨kd, ln, cl, num, tx⟩ := i;have : kd = 21 ∨ kd = 22 ∨ kd = 23 ∨ kd = 24 ∨ kd = 25 ∨ kd = 26 := by simp only at hk; omega
  rcases this with rfl | rfl | rfl | rfl | rfl | rfl <;> rfl
 ·have hD : DP i .nil = 0 := by
   obtain ⟨kd, ln, cl, num, tx⟩ := i;have : kd = 21 ∨ kd = 22 ∨ kd = 23 ∨ kd = 24 ∨ kd = 25 ∨ kd = 26 := by simp only at hk; omega
   rcases this with rfl | rfl | rfl | rfl | rfl | rfl <;> rfl
  have hl : ¬ lvl i < 8 := by unfold lvl; rw [if_neg (by omega)]; omega
  rw [Ct hl, hD];omega
theorem b5c : DxP 8 Fc := fun d ts F r h40 hw e => by
 unfold Fc at e;split at e
 ·rename_i q h;cases e;obtain ⟨t, l, rfl⟩ := a5s h;have hwt := hw t (by simp);have h : Bo t = some q := h;have hr := Bg hw;rcases U4 h with ⟨rfl, h2⟩ | ⟨rfl, h2⟩ | ⟨rfl, h2⟩ | rfl | rfl | rfl
  ·have hn := hwt.2.2.1 h2;refine Lr ⟨Nat.le_of_ble_eq_true rfl, Nat.le_of_ble_eq_true rfl⟩ rfl ?_ h40 ?_ hr
   ·show decide (0 ≤ t.num) = true;simp [hn.1]
   ·show 22 + 4 * 0 + 0 + 0 + wL l ≤ 22 + 4 * t.text.length + wL l;omega
  ·have hn := hwt.2.2.2 h2;refine Lr ⟨Nat.le_of_ble_eq_true rfl, Nat.le_of_ble_eq_true rfl⟩ rfl ?_ h40 ?_ hr
   ·show decide (0 ≤ t.num ∧ t.num < 8388608) = true;simp [hn.1, hn.2]
   ·show 22 + 4 * 0 + 0 + 0 + wL l ≤ 22 + 4 * t.text.length + wL l;omega
  ·refine Lr ⟨Nat.le_of_ble_eq_true rfl, Nat.le_of_ble_eq_true rfl⟩ rfl rfl h40 ?_ hr;show 22 + 4 * t.text.length + 0 + 0 + wL l ≤ 22 + 4 * t.text.length + wL l;omega
  ·refine Lr ⟨Nat.le_of_ble_eq_true rfl, Nat.le_of_ble_eq_true rfl⟩ rfl rfl h40 ?_ hr;show 22 + 4 * 0 + 0 + 0 + wL l ≤ 22 + 4 * t.text.length + wL l;omega
  ·refine Lr ⟨Nat.le_of_ble_eq_true rfl, Nat.le_of_ble_eq_true rfl⟩ rfl rfl h40 ?_ hr;show 22 + 4 * 0 + 0 + 0 + wL l ≤ 22 + 4 * t.text.length + wL l;omega
  ·refine Lr ⟨Nat.le_of_ble_eq_true rfl, Nat.le_of_ble_eq_true rfl⟩ rfl rfl h40 ?_ hr;show 22 + 4 * 0 + 0 + 0 + wL l ≤ 22 + 4 * t.text.length + wL l;omega
 ·cases e
theorem a4x {i : Inf} {k : Fo} (h : Ge i k) : BD 1 i k = DP i k := Ct (by have := h.lvl; omega)
section
variable {E : Pt} (hE : DxP 1 E)
include hE
theorem b14 : ∀ n d ts F r, d ≤ 40 → WfL ts → Gl E n d ts = .ok F r → Dl d F ts r
 | 0, _, _, _, _, _, _, e => by cases e
 | n + 1, d, ts, F, r, h40, hw, e => by
  unfold Gl at e;obtain ⟨F1, r1, e1, e2⟩ := Ad e;obtain ⟨⟨i, k, rfl, hg, hD⟩, hW, hr⟩ := hE d ts F1 r1 h40 hw e1;rw [a4x hg] at hD;split at e2
  ·rename_i h;obtain ⟨F2, r2, e3, e4⟩ := Ad e2;cases e4;obtain ⟨⟨a1, a2, a3⟩, a4, a5⟩ := b14 n d _ _ _ h40 (Bg hr) e3;have hs := Gh h;refine ⟨⟨?_, ?_, ?_⟩, ?_, a5⟩
   ·rw [Pw, a1];show (Be i k && Am k && true && true) = true;rw [hg.1, hg.2.1]; rfl
   ·rw [O9, List.all_append, a2];show (Ah i.kind && true && true) = true;rw [hg.exp]; rfl
   ·rw [a5h, Ye];show d + max (max (DP i k) 0) _ ≤ 40;omega
   ·rw [a1o]; omega
  ·cases e2;refine ⟨⟨?_, ?_, ?_⟩, hW, hr⟩
   ·show (Be i k && Am k && true) = true;rw [hg.1, hg.2.1]; rfl
   ·show (Ah i.kind && true) = true;rw [hg.exp]; rfl
   ·show d + max (DP i k) 0 ≤ 40;omega
theorem b0e (n d : Nat) (ts : List Tok) (F : Fo) (r : List Tok) (h40 : d ≤ 40) (hw : WfL ts) (e : C2 E n d ts = .ok F r) : Dl d F ts r := by
 unfold C2 Fq at e;split at e
 ·cases e;exact ⟨⟨rfl, rfl, h40⟩, by simp [wF], hw⟩
 ·exact b14 hE n d ts F r h40 hw e
theorem b9z (n d : Nat) (ts : List Tok) (F : Fo) (r : List Tok) (h40 : d ≤ 40) (hw : WfL ts) (h1 : (hd ts).kind = 1) (e : Gk E n d ts = .ok F r) : Dx 8 d F ts r := by
 obtain ⟨t, l, rfl, hk, hwl⟩ := a4n h1 (by decide);have hn := (hw t (by simp)).1 hk;unfold Gk at e;split at e
 ·obtain ⟨F1, r1, e1, e2⟩ := Ad e;cases e2;obtain ⟨q, q1, q2, q3, q4, q5⟩ := I7 e1 h40 (Bg hw);obtain ⟨⟨a1, a2, a3⟩, a4, a5⟩ := b0e hE n (d + 1) _ _ _ q1 q3 q2;obtain ⟨a6, a7⟩ := q5 a5;refine ⟨⟨_, _, rfl, ⟨?_, a1, Nat.le_of_ble_eq_true rfl, Nat.le_of_ble_eq_true rfl⟩, ?_⟩, ?_, a7⟩
  ·show (Ef t.text && true && (Ak F1).all Ah) = true;rw [hn, a2]; rfl
  ·rw [Ct (show ¬ lvl (mkX 27 (t :: l)) < 8 from by show ¬ (8 : Nat) < 8; omega)];show d + (1 + Iy (dpF F1)) ≤ 40;omega
  ·show (22 + 4 * t.text.length) + wF F1 + 0 + wL r ≤ wL (t :: l);have q4 : 22 + wL l.tail ≤ wL l := q4;have a4 : wF F1 + wL q ≤ wL l.tail := a4;omega
 ·cases e;refine Lr (i := mkX 26 (t :: l)) ⟨Nat.le_of_ble_eq_true rfl, Nat.le_of_ble_eq_true rfl⟩ hn rfl h40 ?_ (Bg hw);show 22 + 4 * t.text.length + 0 + 0 + wL l ≤ wL (t :: l);omega
theorem b90 (n d : Nat) (ts : List Tok) (F : Fo) (r : List Tok) (h40 : d ≤ 40) (hw : WfL ts) (hm : sees [109, 97, 107, 101] ts = true) (e : J9 E n d ts = .ok F r) : Dx 8 d F ts r := by
 have hsw := Gh hm;have hwt := Bg hw;obtain ⟨F1, r1, e1, e2⟩ := Ad e;cases e2;have e1 : (if (hd ts.tail).kind = 2 then Di Au (Aq [40] [41] A3) d ts.tail else Di (A7 (Cz n)) (Aq [40] [41] E) d ts.tail) = .ok F1 r := e1;split at e1
 ·rename_i h2;obtain ⟨G, r2, e3, e4⟩ := Ad e1;obtain ⟨⟨i, k, rfl, hg, hD⟩, hW, hr⟩ := a5n d _ _ _ h40 hwt e3;obtain ⟨G2, r3, e5, e6⟩ := Ad e4;cases e6;obtain ⟨q, q1, q2, q3, q4, q5⟩ := I7 e5 h40 hr;cases q2;obtain ⟨a6, a7⟩ := q5 q3
  have h19 : i.kind = 19 := by
   unfold Au at e3;obtain ⟨t, l, ht, hk⟩ := Pl h2 (by decide);rw [ht] at e3;have : Ho (YtoaplbljflhheaaGreat.hd (t :: l)) = some (19, t.text) := by show Ho t = _; unfold Ho; rw [if_pos hk]
   rw [this] at e3;cases e3;rfl
  refine ⟨⟨_, _, rfl, ⟨?_, ?_, Nat.le_of_ble_eq_true rfl, Nat.le_of_ble_eq_true rfl⟩, ?_⟩, ?_, a7⟩
  ·show (true && true && (Ag [[19].contains] [i.kind] || Ag [[20].contains, Ah] [i.kind])) = true;rw [h19]; rfl
  ·show (Be i k && Am k && true) = true;rw [hg.1, hg.2.1]; rfl
  ·rw [Ct (show ¬ lvl (mkK 32 ts) < 8 from by show ¬ (8 : Nat) < 8; omega)];show d + max (DP i k) (1 + 0) ≤ 40;omega
  ·simp only [wF] at hW;show 22 + 4 * 0 + ((22 + 4 * i.text.length) + wF k + 0) + 0 + wL r ≤ wL ts;omega
 ·obtain ⟨G, r2, e3, e4⟩ := Ad e1;obtain ⟨⟨i, k, rfl, hg, hD⟩, hW, hr⟩ := Rn (a5m n) d _ _ _ h40 hwt e3;obtain ⟨G2, r3, e5, e6⟩ := Ad e4;cases e6;obtain ⟨q, q1, q2, q3, q4, q5⟩ := I7 e5 h40 hr;obtain ⟨⟨j, m, rfl, hg2, hD2⟩, hW2, hr2⟩ := hE (d + 1) _ _ _ q1 q3 q2;rw [a4x hg2] at hD2;obtain ⟨a6, a7⟩ := q5 hr2
  have h20 : i.kind = 20 := by
   obtain ⟨F3, r4, e7, e8⟩ := Ad e3;cases e8;rfl
  refine ⟨⟨_, _, rfl, ⟨?_, ?_, Nat.le_of_ble_eq_true rfl, Nat.le_of_ble_eq_true rfl⟩, ?_⟩, ?_, a7⟩
  ·show (true && true && (Ag [[19].contains] [i.kind, j.kind] || Ag [[20].contains, Ah] [i.kind, j.kind])) = true;rw [h20];have := hg2.exp;simp [Ag, List.range, List.range.loop, this]
  ·show (Be i k && Am k && (Be j m && Am m && true)) = true;rw [hg.1, hg.2.1, hg2.1, hg2.2.1]; rfl
  ·rw [Ct (show ¬ lvl (mkK 32 ts) < 8 from by show ¬ (8 : Nat) < 8; omega)];show d + max (DP i k) (1 + DP j m) ≤ 40;omega
  ·simp only [wF] at hW hW2;show 22 + 4 * 0 + ((22 + 4 * i.text.length) + wF k + ((22 + 4 * j.text.length) + wF m + 0)) + 0 + wL r ≤ wL ts;omega
theorem b91 (n : Nat) : DxP 8 (Eo E n) := fun d ts F r h40 hw e => by
 unfold Eo at e;split at e
 ·obtain ⟨q, q1, q2, q3, q4, q5⟩ := I7 e h40 hw;obtain ⟨⟨i, k, rfl, hg, hD⟩, hW, hr⟩ := hE (d + 1) _ _ _ q1 q3 q2;obtain ⟨a6, a7⟩ := q5 hr;rw [a4x hg] at hD;have := c1w 8 i k;exact ⟨⟨i, k, rfl, hg, by omega⟩, by omega, a7⟩
 ·split at e
  ·rename_i h;exact b90 hE n d ts F r h40 hw h e
  ·split at e
   ·rename_i h;exact b9z hE n d ts F r h40 hw h e
   ·exact b5c d ts F r h40 hw e
theorem Xa : ∀ n d (F G : Fo) ts0 ts r, d ≤ 40 → Dx 8 d F ts0 ts → C8 E n F d ts = .ok G r → Dx 8 d G ts0 r
 | 0, _, _, _, _, _, _, _, _, e => by cases e
 | n + 1, d, F, G, ts0, ts, r, h40, hF, e => by
  unfold C8 at e;obtain ⟨⟨i, k, rfl, hg, hD⟩, hW, hw⟩ := hF;split at e
  ·obtain ⟨F1, r1, e1, e2⟩ := Ad e;obtain ⟨q, q1, q2, q3, q4, q5⟩ := I7 e1 h40 hw;obtain ⟨⟨j, m, rfl, hg2, hD2⟩, hW2, hr2⟩ := hE (d + 1) _ _ _ q1 q3 q2;rw [a4x hg2] at hD2;obtain ⟨a6, a7⟩ := q5 hr2;refine Xa n d _ G ts0 r1 r h40 ⟨⟨_, _, rfl, ⟨?_, ?_, Nat.le_of_ble_eq_true rfl, Nat.le_of_ble_eq_true rfl⟩, ?_⟩, ?_, a7⟩ e2
   ·show (true && true && Ag [Ah, Ah] [i.kind, j.kind]) = true;have h1 := hg.exp;have h2 := hg2.exp;simp [Ag, List.range, List.range.loop, h1, h2]
   ·show (Be i k && Am k && (Be j m && Am m && true)) = true;rw [hg.1, hg.2.1, hg2.1, hg2.2.1]; rfl
   ·rw [Ct (show ¬ lvl (mkK 28 ts) < 8 from by show ¬ (8 : Nat) < 8; omega)];show d + max (BD 8 i k) (1 + DP j m) ≤ 40;omega
   ·simp only [wF] at hW hW2;show 22 + 4 * 0 + ((22 + 4 * i.text.length) + wF k + ((22 + 4 * j.text.length) + wF m + 0)) + 0 + wL r1 ≤ wL ts0;omega
  ·split at e
   ·rename_i h46;obtain ⟨F1, r1, e1, e2⟩ := Ad e;have hsw := Gh h46;have hwt := Bg hw;unfold Eu Hr at e1;split at e1
    ·rename_i hk;cases e1;have hk : (YtoaplbljflhheaaGreat.hd ts.tail).kind = 1 := by simpa using hk
     obtain ⟨t, l, ht, hk1, hkw⟩ := a4n hk (by decide);have hn := (hwt t (by rw [ht]; simp)).1 hk1;have hy : (mkY 29 ts).text = t.text := by show (YtoaplbljflhheaaGreat.hd ts.tail).text = _; rw [ht]; rfl
     refine Xa n d _ G ts0 _ r h40 ⟨⟨mkY 29 ts, _, rfl, ⟨?_, ?_, Nat.le_of_ble_eq_true rfl, Nat.le_of_ble_eq_true rfl⟩, ?_⟩, ?_, Bg hwt⟩ e2
     ·show (Ef (mkY 29 ts).text && true && Ag [Ah] [i.kind]) = true;rw [hy, hn];have h1 := hg.exp;simp [Ag, List.range, List.range.loop, h1]
     ·show (Be i k && Am k && true) = true;rw [hg.1, hg.2.1]; rfl
     ·rw [Ct (show ¬ lvl (mkY 29 ts) < 8 from by show ¬ (8 : Nat) < 8; omega)];exact hD
     ·simp only [wF] at hW;show 22 + 4 * (mkY 29 ts).text.length + ((22 + 4 * i.text.length) + wF k + 0) + 0 + wL ts.tail.tail ≤ wL ts0;rw [hy, ht];show 22 + 4 * t.text.length + ((22 + 4 * i.text.length) + wF k + 0) + 0 + wL l ≤ wL ts0;omega
    ·cases e1
   ·cases e;exact ⟨⟨i, k, rfl, hg, hD⟩, hW, hw⟩
theorem b9x (n : Nat) : DxP 8 (H9 E n) := fun d ts F r h40 hw e => by
 obtain ⟨F1, r1, e1, e2⟩ := Ad e;exact Xa hE n d F1 F ts r1 r h40 (b91 hE n d ts F1 r1 h40 hw e1) e2
end
end
section
theorem c0c {S : List (List UInt8)} {ts : List Tok} (h : anyS S ts = true) : (hd ts).text ∈ S ∧ 22 + wL ts.tail ≤ wL ts := by
 obtain ⟨x, hx, hs⟩ := List.any_eq_true.mp h;refine ⟨?_, Gh hs⟩
 have : (YtoaplbljflhheaaGreat.hd ts).text = x := by
  unfold sees K7 at hs;exact (of_decide_eq_true hs).2
 rw [this]; exact hx
theorem c1m {L d : Nat} {ts r ts0 r0 : List Tok} {F G : Fo} {op : Int} {l c : Nat} (hL : 1 ≤ L ∧ L ≤ 6) (ho : (opS op).2 = L) (hn : Cr 31 op = true) (h1 : Dx (D2 L) d F ts0 ts) (h2 : Dx (L + 1) d G r0 r) (hw : wL r0 + 22 ≤ wL ts) (h40 : d ≤ 40) :
  Dx L d (.cons ⟨31, l, c, op, []⟩ (F.app G) .nil) ts0 r := by
 obtain ⟨⟨i, k, rfl, hg, hD⟩, hW, hr⟩ := h1;obtain ⟨⟨j, m, rfl, hg2, hD2⟩, hW2, hr2⟩ := h2;have hl : lvl ⟨31, l, c, op, []⟩ = L := ho;refine ⟨⟨_, _, rfl, ⟨?_, ?_, Nat.le_of_ble_eq_true rfl, Nat.le_of_ble_eq_true rfl⟩, ?_⟩, ?_, hr2⟩
 ·show (true && Cr 31 op && Ag [Ah, Ah] [i.kind, j.kind]) = true;have h1 := hg.exp;have h2 := hg2.exp;simp [Ag, List.range, List.range.loop, h1, h2, hn]
 ·show (Be i k && Am k && (Be j m && Am m && true)) = true;rw [hg.1, hg.2.1, hg2.1, hg2.2.1]; rfl
 ·rw [Ct (by rw [hl]; omega)];show d + max (BD (D2 (opS op).2) i k) (BD ((opS op).2 + 1) j m) ≤ 40;rw [ho];omega
 ·simp only [wF] at hW hW2;show 22 + 4 * 0 + ((22 + 4 * i.text.length) + wF k + ((22 + 4 * j.text.length) + wF m + 0)) + 0 + wL r ≤ wL ts0;omega
def LvS (L : Nat) (S : List (List UInt8)) : Prop := ∀ x ∈ S, (opS (J7 x)).2 = L ∧ Cr 31 (J7 x) = true
theorem Y3 {p : Pt} {L : Nat} (hp : DxP (L + 1) p) {S : List (List UInt8)} (hS : LvS L S) (hL : 1 ≤ L ∧ L ≤ 6) {d : Nat} {F G : Fo} {ts0 ts r : List Tok} (h40 : d ≤ 40) (hs : anyS S ts = true) (h : Dx (D2 L) d F ts0 ts) (e : C9 p F d ts = .ok G r) : Dx L d G ts0 r := by
 obtain ⟨F1, r1, e1, e2⟩ := Ad e;cases e2;obtain ⟨q1, q2⟩ := c0c hs;exact c1m hL (hS _ q1).1 (hS _ q1).2 h (hp d _ _ _ h40 (Bg h.2.2) e1) (by omega) h40
theorem Y4 {p : Pt} {L : Nat} (hp : DxP (L + 1) p) {S : List (List UInt8)} (hS : LvS L S) (hL : 1 ≤ L ∧ L ≤ 6) (hl : D2 L = L) : ∀ n d (F G : Fo) ts0 ts r, d ≤ 40 → Dx L d F ts0 ts → Cp p S n F d ts = .ok G r → Dx L d G ts0 r
 | 0, _, _, _, _, _, _, _, _, e => by cases e
 | n + 1, d, F, G, ts0, ts, r, h40, hF, e => by
  unfold Cp at e;split at e
  ·rename_i h;obtain ⟨F1, r1, e1, e2⟩ := Ad e;exact Y4 hp hS hL hl n d F1 G ts0 r1 r h40 (Y3 hp hS hL h40 h (by rw [hl]; exact hF) e1) e2
  ·cases e; exact hF
theorem S3 {p : Pt} {L : Nat} (hp : DxP (L + 1) p) {S : List (List UInt8)} (hS : LvS L S) (hL : 1 ≤ L ∧ L ≤ 6) (hl : D2 L = L) (n : Nat) : DxP L (C4 p S n) := fun d ts F r h40 hw e => by
 obtain ⟨F1, r1, e1, e2⟩ := Ad e;exact Y4 hp hS hL hl n d F1 F ts r1 r h40 ((hp d ts F1 r1 h40 hw e1).mono (by omega)) e2
theorem b13 {p : Pt} {L : Nat} (hp : DxP (L + 1) p) {S : List (List UInt8)} (hS : LvS L S) (hL : 1 ≤ L ∧ L ≤ 6) (hl : D2 L = L + 1) : DxP L (Js p S) := fun d ts F r h40 hw e => by
 obtain ⟨F1, r1, e1, e2⟩ := Ad e;have h1 := hp d ts F1 r1 h40 hw e1;split at e2
 ·rename_i h;exact Y3 hp hS hL h40 h (by rw [hl]; exact h1) e2
 ·cases e2; exact h1.mono (by omega)
theorem b9y {U : Pt} (hU : DxP 7 U) {op : Int} {x : List UInt8} (ho : (opS op).2 = 7) (hn : Cr 30 op = true) {d : Nat} {ts r : List Tok} {F : Fo} (h40 : d ≤ 40) (hw : WfL ts) (hs : sees x ts = true) (e : Bx (mkN 30 op) (Cm U) d ts = .ok F r) : Dx 7 d F ts r := by
 obtain ⟨F1, r1, e1, e2⟩ := Ad e;cases e2;obtain ⟨q1, q2⟩ := Y2 e1 h40;obtain ⟨⟨i, k, rfl, hg, hD⟩, hW, hr⟩ := hU _ _ _ _ q1 (Bg hw) q2;have hs := Gh hs;have hl : lvl (mkN 30 op ts) = 7 := ho;refine ⟨⟨_, _, rfl, ⟨?_, ?_, Nat.le_of_ble_eq_true rfl, Nat.le_of_ble_eq_true rfl⟩, ?_⟩, ?_, hr⟩
 ·show (true && Cr 30 op && Ag [Ah] [i.kind]) = true;have h1 := hg.exp;simp [Ag, List.range, List.range.loop, h1, hn]
 ·show (Be i k && Am k && true) = true;rw [hg.1, hg.2.1]; rfl
 ·rw [Ct (by rw [hl]; omega)];show d + (1 + BD 7 i k) ≤ 40;omega
 ·simp only [wF] at hW;show 22 + 4 * 0 + ((22 + 4 * i.text.length) + wF k + 0) + 0 + wL r ≤ wL ts;omega
theorem b5a {U p : Pt} (hU : DxP 7 U) (hp : DxP 8 p) : DxP 7 (Cy U p) := fun d ts F r h40 hw e => by
 unfold Cy at e;split at e
 ·rename_i h; exact b9y hU rfl rfl h40 hw h e
 ·split at e
  ·rename_i h; exact b9y hU rfl rfl h40 hw h e
  ·exact (hp d ts F r h40 hw e).mono (by omega)
theorem c26 {u : Pt} (hu : DxP 7 u) (n : Nat) : DxP 1 (orP u n) := by
 have h6 : DxP 6 (a7e u n) := S3 (L := 6) hu (by intro x hx; simp only [List.mem_cons, List.not_mem_nil, or_false] at hx; rcases hx with rfl | rfl | rfl <;> exact ⟨rfl, rfl⟩) (by omega) rfl n;have h5 : DxP 5 (c0k u n) := S3 (L := 5) h6 (by intro x hx; simp only [List.mem_cons, List.not_mem_nil, or_false] at hx; rcases hx with rfl | rfl <;> exact ⟨rfl, rfl⟩) (by omega) rfl n;have h4 : DxP 4 (a84 u n) := b13 (L := 4) h5 (by intro x hx; simp only [List.mem_cons, List.not_mem_nil, or_false] at hx; rcases hx with rfl | rfl | rfl | rfl <;> exact ⟨rfl, rfl⟩) (by omega) rfl;have h3 : DxP 3 (Yv u n) := b13 (L := 3) h4 (by intro x hx; simp only [List.mem_cons, List.not_mem_nil, or_false] at hx; rcases hx with rfl | rfl <;> exact ⟨rfl, rfl⟩) (by omega) rfl;have h2 : DxP 2 (c0s u n) := S3 (L := 2) h3 (by intro x hx; simp only [List.mem_cons, List.not_mem_nil, or_false] at hx; rcases hx with rfl <;> exact ⟨rfl, rfl⟩) (by omega) rfl n;exact S3 (L := 1) h2 (by intro x hx; simp only [List.mem_cons, List.not_mem_nil, or_false] at hx; rcases hx with rfl <;> exact ⟨rfl, rfl⟩) (by omega) rfl n
theorem c1o : ∀ n, DxP 1 (Bc n) ∧ DxP 7 (unP n)
 | 0 => by constructor <;> (intro d ts F r _ _ e; cases e)
 | n + 1 => by
  have hu : DxP 7 (unP (n + 1)) := by rw [Rs]; exact b5a (c1o n).2 (b9x (c1o n).1 (n + 1))
  exact ⟨by rw [Kz]; exact c26 hu (n + 1), hu⟩
end
section
def SmT (ts us : List Tok) : Prop := ts.map tkB = us.map tkB
def SmO : Out → Out → Prop
 | .ok F r, .ok G q => Ar F = Ar G ∧ SmT r q
 | .bad c _ _, .bad c' _ _ => c = c'
 | _, _ => False
def Npl (p : Pt) : Prop := ∀ d ts us, SmT ts us → SmO (p d ts) (p d us)
theorem SmT.tail {ts us : List Tok} (h : SmT ts us) : SmT ts.tail us.tail := by
 unfold SmT at *;rw [List.map_tail, List.map_tail, h]
theorem SmT.hd {ts us : List Tok} (h : SmT ts us) : tkB (hd ts) = tkB (hd us) := by
 unfold SmT at h
 cases ts with
 | nil =>
  cases us with
  | nil => rfl
  | cons y l => cases h
 | cons x k =>
  cases us with
  | nil => cases h
  | cons y l => simp at h; exact h.1
theorem SmT.kind {ts us : List Tok} (h : SmT ts us) : (YtoaplbljflhheaaGreat.hd ts).kind = (YtoaplbljflhheaaGreat.hd us).kind := by have := congrArg Tok.kind h.hd; exact this
theorem SmT.text {ts us : List Tok} (h : SmT ts us) : (YtoaplbljflhheaaGreat.hd ts).text = (YtoaplbljflhheaaGreat.hd us).text := by have := congrArg Tok.text h.hd; exact this
theorem SmT.num {ts us : List Tok} (h : SmT ts us) : (YtoaplbljflhheaaGreat.hd ts).num = (YtoaplbljflhheaaGreat.hd us).num := by have := congrArg Tok.num h.hd; exact this
theorem SmT.sees {ts us : List Tok} (h : SmT ts us) (x : List UInt8) : sees x ts = sees x us := by
 unfold YtoaplbljflhheaaGreat.sees K7;rw [h.kind, h.text]
theorem SmT.anyS {ts us : List Tok} (h : SmT ts us) (S : List (List UInt8)) : anyS S ts = anyS S us := by
 unfold YtoaplbljflhheaaGreat.anyS;congr 1;funext x;exact h.sees x
theorem Dw (F G : Fo) : Ar (F.app G) = (Ar F).app (Ar G) := by
 induction F with
 | nil => rfl
 | cons i k r _ ih => simp [Fo.app, Ar, ih]
theorem SmO.bind {o o' : Out} {f g : Fo → List Tok → Out} (h : SmO o o') (k : ∀ F G r q, Ar F = Ar G → SmT r q → SmO (f F r) (g G q)) : SmO (o.bind f) (o'.bind g) := by
 cases o with
 | ok F r =>
  cases o' with
  | ok G q => exact k F G r q h.1 h.2
  | bad => exact h.elim
 | bad c l m =>
  cases o' with
  | ok G q => exact h.elim
  | bad => exact h
theorem Hg : Npl A3 := fun d ts us h => ⟨rfl, h⟩
theorem Hf : Npl It := fun d ts us h => rfl
theorem Fg (x : List UInt8) : Npl (take x) := fun d ts us h => by
 unfold take Hr;rw [h.sees];split
 ·exact ⟨rfl, h.tail⟩
 ·exact rfl
theorem Md (k : Nat) : Npl (Eu k) := fun d ts us h => by
 unfold Eu Hr;show SmO (if decide ((YtoaplbljflhheaaGreat.hd ts).kind = k) = true then _ else _) (if decide ((YtoaplbljflhheaaGreat.hd us).kind = k) = true then _ else _);rw [h.kind];split
 ·exact ⟨rfl, h.tail⟩
 ·exact rfl
theorem Ia {a b : Pt} (ha : Npl a) (hb : Npl b) : Npl (Di a b) := fun d ts us h =>
 (ha d ts us h).bind fun F G r q e1 e2 => (hb d r q e2).bind fun F' G' r' q' e3 e4 => ⟨by rw [Dw, Dw, e1, e3], e4⟩
theorem Ix {p : Pt} (hp : Npl p) : Npl (Cf p) := fun d ts us h => hp d _ _ h.tail
theorem Ib {a b : Pt} (x : List UInt8) (ha : Npl a) (hb : Npl b) : Npl (Fq x a b) := fun d ts us h => by
 unfold Fq;rw [h.sees];split
 ·exact ha d _ _ h
 ·exact hb d _ _ h
theorem M9 {p : Pt} (hp : Npl p) : Npl (Cm p) := fun d ts us h => by
 unfold Cm;split
 ·exact rfl
 ·exact hp _ _ _ h.tail
theorem Du {p : Pt} (o c : List UInt8) (hp : Npl p) : Npl (Aq o c p) := fun d ts us h => by
 unfold Aq;rw [h.sees];split
 ·exact Ia (M9 hp) (Fg c) d _ _ h
 ·exact rfl
theorem Fh {mk : List Tok → Inf} {p : Pt} (hm : ∀ ts us, SmT ts us → D4 (mk ts) = D4 (mk us)) (hp : Npl p) : Npl (Bx mk p) := fun d ts us h =>
 (hp d ts us h).bind fun F G r q e1 e2 => ⟨by simp only [Ar]; rw [hm ts us h, e1], e2⟩
theorem c0m (k : Nat) (ts us : List Tok) (h : SmT ts us) : D4 (mkK k ts) = D4 (mkK k us) := rfl
theorem c17 (k : Nat) (n : Int) (ts us : List Tok) (h : SmT ts us) : D4 (mkN k n ts) = D4 (mkN k n us) := rfl
theorem c08 (k : Nat) (ts us : List Tok) (h : SmT ts us) : D4 (mkX k ts) = D4 (mkX k us) := by simp [D4, mkX, h.text]
theorem c07 (k : Nat) (ts us : List Tok) (h : SmT ts us) : D4 (mkY k ts) = D4 (mkY k us) := by simp [D4, mkY, h.tail.text]
theorem Pf {p : Pt} (x : List UInt8) (hp : Npl p) : ∀ n, Npl (Ci x p n)
 | 0 => Hf
 | n + 1 => fun d ts us h => by
  unfold Ci;rw [h.sees];split
  ·exact ⟨rfl, h⟩
  ·exact (hp d _ _ h).bind fun F G r q e1 e2 => (Pf x hp n d r q e2).bind fun F' G' r' q' e3 e4 => ⟨by rw [Dw, Dw, e1, e3], e4⟩
theorem Yb {p : Pt} (hp : Npl p) : ∀ n, Npl (Gl p n)
 | 0 => Hf
 | n + 1 => fun d ts us h => by
  unfold Gl;refine (hp d _ _ h).bind fun F G r q e1 e2 => ?_
  rw [e2.sees];split
  ·exact (Yb hp n d _ _ e2.tail).bind fun F' G' r' q' e3 e4 => ⟨by rw [Dw, Dw, e1, e3], e4⟩
  ·exact ⟨e1, e2⟩
theorem Rh {p : Pt} (hp : Npl p) (n : Nat) : Npl (C2 p n) := Ib _ Hg (Yb hp n)
theorem Tp {p : Pt} (hp : Npl p) {F G : Fo} (hF : Ar F = Ar G) (d : Nat) {ts us : List Tok} (h : SmT ts us) : SmO (C9 p F d ts) (C9 p G d us) :=
 (hp d _ _ h.tail).bind fun F' G' r q e1 e2 => ⟨by simp only [Ar, Dw, hF, e1, D4]; rw [h.text], e2⟩
theorem Xo {p : Pt} (hp : Npl p) (S : List (List UInt8)) : ∀ n {F G : Fo}, Ar F = Ar G → ∀ d {ts us : List Tok}, SmT ts us → SmO (Cp p S n F d ts) (Cp p S n G d us)
 | 0, _, _, _, _, _, _, _ => rfl
 | n + 1, F, G, hF, d, ts, us, h => by
  unfold Cp;rw [h.anyS];split
  ·exact (Tp hp hF d h).bind fun F' G' r q e1 e2 => Xo hp S n e1 d e2
  ·exact ⟨hF, h⟩
theorem Me {p : Pt} (hp : Npl p) (S : List (List UInt8)) (n : Nat) : Npl (C4 p S n) := fun d ts us h =>
 (hp d _ _ h).bind fun F G r q e1 e2 => Xo hp S n e1 d e2
theorem Ya {p : Pt} (hp : Npl p) (S : List (List UInt8)) : Npl (Js p S) := fun d ts us h =>
 (hp d _ _ h).bind fun F G r q e1 e2 => by
  rw [e2.anyS];split
  ·exact Tp hp e1 d e2
  ·exact ⟨e1, e2⟩
theorem b6y {t u : Tok} (h : tkB t = tkB u) : Ho t = Ho u := by
 have h1 : t.kind = u.kind := by have := congrArg Tok.kind h; exact this
 have h2 : t.text = u.text := by have := congrArg Tok.text h; exact this
 unfold Ho;rw [h1, h2]
theorem b5f {t u : Tok} (h : tkB t = tkB u) : Bo t = Bo u := by
 have h1 : t.kind = u.kind := by have := congrArg Tok.kind h; exact this
 have h2 : t.text = u.text := by have := congrArg Tok.text h; exact this
 have h3 : t.num = u.num := by have := congrArg Tok.num h; exact this
 unfold Bo;rw [h1, h2, h3]
theorem Ud : Npl Au := fun d ts us h => by
 unfold Au;rw [b6y h.hd];split
 ·exact ⟨rfl, h.tail⟩
 ·exact rfl
theorem Ny {p : Pt} (hp : Npl p) : Npl (A7 p) := Fh (c0m 20) (Du _ _ hp)
theorem Mc : ∀ n, Npl (Cz n)
 | 0 => Hf
 | n + 1 => Ib _ (Ny (Mc n)) Ud
theorem a3y : Npl Fc := fun d ts us h => by
 unfold Fc;rw [b5f h.hd];split
 ·exact ⟨rfl, h.tail⟩
 ·exact rfl
section
variable {E : Pt} (hE : Npl E) (n : Nat)
include hE
theorem a8q : Npl (Gk E n) := fun d ts us h => by
 unfold Gk;rw [h.tail.sees];split
 ·exact Fh (c08 27) (Ix (Du _ _ (Rh hE n))) d _ _ h
 ·exact ⟨by simp only [Ar]; rw [c08 26 _ _ h], h.tail⟩
theorem a8r : Npl (J9 E n) := Fh (c0m 32) (Ix fun d ts us h => by
 show SmO (if _ then _ else _) (if _ then _ else _);rw [h.kind];split
 ·exact Ia Ud (Du _ _ Hg) d _ _ h
 ·exact Ia (Ny (Mc n)) (Du _ _ hE) d _ _ h)
theorem a8u : Npl (Eo E n) := fun d ts us h => by
 unfold Eo;rw [h.sees, h.sees, h.kind];split
 ·exact Du _ _ hE d _ _ h
 ·split
  ·exact a8r hE n d _ _ h
  ·split
   ·exact a8q hE n d _ _ h
   ·exact a3y d _ _ h
theorem Vu : ∀ n {F G : Fo}, Ar F = Ar G → ∀ d {ts us : List Tok}, SmT ts us → SmO (C8 E n F d ts) (C8 E n G d us)
 | 0, _, _, _, _, _, _, _ => rfl
 | n + 1, F, G, hF, d, ts, us, h => by
  unfold C8;rw [h.sees, h.sees];split
  ·exact (Du _ _ hE d _ _ h).bind fun F' G' r q e1 e2 => Vu n (by simp only [Ar, Dw, hF, e1]; rfl) d e2
  ·split
   ·exact (Md 1 d _ _ h.tail).bind fun F' G' r q e1 e2 => Vu n (by simp only [Ar, hF]; rw [c07 29 _ _ h]) d e2
   ·exact ⟨hF, h⟩
theorem a8p : Npl (H9 E n) := fun d ts us h => (a8u hE n d _ _ h).bind fun F G r q e1 e2 => Vu hE n e1 d e2
end
theorem a3x {U p : Pt} (hU : Npl U) (hp : Npl p) : Npl (Cy U p) := fun d ts us h => by
 unfold Cy;rw [h.sees, h.sees];split
 ·exact Fh (c17 30 12) (M9 hU) d _ _ h
 ·split
  ·exact Fh (c17 30 13) (M9 hU) d _ _ h
  ·exact hp d _ _ h
theorem b8h {u : Pt} (h : Npl u) (n : Nat) : Npl (orP u n) := Me (Me (Ya (Ya (Me (Me h _ n) _ n) _) _) _ n) _ n
theorem b1t : ∀ n, Npl (Bc n) ∧ Npl (unP n)
 | 0 => ⟨Hf, Hf⟩
 | n + 1 => by
  obtain ⟨h1, h2⟩ := b1t n;have h := a3x h2 (a8p h1 (n + 1));exact ⟨b8h h (n + 1), h⟩
theorem a8s (n : Nat) : Npl (Bc n) := (b1t n).1
theorem a3w {p : Pt} (h : Npl p) {ts us : List Tok} (e : SmT ts us) : SmO (Ha p ts) (Ha p us) :=
 (h 0 _ _ e).bind fun F G r q e1 e2 => by
  rw [e2.kind];split
  ·exact ⟨e1, e2⟩
  ·exact rfl
theorem Sb : ∀ {l : List Pt}, (∀ p ∈ l, Npl p) → Npl (Ba l)
 | [], _ => Hg
 | p :: l, h => Ia (h p (by simp)) (Sb fun q hq => h q (by simp [hq]))
theorem Ko {k : Nat} {l : List Pt} (h : ∀ p ∈ l, Npl p) : Npl (Cd k l) := Fh (c0m k) (Ix (Sb h))
theorem a2t {F G : Fo} (h : Ar F = Ar G) : Hp F = Hp G := by
 cases F with
 | nil =>
  cases G with
  | nil => rfl
  | cons => cases h
 | cons i k r =>
  cases G with
  | nil => cases h
  | cons j m q =>
   simp only [Ar, Fo.cons.injEq] at h;have := congrArg Inf.kind h.1;exact this
theorem b3z {E : Pt} (hE : Npl E) : Npl (L3 E) := fun d ts us h => (hE d _ _ h).bind fun F G r q e1 e2 => by
 rw [a2t e1];split
 ·exact (Ia (Fg _) (Ia hE (Fg _)) d _ _ e2).bind fun F' G' r' q' e3 e4 => ⟨by simp only [Ar, Dw, e1, e3]; rfl, e4⟩
 ·split
  ·exact (Fg _ d _ _ e2).bind fun F' G' r' q' e3 e4 => ⟨by simp only [Ar, Dw, e1, e3]; rfl, e4⟩
  ·exact rfl
theorem a0l {E B : Pt} (hE : Npl E) (hB : Npl B) (n : Nat) : Npl (Gg E B n) := by
 refine Ib _ (Fh (c07 7) (Ix (Sb fun p hp => ?_))) (Ib _ (Ko fun p hp => ?_) (Ib _ (Ko fun p hp => ?_) (Ib _ (Ko fun p hp => ?_) (Ib _ (Ko fun p hp => ?_) (b3z hE)))))
 ·simp only [List.mem_cons, List.not_mem_nil, or_false] at hp;rcases hp with rfl | rfl | rfl | rfl | rfl | rfl <;> first | exact Md _ | exact Fg _ | exact Mc _ | exact hE
 ·simp only [List.mem_cons, List.not_mem_nil, or_false] at hp;rcases hp with rfl | rfl | rfl <;> first | exact hE | exact hB | exact Ib _ (Ix hB) Hg
 ·simp only [List.mem_cons, List.not_mem_nil, or_false] at hp;rcases hp with rfl | rfl <;> first | exact hE | exact hB
 ·simp only [List.mem_cons, List.not_mem_nil, or_false] at hp;rcases hp with rfl | rfl <;> first | exact Fg _ | exact Ib _ Hg hE
 ·simp only [List.mem_cons, List.not_mem_nil, or_false] at hp;rcases hp with rfl | rfl <;> first | exact Fg _ | exact hE
theorem Ue {S : Pt} (h : Npl S) (n : Nat) : Npl (D3 S n) := Fh (c0m 6) (Du _ _ (Pf _ h n))
theorem X9 : ∀ n, Npl (K6 n)
 | 0 => Hf
 | n + 1 => a0l (a8s _) (Ue (X9 n) n) _
theorem Ub (k n : Nat) : Npl (D7 k n) := Fh (c08 k) (Sb fun p hp => by
 simp only [List.mem_cons, List.not_mem_nil, or_false] at hp
 rcases hp with rfl | rfl | rfl <;> first | exact Md _ | exact Fg _ | exact Mc _)
theorem b30 (n : Nat) : Npl (a2z n) := Fh (c07 2) (Ix (Ia (Md 2) (Du _ _ (Pf _ (Ia (Ub 3 n) (Fg _)) n))))
theorem a0m (n : Nat) : Npl (Es n) := fun d ts us h => by
 unfold Es;rw [h.sees];split
 ·exact Mc n d _ _ h.tail
 ·exact ⟨rfl, h⟩
theorem Nb (F : Fo) : (Ar F).post.map (·.kind) = F.post.map (·.kind) := by
 induction F with
 | nil => rfl
 | cons i k r ihk ihr => simp [Ar, Fo.post, ihk, ihr, Inf.nd, D4]
theorem Ro (k : Nat) (l m : List Nd) (h : l.map (·.kind) = m.map (·.kind)) : K8 k l = K8 k m := by
 have e : ∀ l : List Nd, K8 k l = ((l.map (·.kind)).filter fun x => decide (x = k)).length := fun l => by
  rw [List.filter_map, List.length_map]; rfl
 rw [e, e, h]
theorem b8i (n : Nat) : Npl (fnP n) := fun d ts us h => (Fg _ d _ _ h).bind fun _ _ r q _ e0 =>
 (Ia (Md 1) (Du _ _ (Rh (Ub 5 n) n)) d _ _ e0).bind fun F G r1 q1 e1 e2 =>
  (Ia (a0m n) (Ue (X9 n) n) d _ _ e2).bind fun F' G' r2 q2 e3 e4 => ⟨by
   have hc : K8 5 F.post = K8 5 G.post := Ro _ _ _ (by rw [← Nb F, ← Nb G, e1]);simp only [Ar, Dw, e1, e3, D4]
   rw [e0.text, hc], e4⟩
theorem a8t (n : Nat) : Npl (Gu n) := Ib _ (b30 n) (b8i n)
theorem Uc {p : Pt} (hp : Npl p) : ∀ n, Npl (He p n)
 | 0 => Hf
 | n + 1 => fun d ts us h => by
  unfold He;rw [h.kind];split
  ·exact ⟨rfl, h⟩
  ·exact (hp d _ _ h).bind fun F G r q e1 e2 => (Uc hp n d r q e2).bind fun F' G' r' q' e3 e4 => ⟨by rw [Dw, Dw, e1, e3], e4⟩
theorem a8o (n : Nat) : Npl (Fl n) := fun d ts us h => (Uc (a8t n) n d _ _ h).bind fun F G r q e1 e2 => ⟨by simp only [Ar, e1], e2⟩
end
section
def Gs (p : Pt) (T : List Tok) (F : Fo) (D : Nat) (Q : List Tok → Prop) : Prop := ∀ d r, d ≤ 40 → Q r → CG (p d (T ++ r)) (.ok F r) (d + D ≤ 40)
def Any (r : List Tok) : Prop := True
def Sgn (x : List UInt8) (r : List Tok) : Prop := ∃ q, r = sg x :: q
theorem Gs.weak {p : Pt} {T : List Tok} {F : Fo} {D : Nat} {Q R : List Tok → Prop} (h : Gs p T F D Q) (k : ∀ r, R r → Q r) : Gs p T F D R := fun d r hd hr => h d r hd (k r hr)
theorem Ks (Q : List Tok → Prop) : Gs A3 [] .nil 0 Q := fun d r hd _ => .inl ⟨hd, rfl⟩
theorem Hx {p q : Pt} {T U : List Tok} {F G : Fo} {D E : Nat} {Q R : List Tok → Prop} (h : Gs p T F D Q) (k : Gs q U G E R) (e : ∀ r, R r → Q (U ++ r)) : Gs (Di p q) (T ++ U) (F.app G) (max D E) R := fun d r hd hr => by
 unfold Di;rw [List.append_assoc];refine ((h d (U ++ r) hd (e r hr)).bind (X := .ok (F.app G) r) (c := d + E ≤ 40) ?_).imp (by omega);exact ((k d r hd hr).bind (f := fun G r' => Out.ok (F.app G) r') (X := .ok (F.app G) r) (c := True) (CG.ok trivial)).imp (by simp)
theorem Hj (x : List UInt8) : Gs (take x) [sg x] .nil 0 Any := fun d r hd _ => by
 refine .inl ⟨hd, ?_⟩;unfold take Hr;show (if sees x (sg x :: r) = true then _ else _) = _;rw [A6, decide_eq_true rfl, if_pos rfl];rfl
theorem Sp {k : Nat} {t : Tok} (h : t.kind = k) : Gs (Eu k) [t] .nil 0 Any := fun d r hd _ => by
 refine .inl ⟨hd, ?_⟩;unfold Eu Hr;show (if decide (t.kind = k) = true then Out.ok .nil r else _) = _;rw [h, decide_eq_true rfl, if_pos rfl]
theorem Gq {p : Pt} {T : List Tok} {F : Fo} {D : Nat} {Q : List Tok → Prop} (t : Tok) (h : Gs p T F D Q) : Gs (Cf p) (t :: T) F D Q := fun d r hd hr => h d r hd hr
theorem Ig {mk : List Tok → Inf} {p : Pt} {T : List Tok} {F : Fo} {D : Nat} {Q : List Tok → Prop} {i : Inf} (h : Gs p T F D Q) (e : ∀ r, Q r → mk (T ++ r) = i) : Gs (Bx mk p) T (.cons i F .nil) D Q := fun d r hd hr => by
 unfold Bx;rw [e r hr];exact ((h d r hd hr).bind (X := .ok (.cons i F .nil) r) (c := True) (CG.ok trivial)).imp (by simp)
theorem Hi {x : List UInt8} {a b : Pt} {T : List Tok} {F : Fo} {D : Nat} {Q : List Tok → Prop} (h : Gs a T F D Q) (e : ∀ r, Q r → sees x (T ++ r) = true) : Gs (Fq x a b) T F D Q := fun d r hd hr => by
 unfold Fq;rw [e r hr, if_pos rfl];exact h d r hd hr
theorem Ck {x : List UInt8} {a b : Pt} {T : List Tok} {F : Fo} {D : Nat} {Q : List Tok → Prop} (h : Gs b T F D Q) (e : ∀ r, Q r → sees x (T ++ r) = false) : Gs (Fq x a b) T F D Q := fun d r hd hr => by
 unfold Fq;rw [e r hr, if_neg (by decide)];exact h d r hd hr
theorem Pu {o c : List UInt8} {p : Pt} {T : List Tok} {F : Fo} {D : Nat} (h : Gs p T F D (Sgn c)) : Gs (Aq o c p) (sg o :: (T ++ [sg c])) F (1 + D) Any := fun d r hd _ => by
 have e : sg o :: (T ++ [sg c]) ++ r = sg o :: (T ++ sg c :: r) := by simp
 rw [e];exact (G9 hd fun _ => h (d + 1) (sg c :: r) (by omega) ⟨r, rfl⟩).imp (by omega)
def Np (r : List Tok) : Prop := Stp 1 r ∧ Po r
theorem b4f {i : Inf} {k : Fo} (hg : Be i k = true) (hG : Am k = true) (k1 : 21 ≤ i.kind) (k2 : i.kind ≤ 32) {n : Nat} (hn : (TK i k).length < n) : Gs (Bc n) (TK i k) (BE i k) (DP i k) Np := fun d r hd hr => by
 have hc := b1y _ i k (Nat.lt_succ_self _) hg hG k1 k2;have e1 : BT 1 i k = TK i k := Fy (by omega);have e2 : BD 1 i k = DP i k := Ct (by omega);have hA := hc.1.A 1 n d r (Nat.le_refl _) (by omega) (by rw [e1]; exact hn) hd hr.1 hr.2;rw [e1, e2] at hA;obtain ⟨m, rfl⟩ : ∃ m, n = m + 1 := ⟨n - 1, by omega⟩;exact hA
theorem b4e {i : Inf} {k : Fo} (hg : Be i k = true) (hG : Am k = true) (k1 : 15 ≤ i.kind) (k2 : i.kind ≤ 20) {n : Nat} (hn : (TK i k).length < n) : Gs (Cz n) (TK i k) (BE i k) (DP i k) Any := fun d r hd _ =>
 b1x _ i k (Nat.lt_succ_self _) hg hG k1 k2 n d r hn hd
end
section
def Al (P : Inf → Fo → Prop) : Fo → Prop
 | .nil => True
 | .cons i k r => P i k ∧ Al P r
def Fd : Fo → Nat
 | .nil => 0
 | .cons _ _ r => Fd r + 1
def I5 (F : Fo) : List Tok := (tkF F).flatMap fun x => x.2
theorem G0 (i : Inf) (k r : Fo) : I5 (.cons i k r) = TK i k ++ I5 r := by simp [I5, tkF]
theorem Yl {x : List UInt8} {p : Pt} {Q : List Tok → Prop} (hQ : ∀ r, Sgn x r → Q r) : ∀ (F : Fo) n, Fd F < n →
  Al (fun i k => Gs p (TK i k) (BE i k) (DP i k) Q ∧ ∀ r, sees x (TK i k ++ r) = false ∧ Q (TK i k ++ r)) F → Gs (Ci x p n) (I5 F) (Ar F) (Iy (dpF F)) (Sgn x) := by
 intro F
 induction F with
 | nil =>
  intro n hn _ d r hd hr;obtain ⟨n, rfl⟩ : ∃ m, n = m + 1 := ⟨n - 1, by omega⟩;obtain ⟨q, rfl⟩ := hr;refine .inl ⟨hd, ?_⟩;show (if sees x (sg x :: q) = true then _ else _) = _;rw [A6, decide_eq_true rfl, if_pos rfl]
  rfl
 | cons i k r _ ihr =>
  intro n hn hA d q hd hq;simp only [Fd] at hn;obtain ⟨n, rfl⟩ : ∃ m, n = m + 1 := ⟨n - 1, by omega⟩;have ih := ihr n (by omega) hA.2 d q hd hq
  have h1 := hA.1.1 d (I5 r ++ q) hd (by
   cases r with
   | nil => exact hQ _ hq
   | cons j m t => rw [G0, List.append_assoc]; exact (hA.2.1.2 _).2)
  rw [G0, List.append_assoc];unfold Ci;rw [(hA.1.2 _).1, if_neg (by decide)];refine (h1.bind (X := .ok (Ar (.cons i k r)) q) (c := d + Iy (dpF r) ≤ 40) ?_).imp ?_
  ·exact (ih.bind (f := fun G r' => Out.ok ((BE i k).app G) r') (X := .ok (Ar (.cons i k r)) q) (c := True) (CG.ok trivial)).imp (by simp)
  ·show d + DP i k ≤ 40 ∧ d + Iy (dpF r) ≤ 40 ↔ d + max (DP i k) (Iy (dpF r)) ≤ 40;omega
theorem a4u {p : Pt} {T : List Tok} {F : Fo} {D : Nat} {Q : List Tok → Prop} (h : Gs p T F D Q) : Gs (Ba [p]) T F D Q := by
 have := Hx h (Ks Q) (fun r hr => hr);rw [List.append_nil, Jl, Nat.max_eq_left (Nat.zero_le _)] at this;exact this
theorem Pv {p q : Pt} {T U : List Tok} {F G : Fo} {D E : Nat} {Q R : List Tok → Prop} (h : Gs p T F D Q) (k : Gs q U G E R) (e : ∀ r, R r → Q (U ++ r)) : Gs (Ba [p, q]) (T ++ U) (F.app G) (max D E) R := Hx h (a4u k) e
theorem W0 {p q s : Pt} {T U V : List Tok} {F G H : Fo} {D E C : Nat} {Q R S : List Tok → Prop} (h : Gs p T F D Q) (k : Gs q U G E R) (l : Gs s V H C S) (e : ∀ r, R r → Q (U ++ r)) (e' : ∀ r, S r → R (V ++ r)) (e'' : ∀ r, S r → Q (U ++ (V ++ r))) : Gs (Ba [p, q, s]) (T ++ (U ++ V)) (F.app (G.app H)) (max D (max E C)) S :=
 Hx h (Pv k l e') (fun r hr => by rw [List.append_assoc]; exact e'' r hr)
theorem a9i {i : Inf} {F : Fo} {p : Pt} {n : Nat} {Q : List Tok → Prop} (hi : i.kind = 6 ∧ i.num = 0 ∧ i.text = []) (hQ : ∀ r, Sgn [125] r → Q r) (hn : Fd F < n)
  (hA : Al (fun i k => Gs p (TK i k) (BE i k) (DP i k) Q ∧ ∀ r, sees [125] (TK i k ++ r) = false ∧ Q (TK i k ++ r)) F) : Gs (D3 p n) (TK i F) (BE i F) (DP i F) Any := by
 obtain ⟨kd, ln, cl, num, tx⟩ := i;obtain ⟨rfl, rfl, rfl⟩ := hi;have h := Ig (mk := mkK 6) (i := ⟨6, 0, 0, 0, []⟩) (Pu (o := [123]) (Yl hQ F n hn hA)) (fun r _ => rfl)
 have e : TK ⟨6, ln, cl, 0, []⟩ F = sg [123] :: (I5 F ++ [sg [125]]) := by
  show [sg [123]] ++ I5 F ++ [sg [125]] = _;simp
 rw [e];exact h
end
section
theorem Gs.cast {p : Pt} {T T' : List Tok} {F F' : Fo} {D D' : Nat} {Q : List Tok → Prop} (h : Gs p T F D Q) (eT : T = T') (eF : F = F') (eD : D = D') : Gs p T' F' D' Q := by
 subst eT eF eD; exact h
theorem Hl {x : List UInt8} (h : x = [59] ∨ x = [61] ∨ x = [123]) (r : List Tok) : Np (sg x :: r) := by
 rcases h with rfl | rfl | rfl
 ·exact ⟨Jx (by decide) _ _, Qs (by decide) _⟩
 ·exact ⟨Jx (by decide) _ _, Qs (by decide) _⟩
 ·exact ⟨Jx (by decide) _ _, Qs (by decide) _⟩
def b6f (r : List Tok) : Prop := sees [101, 108, 115, 101] r = false
theorem Jw {x y : List UInt8} (h : ¬ y = x) (r : List Tok) : sees x (wd y :: r) = false := by rw [R2, decide_eq_false h]
theorem K9 (x : List UInt8) (r : List Tok) : sees x (wd x :: r) = true := by rw [R2, decide_eq_true rfl]
variable {E : Pt} {n : Nat}
theorem b80 {ln cl : Nat} {tx : List UInt8} {it ie : Inf} {kt ke : Fo} (hT : Gs (Cz n) (TK it kt) (BE it kt) (DP it kt) Any) (hE : Gs E (TK ie ke) (BE ie ke) (DP ie ke) Np) :
  Gs (a1d E n) (TK ⟨7, ln, cl, 0, tx⟩ (.cons it kt (.cons ie ke .nil))) (BE ⟨7, ln, cl, 0, tx⟩ (.cons it kt (.cons ie ke .nil))) (DP ⟨7, ln, cl, 0, tx⟩ (.cons it kt (.cons ie ke .nil))) Any := by
 have h5 := Hx hE (a4u (Hj [59])) (fun r _ => Hl (.inl rfl) r);have h4 := Hx (Hj [61]) h5 (fun _ _ => trivial);have h3 := Hx hT h4 (fun _ _ => trivial);have h2 := Hx (Hj [58]) h3 (fun _ _ => trivial);have h1 := Hx (Sp (t := nmT tx) (k := 1) rfl) h2 (fun _ _ => trivial);refine (Ig (mk := mkY 7) (i := ⟨7, 0, 0, 0, tx⟩) (Gq (wd [118, 97, 114]) h1) (fun r _ => rfl)).cast ?_ rfl ?_
 ·show _ = [wd [118, 97, 114], nmT tx, sg [58]] ++ TK it kt ++ [sg [61]] ++ TK ie ke ++ [sg [59]];simp
 ·show _ = max (DP it kt) (DP ie ke);omega
theorem a9b {ln cl : Nat} {ie ib : Inf} {ke kb : Fo} {B : Pt} (hE : Gs E (TK ie ke) (BE ie ke) (DP ie ke) Np) (hB : Gs B (TK ib kb) (BE ib kb) (DP ib kb) Any) (hb : ∃ q, TK ib kb = sg [123] :: q) :
  Gs (Cd 10 [E, B]) (TK ⟨10, ln, cl, 0, []⟩ (.cons ie ke (.cons ib kb .nil))) (BE ⟨10, ln, cl, 0, []⟩ (.cons ie ke (.cons ib kb .nil))) (DP ⟨10, ln, cl, 0, []⟩ (.cons ie ke (.cons ib kb .nil))) Any := by
 have h := Pv hE hB (fun r _ => by obtain ⟨q, e⟩ := hb; rw [e]; exact Hl (.inr (.inr rfl)) _);refine (Ig (mk := mkK 10) (i := ⟨10, 0, 0, 0, []⟩) (Gq (wd [119, 104, 105, 108, 101]) h) (fun r _ => rfl)).cast ?_ rfl rfl;show _ = [wd [119, 104, 105, 108, 101]] ++ TK ie ke ++ TK ib kb;simp
theorem a9e {ln cl : Nat} {ie : Inf} {ke : Fo} (hE : Gs E (TK ie ke) (BE ie ke) (DP ie ke) Np) :
  Gs (Cd 12 [E, take [59]]) (TK ⟨12, ln, cl, 0, []⟩ (.cons ie ke .nil)) (BE ⟨12, ln, cl, 0, []⟩ (.cons ie ke .nil)) (DP ⟨12, ln, cl, 0, []⟩ (.cons ie ke .nil)) Any := by
 have h := Pv hE (Hj [59]) (fun r _ => Hl (.inl rfl) r);refine (Ig (mk := mkK 12) (i := ⟨12, 0, 0, 0, []⟩) (Gq (wd [112, 114, 105, 110, 116]) h) (fun r _ => rfl)).cast ?_ rfl ?_
 ·show _ = [wd [112, 114, 105, 110, 116]] ++ TK ie ke ++ [sg [59]];simp
 ·show _ = DP ie ke;omega
theorem a0t {ln cl : Nat} : Gs (Cd 11 [Gb E, take [59]]) (TK ⟨11, ln, cl, 0, []⟩ .nil) (BE ⟨11, ln, cl, 0, []⟩ .nil) (DP ⟨11, ln, cl, 0, []⟩ .nil) Any := by
 have h0 : Gs (Gb E) [] .nil 0 (Sgn [59]) := Hi (Ks _) (fun r hr => by obtain ⟨q, rfl⟩ := hr; show sees [59] (sg [59] :: q) = true; rw [A6]; rfl);have h := Pv h0 (Hj [59]) (fun r _ => ⟨r, rfl⟩);exact (Ig (mk := mkK 11) (i := ⟨11, 0, 0, 0, []⟩) (Gq (wd [114, 101, 116, 117, 114, 110]) h) (fun r _ => rfl)).cast rfl rfl rfl
theorem a0s {ln cl : Nat} {ie : Inf} {ke : Fo} (hE : Gs E (TK ie ke) (BE ie ke) (DP ie ke) Np) (h59 : ∀ r, sees [59] (TK ie ke ++ r) = false) :
  Gs (Cd 11 [Gb E, take [59]]) (TK ⟨11, ln, cl, 0, []⟩ (.cons ie ke .nil)) (BE ⟨11, ln, cl, 0, []⟩ (.cons ie ke .nil)) (DP ⟨11, ln, cl, 0, []⟩ (.cons ie ke .nil)) Any := by
 have h0 : Gs (Gb E) (TK ie ke) (BE ie ke) (DP ie ke) Np := Ck hE (fun r _ => h59 r);have h := Pv h0 (Hj [59]) (fun r _ => Hl (.inl rfl) r);refine (Ig (mk := mkK 11) (i := ⟨11, 0, 0, 0, []⟩) (Gq (wd [114, 101, 116, 117, 114, 110]) h) (fun r _ => rfl)).cast ?_ rfl ?_
 ·show _ = [wd [114, 101, 116, 117, 114, 110]] ++ TK ie ke ++ [sg [59]];simp
 ·show _ = DP ie ke;omega
theorem b83 {ln cl : Nat} {ie ib : Inf} {ke kb : Fo} {B : Pt} (hE : Gs E (TK ie ke) (BE ie ke) (DP ie ke) Np) (hB : Gs B (TK ib kb) (BE ib kb) (DP ib kb) Any) (hb : ∃ q, TK ib kb = sg [123] :: q) :
  Gs (Cd 9 [E, B, Ng B]) (TK ⟨9, ln, cl, 0, []⟩ (.cons ie ke (.cons ib kb .nil))) (BE ⟨9, ln, cl, 0, []⟩ (.cons ie ke (.cons ib kb .nil))) (DP ⟨9, ln, cl, 0, []⟩ (.cons ie ke (.cons ib kb .nil))) b6f := by
 have h0 : Gs (Ng B) [] .nil 0 b6f := Ck (Ks _) (fun r hr => hr);have h := W0 hE hB h0 (fun r _ => by obtain ⟨q, e⟩ := hb; rw [e]; exact Hl (.inr (.inr rfl)) _) (fun _ _ => trivial) (fun r _ => by obtain ⟨q, e⟩ := hb; rw [e]; exact Hl (.inr (.inr rfl)) _);refine (Ig (mk := mkK 9) (i := ⟨9, 0, 0, 0, []⟩) (Gq (wd [105, 102]) h) (fun r _ => rfl)).cast ?_ rfl rfl;show _ = [wd [105, 102]] ++ TK ie ke ++ TK ib kb ++ [];simp
theorem b82 {ln cl : Nat} {ie ib ic : Inf} {ke kb kc : Fo} {B : Pt} (hE : Gs E (TK ie ke) (BE ie ke) (DP ie ke) Np) (hB : Gs B (TK ib kb) (BE ib kb) (DP ib kb) Any) (hC : Gs B (TK ic kc) (BE ic kc) (DP ic kc) Any) (hb : ∃ q, TK ib kb = sg [123] :: q) :
  Gs (Cd 9 [E, B, Ng B]) (TK ⟨9, ln, cl, 0, []⟩ (.cons ie ke (.cons ib kb (.cons ic kc .nil)))) (BE ⟨9, ln, cl, 0, []⟩ (.cons ie ke (.cons ib kb (.cons ic kc .nil)))) (DP ⟨9, ln, cl, 0, []⟩ (.cons ie ke (.cons ib kb (.cons ic kc .nil)))) Any := by
 have h0 : Gs (Ng B) (wd [101, 108, 115, 101] :: TK ic kc) (BE ic kc) (DP ic kc) Any := Hi (Gq _ hC) (fun r _ => K9 _ _);have h := W0 hE hB h0 (fun r _ => by obtain ⟨q, e⟩ := hb; rw [e]; exact Hl (.inr (.inr rfl)) _) (fun _ _ => trivial) (fun r _ => by obtain ⟨q, e⟩ := hb; rw [e]; exact Hl (.inr (.inr rfl)) _);refine (Ig (mk := mkK 9) (i := ⟨9, 0, 0, 0, []⟩) (Gq (wd [105, 102]) h) (fun r _ => rfl)).cast ?_ rfl rfl;show _ = [wd [105, 102]] ++ TK ie ke ++ TK ib kb ++ ([wd [101, 108, 115, 101]] ++ TK ic kc);simp
end
section
variable {E : Pt} {n : Nat}
def Hd0 (T : List Tok) : Prop := ∀ r, (hd (T ++ r)).line = 0 ∧ (hd (T ++ r)).col = 0
theorem b8z {T : List Tok} (h : Hd0 T) (k : Nat) (r : List Tok) : mkK k (T ++ r) = ⟨k, 0, 0, 0, []⟩ := by
 unfold mkK;rw [(h r).1, (h r).2]
theorem a4t {ln cl : Nat} {it ie : Inf} {kt ke : Fo} (hT : Gs E (TK it kt) (BE it kt) (DP it kt) Np) (hk : it.kind = 26 ∨ it.kind = 28 ∨ it.kind = 29) (h0 : Hd0 (TK it kt)) (hE : Gs E (TK ie ke) (BE ie ke) (DP ie ke) Np) :
  Gs (L3 E) (TK ⟨8, ln, cl, 0, []⟩ (.cons it kt (.cons ie ke .nil))) (BE ⟨8, ln, cl, 0, []⟩ (.cons it kt (.cons ie ke .nil))) (DP ⟨8, ln, cl, 0, []⟩ (.cons it kt (.cons ie ke .nil))) Any := fun d r hd hr => by
 have h2 := Hx (Hj [61]) (Hx hE (Hj [59]) (fun r _ => Hl (.inl rfl) r)) (fun _ _ => trivial) d r hd hr;have h1 := hT d ([sg [61]] ++ (TK ie ke ++ [sg [59]]) ++ r) hd (Hl (.inr (.inl rfl)) _)
 have e : TK ⟨8, ln, cl, 0, []⟩ (.cons it kt (.cons ie ke .nil)) ++ r = TK it kt ++ ([sg [61]] ++ (TK ie ke ++ [sg [59]]) ++ r) := by
  show TK it kt ++ [sg [61]] ++ TK ie ke ++ [sg [59]] ++ r = _;simp
 rw [e];unfold L3;refine (h1.bind (X := .ok (BE ⟨8, ln, cl, 0, []⟩ (.cons it kt (.cons ie ke .nil))) r) (c := d + max 0 (max (DP ie ke) 0) ≤ 40) ?_).imp ?_
 ·rw [if_pos (show Hp (BE it kt) = 26 ∨ Hp (BE it kt) = 28 ∨ Hp (BE it kt) = 29 from hk), b8z h0];exact (h2.bind (X := .ok (BE ⟨8, ln, cl, 0, []⟩ (.cons it kt (.cons ie ke .nil))) r) (c := True) (CG.ok trivial)).imp (by simp)
 ·show d + DP it kt ≤ 40 ∧ d + max 0 (max (DP ie ke) 0) ≤ 40 ↔ d + max (DP it kt) (DP ie ke) ≤ 40;omega
theorem b4g {ln cl : Nat} {it : Inf} {kt : Fo} (hT : Gs E (TK it kt) (BE it kt) (DP it kt) Np) (hk : it.kind = 27) (h0 : Hd0 (TK it kt)) :
  Gs (L3 E) (TK ⟨13, ln, cl, 0, []⟩ (.cons it kt .nil)) (BE ⟨13, ln, cl, 0, []⟩ (.cons it kt .nil)) (DP ⟨13, ln, cl, 0, []⟩ (.cons it kt .nil)) Any := fun d r hd hr => by
 have h2 := Hj [59] d r hd hr;have h1 := hT d ([sg [59]] ++ r) hd (Hl (.inl rfl) _)
 have e : TK ⟨13, ln, cl, 0, []⟩ (.cons it kt .nil) ++ r = TK it kt ++ ([sg [59]] ++ r) := by
  show TK it kt ++ [sg [59]] ++ r = _;simp
 rw [e];unfold L3;refine (h1.bind (X := .ok (BE ⟨13, ln, cl, 0, []⟩ (.cons it kt .nil)) r) (c := d + 0 ≤ 40) ?_).imp ?_
 ·rw [if_neg (show ¬ (Hp (BE it kt) = 26 ∨ Hp (BE it kt) = 28 ∨ Hp (BE it kt) = 29) by show ¬ (it.kind = 26 ∨ it.kind = 28 ∨ it.kind = 29); omega), if_pos (show Hp (BE it kt) = 27 from hk), b8z h0];exact (h2.bind (X := .ok (BE ⟨13, ln, cl, 0, []⟩ (.cons it kt .nil)) r) (c := True) (CG.ok trivial)).imp (by simp)
 ·show d + DP it kt ≤ 40 ∧ d + 0 ≤ 40 ↔ d + DP it kt ≤ 40;omega
theorem Ym {k ln cl : Nat} {tx : List UInt8} {it : Inf} {kt : Fo} (hT : Gs (Cz n) (TK it kt) (BE it kt) (DP it kt) Any) :
  Gs (D7 k n) ([nmT tx, sg [58]] ++ TK it kt) (.cons ⟨k, 0, 0, 0, tx⟩ (BE it kt) .nil) (DP it kt) Any := by
 have h := W0 (Sp (t := nmT tx) (k := 1) rfl) (Hj [58]) hT (fun _ _ => trivial) (fun _ _ => trivial) (fun _ _ => trivial);refine (Ig (mk := mkX k) (i := ⟨k, 0, 0, 0, tx⟩) h (fun r _ => rfl)).cast ?_ rfl ?_
 ·simp
 ·omega
theorem a9f {ln cl : Nat} {tx : List UInt8} {it : Inf} {kt : Fo} (hT : Gs (Cz n) (TK it kt) (BE it kt) (DP it kt) Any) :
  Gs (D7 5 n) (TK ⟨5, ln, cl, 0, tx⟩ (.cons it kt .nil)) (BE ⟨5, ln, cl, 0, tx⟩ (.cons it kt .nil)) (DP ⟨5, ln, cl, 0, tx⟩ (.cons it kt .nil)) Any := Ym (ln := ln) (cl := cl) hT
theorem a9h {ln cl : Nat} {tx : List UInt8} {it : Inf} {kt : Fo} (hT : Gs (Cz n) (TK it kt) (BE it kt) (DP it kt) Any) :
  Gs (Hz n) (TK ⟨3, ln, cl, 0, tx⟩ (.cons it kt .nil)) (BE ⟨3, ln, cl, 0, tx⟩ (.cons it kt .nil)) (DP ⟨3, ln, cl, 0, tx⟩ (.cons it kt .nil)) Any :=
 (Hx (Ym (k := 3) (ln := ln) (cl := cl) (tx := tx) hT) (Hj [59]) (fun _ _ => trivial)).cast rfl rfl (by show max (DP it kt) 0 = DP it kt; omega)
theorem b81 {ln cl : Nat} {tx : List UInt8} {F : Fo} {m : Nat} {p : Pt} (hn : Fd F < m)
  (hA : Al (fun i k => Gs p (TK i k) (BE i k) (DP i k) Any ∧ ∀ r, sees [125] (TK i k ++ r) = false ∧ Any (TK i k ++ r)) F) :
  Gs (Bx (mkY 2) (Cf (Di (Eu 2) (Aq [123] [125] (Ci [125] p m))))) (TK ⟨2, ln, cl, 0, tx⟩ F) (BE ⟨2, ln, cl, 0, tx⟩ F) (DP ⟨2, ln, cl, 0, tx⟩ F) Any := by
 have h1 := Pu (o := [123]) (Yl (fun _ _ => trivial) F m hn hA);have h := Hx (Sp (t := bgT tx) (k := 2) rfl) h1 (fun _ _ => trivial);refine (Ig (mk := mkY 2) (i := ⟨2, 0, 0, 0, tx⟩) (Gq (wd [114, 101, 99]) h) (fun r _ => rfl)).cast ?_ rfl ?_
 ·show _ = [wd [114, 101, 99], bgT tx] ++ ([sg [123]] ++ I5 F ++ [sg [125]]);simp
 ·show _ = 1 + Iy (dpF F);omega
end
section
def Sm : List (List UInt8) := [[116, 114, 117, 101], [102, 97, 108, 115, 101], [110, 105, 108], [109, 97, 107, 101], [40], [45], [33]]
def Fst (t : Tok) : Prop := t.line = 0 ∧ t.col = 0 ∧ (t.kind = 6 ∨ t.kind = 7 → t.text ∈ Sm)
def Beg (T : List Tok) : Prop := ∃ t U, T = t :: U ∧ Fst t
theorem Beg.app {T : List Tok} (h : Beg T) (U : List Tok) : Beg (T ++ U) := by
 obtain ⟨t, V, rfl, h⟩ := h;exact ⟨t, V ++ U, rfl, h⟩
theorem a6d {L : Nat} {i : Inf} {k : Fo} (h : Beg (TK i k)) : Beg (BT L i k) := by
 by_cases hl : lvl i < L
 ·rw [Lh hl]; exact ⟨_, _, rfl, rfl, rfl, fun _ => by show [40] ∈ Sm; decide⟩
 ·rw [Fy hl]; exact h
theorem K5 (i : Inf) (T : List Tok) : Beg (b5x i :: T) := by
 refine ⟨_, _, rfl, ?_⟩;unfold b5x
 repeat' split
 ·exact ⟨rfl, rfl, fun h => by rcases h with h | h <;> cases h⟩
 ·exact ⟨rfl, rfl, fun h => by rcases h with h | h <;> cases h⟩
 ·exact ⟨rfl, rfl, fun h => by rcases h with h | h <;> cases h⟩
 ·exact ⟨rfl, rfl, fun _ => by show [102, 97, 108, 115, 101] ∈ Sm; decide⟩
 ·exact ⟨rfl, rfl, fun _ => by show [116, 114, 117, 101] ∈ Sm; decide⟩
 ·exact ⟨rfl, rfl, fun _ => by show [110, 105, 108] ∈ Sm; decide⟩
 ·exact ⟨rfl, rfl, fun h => by rcases h with h | h <;> cases h⟩
theorem b0n (x : List UInt8) (T : List Tok) : Beg (nmT x :: T) := ⟨_, _, rfl, rfl, rfl, fun h => by rcases h with h | h <;> cases h⟩
theorem b0o : ∀ s i k, k.cnt < s → Be i k = true → Am k = true → 21 ≤ i.kind → i.kind ≤ 32 → Beg (TK i k) := by
 intro s
 induction s with
 | zero => intro i k h; omega
 | succ s ih =>
  intro i k hs hg hG k1 k2;obtain ⟨ht, hm, ha⟩ := Bn hg;obtain ⟨kd, ln, cl, num, tx⟩ := i;simp only at ht hm ha k1 k2;have hk : kd = 21 ∨ kd = 22 ∨ kd = 23 ∨ kd = 24 ∨ kd = 25 ∨ kd = 26 ∨ kd = 27 ∨ kd = 28 ∨ kd = 29 ∨ kd = 30 ∨ kd = 31 ∨ kd = 32 := by omega
  rcases hk with rfl | rfl | rfl | rfl | rfl | rfl | rfl | rfl | rfl | rfl | rfl | rfl
  ·exact K5 _ _
  ·exact K5 _ _
  ·exact K5 _ _
  ·exact K5 _ _
  ·exact K5 _ _
  ·exact K5 _ _
  ·exact b0n _ _
  ·obtain ⟨ix, kx, iy, ky, rfl, ex, ey⟩ := fx2 (P := Ah) (Q := Ah) ha;rw [Ah, decide_eq_true_eq] at ex;rw [Am, Bool.and_eq_true, Bool.and_eq_true] at hG;have h := a6d (L := 8) (ih ix kx (by simp [Fo.cnt] at hs; omega) hG.1.1 hG.1.2 ex.1 ex.2);show Beg (BT 8 ix kx ++ [sg [91]] ++ TK iy ky ++ [sg [93]]);exact ((h.app _).app _).app _
  ·obtain ⟨ix, kx, rfl, ex⟩ := fx1 (P := Ah) ha;rw [Ah, decide_eq_true_eq] at ex;rw [Am, Bool.and_eq_true, Bool.and_eq_true] at hG;have h := a6d (L := 8) (ih ix kx (by simp [Fo.cnt] at hs; omega) hG.1.1 hG.1.2 ex.1 ex.2);show Beg (BT 8 ix kx ++ [sg [46], nmT tx]);exact h.app _
  ·have hm : decide (num = 12 ∨ num = 13) = true := hm;rw [decide_eq_true_eq] at hm;rcases hm with rfl | rfl
   ·exact ⟨sg [45], _, rfl, rfl, rfl, fun _ => by show [45] ∈ Sm; decide⟩
   ·exact ⟨sg [33], _, rfl, rfl, rfl, fun _ => by show [33] ∈ Sm; decide⟩
  ·obtain ⟨ix, kx, iy, ky, rfl, ex, ey⟩ := fx2 (P := Ah) (Q := Ah) ha;rw [Ah, decide_eq_true_eq] at ex;rw [Am, Bool.and_eq_true, Bool.and_eq_true] at hG;have h := a6d (L := D2 (opS num).2) (ih ix kx (by simp [Fo.cnt] at hs; omega) hG.1.1 hG.1.2 ex.1 ex.2);show Beg (BT (D2 (opS num).2) ix kx ++ [sg (opS num).1] ++ BT ((opS num).2 + 1) iy ky);exact (h.app _).app _
  ·exact ⟨wd [109, 97, 107, 101], _, rfl, rfl, rfl, fun _ => by show [109, 97, 107, 101] ∈ Sm; decide⟩
theorem a6c {T : List Tok} (h : Beg T) : Hd0 T := fun r => by
 obtain ⟨t, U, rfl, h1, h2, _⟩ := h;exact ⟨h1, h2⟩
theorem H6 {T : List Tok} (h : Beg T) {x : List UInt8} (hx : x ∉ Sm) (r : List Tok) : sees x (T ++ r) = false := by
 obtain ⟨t, U, rfl, _, _, h3⟩ := h;show decide ((t.kind = 6 ∨ t.kind = 7) ∧ t.text = x) = false;rw [decide_eq_false_iff_not];rintro ⟨h4, rfl⟩;exact hx (h3 h4)
end
section
theorem a9c (x : List UInt8) : Gs (take x) [wd x] .nil 0 Any := fun d r hd _ => by
 refine .inl ⟨hd, ?_⟩;unfold take Hr;show (if sees x (wd x :: r) = true then _ else _) = _;rw [K9, if_pos rfl];rfl
theorem a9g {p : Pt} : ∀ (F : Fo) n, F ≠ .nil → Fd F < n → Al (fun i k => Gs p (TK i k) (BE i k) (DP i k) Any) F → Gs (Gl p n) (Ao (tkF F)) (Ar F) (Iy (dpF F)) (Sgn [41]) := by
 intro F
 induction F with
 | nil => intro n h; exact absurd rfl h
 | cons i k r _ ihr =>
  intro n _ hn hA d q hd hq;simp only [Fd] at hn;obtain ⟨n, rfl⟩ : ∃ m, n = m + 1 := ⟨n - 1, by omega⟩;unfold Gl
  cases r with
  | nil =>
   obtain ⟨q, rfl⟩ := hq;have h1 := hA.1 d (sg [41] :: q) hd trivial;have e : Ao (tkF (.cons i k .nil)) = TK i k := by simp [tkF, Ao]
   rw [e];refine (h1.bind (X := .ok (Ar (.cons i k .nil)) (sg [41] :: q)) (c := True) ?_).imp ?_
   ·rw [A6, if_neg (by decide)];exact CG.ok trivial
   ·show d + DP i k ≤ 40 ∧ True ↔ d + max (DP i k) 0 ≤ 40
    simp
  | cons j m t =>
   have ih := ihr n (by simp) (by simp only [Fd] at hn ⊢; omega) hA.2 d q hd hq;have e : Ao (tkF (.cons i k (.cons j m t))) = TK i k ++ sg [44] :: Ao (tkF (.cons j m t)) := by simp [tkF, Ao]
   have h1 := hA.1 d (sg [44] :: (Ao (tkF (.cons j m t)) ++ q)) hd trivial;rw [e, List.append_assoc, List.cons_append];refine (h1.bind (X := .ok (Ar (.cons i k (.cons j m t))) q) (c := d + Iy (dpF (.cons j m t)) ≤ 40) ?_).imp ?_
   ·rw [A6, if_pos (by decide)];exact (ih.bind (f := fun G r' => Out.ok ((BE i k).app G) r') (X := .ok (Ar (.cons i k (.cons j m t))) q) (c := True) (CG.ok trivial)).imp (by simp)
   ·show d + DP i k ≤ 40 ∧ d + Iy (dpF (.cons j m t)) ≤ 40 ↔ d + max (DP i k) (Iy (dpF (.cons j m t))) ≤ 40;omega
end
section
theorem Y7 (k : Nat) (a b : List Nd) : K8 k (a ++ b) = K8 k a + K8 k b := by simp [K8, List.filter_append]
theorem U5 (k : Nat) (x : Nd) (l : List Nd) : K8 k (x :: l) = (if x.kind = k then 1 else 0) + K8 k l := by
 unfold K8;rw [List.filter_cons];by_cases h : x.kind = k
 ·simp [h]; omega
 ·simp [h]
theorem b6z : ∀ s F, F.cnt < s → Am F = true → (Ak F).all Ce = true → K8 5 (Ar F).post = 0 := by
 intro s
 induction s with
 | zero => intro F h; omega
 | succ s ih =>
  intro F hs hg hr
  cases F with
  | nil => rfl
  | cons i k r =>
   rw [Am, Bool.and_eq_true, Bool.and_eq_true] at hg;rw [Ak, List.all_cons, Bool.and_eq_true] at hr;rw [Fo.cnt] at hs;obtain ⟨_, _, ha⟩ := Bn hg.1.1;have hi := hr.1;rw [Ce, decide_eq_true_eq] at hi
   have hk : (Ak k).all Ce = true := by
    obtain ⟨kd, ln, cl, num, tx⟩ := i;simp only at hi ha;have : kd = 15 ∨ kd = 16 ∨ kd = 17 ∨ kd = 18 ∨ kd = 19 ∨ kd = 20 := by omega
    rcases this with rfl | rfl | rfl | rfl | rfl | rfl
    ·rw [fx0 (show Ag [] (Ak k) = true from ha)]; rfl
    ·rw [fx0 (show Ag [] (Ak k) = true from ha)]; rfl
    ·rw [fx0 (show Ag [] (Ak k) = true from ha)]; rfl
    ·rw [fx0 (show Ag [] (Ak k) = true from ha)]; rfl
    ·rw [fx0 (show Ag [] (Ak k) = true from ha)]; rfl
    ·obtain ⟨i1, k1, rfl, h1⟩ := fx1 (P := Ce) ha;show (Ce i1.kind && true) = true;rw [h1]; rfl
   show K8 5 ((Ar k).post ++ (D4 i).nd (Ar k).cnt :: (Ar r).post) = 0;rw [Y7, U5, ih k (by omega) hg.1.2 hk, ih r (by omega) hg.2 hr.2, if_neg (show ¬ ((D4 i).nd (Ar k).cnt).kind = 5 by show ¬ i.kind = 5; omega)]
theorem a3n (F : Fo) : Am F = true → (Ak F).all [5].contains = true → K8 5 (Ar F).post = Fd F := by
 induction F with
 | nil => intro _ _; rfl
 | cons i k r _ ih =>
  intro hg hr;rw [Am, Bool.and_eq_true, Bool.and_eq_true] at hg;rw [Ak, List.all_cons, Bool.and_eq_true] at hr;obtain ⟨_, _, ha⟩ := Bn hg.1.1;have hi : i.kind = 5 := by have := hr.1; simpa using this
  rw [hi] at ha;obtain ⟨i1, k1, rfl, h1⟩ := fx1 (P := Ce) ha;show K8 5 ((Ar (.cons i1 k1 .nil)).post ++ (D4 i).nd (Ar (.cons i1 k1 .nil)).cnt :: (Ar r).post) = Fd r + 1;rw [Y7, U5, b6z _ _ (Nat.lt_succ_self _) hg.1.2 (by show (Ce i1.kind && true) = true; rw [h1]; rfl), ih hg.2 hr.2, if_pos (show ((D4 i).nd (Ar (.cons i1 k1 .nil)).cnt).kind = 5 from hi)];omega
theorem a40 {P : Nat → Bool} {Q R : Nat → Bool} : ∀ (n : Nat) (k : Fo), n ≤ (Ak k).length → ((Ak k).take n).all P = true → Ag [Q, R] ((Ak k).drop n) = true →
  ∃ ps ir kr ib kb, k = ps.app (.cons ir kr (.cons ib kb .nil)) ∧ Fd ps = n ∧ (Ak ps).all P = true ∧ Q ir.kind = true ∧ R ib.kind = true
 | 0, k, _, _, h => by
  obtain ⟨i1, k1, i2, k2, rfl, h1, h2⟩ := fx2 (P := Q) (Q := R) h
  exact ⟨.nil, i1, k1, i2, k2, rfl, rfl, rfl, h1, h2⟩
 | n + 1, .nil, h, _, _ => by simp [Ak] at h
 | n + 1, .cons i k r, h, hp, hj => by
  simp only [Ak, List.length_cons, List.take_succ_cons, List.all_cons, Bool.and_eq_true, List.drop_succ_cons] at h hp hj;obtain ⟨ps, ir, kr, ib, kb, rfl, h1, h2, h3, h4⟩ := a40 n r (by omega) hp.2 hj;refine ⟨.cons i k ps, ir, kr, ib, kb, rfl, by simp [Fd, h1], ?_, h3, h4⟩;rw [Ak, List.all_cons, hp.1, h2]; rfl
theorem b2t (F G : Fo) : tkF (F.app G) = tkF F ++ tkF G := by
 induction F with
 | nil => rfl
 | cons i k r _ ih => simp [Fo.app, tkF, ih]
theorem b46 (F G : Fo) : dpF (F.app G) = dpF F ++ dpF G := by
 induction F with
 | nil => rfl
 | cons i k r _ ih => simp [Fo.app, dpF, ih]
theorem a6e (F G : Fo) : Ar (F.app G) = (Ar F).app (Ar G) := by
 induction F with
 | nil => rfl
 | cons i k r _ ih => simp [Fo.app, Ar, ih]
theorem b4i (F G : Fo) : Am (F.app G) = (Am F && Am G) := by
 induction F with
 | nil => rfl
 | cons i k r _ ih => simp [Fo.app, Am, ih, Bool.and_assoc]
theorem Vs (F : Fo) : (tkF F).length = Fd F := by
 induction F with
 | nil => rfl
 | cons i k r _ ih => simp [tkF, Fd, ih]
theorem W7 (F : Fo) : (dpF F).length = Fd F := by
 induction F with
 | nil => rfl
 | cons i k r _ ih => simp [dpF, Fd, ih]
theorem a4s {p : Pt} {F : Fo} {n : Nat} (hn : Fd F < n) (hA : Al (fun i k => Gs p (TK i k) (BE i k) (DP i k) Any ∧ ∃ t q, TK i k = t :: q ∧ t.kind ≠ 6 ∧ t.kind ≠ 7) F) : Gs (C2 p n) (Ao (tkF F)) (Ar F) (Iy (dpF F)) (Sgn [41]) := by
 have al : ∀ F, Al (fun i k => Gs p (TK i k) (BE i k) (DP i k) Any ∧ ∃ t q, TK i k = t :: q ∧ t.kind ≠ 6 ∧ t.kind ≠ 7) F → Al (fun i k => Gs p (TK i k) (BE i k) (DP i k) Any) F := fun F => by
  induction F with
  | nil => intro _; trivial
  | cons i k r _ ih => intro h; exact ⟨h.1.1, ih h.2⟩
 cases F with
 | nil => exact Hi (Ks _) (fun r hr => by obtain ⟨q, rfl⟩ := hr; show sees [41] (sg [41] :: q) = true; rw [A6]; rfl)
 | cons i k r =>
  obtain ⟨t, q, ht, hk⟩ := hA.1.2;refine Ck (a9g _ n (by simp) hn (al _ hA)) (fun u _ => ?_);show sees [41] (Ao (tkF (.cons i k r)) ++ u) = false;have : Ao (tkF (.cons i k r)) = TK i k ++ (tkF r).flatMap fun y => sg [44] :: y.2 := rfl
  rw [this, ht];exact Ja hk
theorem b64 {ln cl : Nat} {tx : List UInt8} {ir ib : Inf} {ps kr kb : Fo} : TK ⟨4, ln, cl, (Fd ps : Nat), tx⟩ (ps.app (.cons ir kr (.cons ib kb .nil))) = [wd [102, 110], nmT tx, sg [40]] ++ Ao (tkF ps) ++ [sg [41]] ++ (if ir.kind = 14 then [] else [sg [58]] ++ TK ir kr) ++ TK ib kb := by
 have hnt : ((Fd ps : Nat) : Int).toNat = Fd ps := Int.toNat_natCast _;show [wd [102, 110], nmT tx, sg [40]] ++ Ao ((tkF (ps.app (.cons ir kr (.cons ib kb .nil)))).take ((Fd ps : Nat) : Int).toNat) ++ [sg [41]] ++ (if (Ie (tkF (ps.app (.cons ir kr (.cons ib kb .nil)))) ((Fd ps : Nat) : Int).toNat).1.kind = 14 then [] else [sg [58]] ++ (Ie (tkF (ps.app (.cons ir kr (.cons ib kb .nil)))) ((Fd ps : Nat) : Int).toNat).2) ++ (Ie (tkF (ps.app (.cons ir kr (.cons ib kb .nil)))) (((Fd ps : Nat) : Int).toNat + 1)).2 = _;have k3 : Ie (tkF ps ++ [(ir, TK ir kr), (ib, TK ib kb)]) (Fd ps) = (ir, TK ir kr) := by rw [Ie, ← Vs, List.getD_eq_getElem?_getD, List.getElem?_append_right (Nat.le_refl _)]; simp
 have k4 : Ie (tkF ps ++ [(ir, TK ir kr), (ib, TK ib kb)]) (Fd ps + 1) = (ib, TK ib kb) := by rw [Ie, ← Vs, List.getD_eq_getElem?_getD, List.getElem?_append_right (by omega)]; simp
 have k5 : (tkF ps ++ [(ir, TK ir kr), (ib, TK ib kb)]).take (Fd ps) = tkF ps := by rw [← Vs, List.take_left]
 rw [hnt, b2t, show tkF (.cons ir kr (.cons ib kb .nil)) = [(ir, TK ir kr), (ib, TK ib kb)] from rfl, k3, k4, k5]
theorem b9p {ln cl : Nat} {tx : List UInt8} {ir ib : Inf} {ps kr kb : Fo} : DP ⟨4, ln, cl, (Fd ps : Nat), tx⟩ (ps.app (.cons ir kr (.cons ib kb .nil))) = max (1 + Iy (dpF ps)) (max (DP ir kr) (DP ib kb)) := by
 have hnt : ((Fd ps : Nat) : Int).toNat = Fd ps := Int.toNat_natCast _;show max (1 + Iy ((dpF (ps.app (.cons ir kr (.cons ib kb .nil)))).take ((Fd ps : Nat) : Int).toNat)) (max (Lp (dpF (ps.app (.cons ir kr (.cons ib kb .nil)))) ((Fd ps : Nat) : Int).toNat).2 (Lp (dpF (ps.app (.cons ir kr (.cons ib kb .nil)))) (((Fd ps : Nat) : Int).toNat + 1)).2) = _;have k3 : Lp (dpF ps ++ [(ir, DP ir kr), (ib, DP ib kb)]) (Fd ps) = (ir, DP ir kr) := by rw [Lp, ← W7, List.getD_eq_getElem?_getD, List.getElem?_append_right (Nat.le_refl _)]; simp
 have k4 : Lp (dpF ps ++ [(ir, DP ir kr), (ib, DP ib kb)]) (Fd ps + 1) = (ib, DP ib kb) := by rw [Lp, ← W7, List.getD_eq_getElem?_getD, List.getElem?_append_right (by omega)]; simp
 have k5 : (dpF ps ++ [(ir, DP ir kr), (ib, DP ib kb)]).take (Fd ps) = dpF ps := by rw [← W7, List.take_left]
 rw [hnt, b46, show dpF (.cons ir kr (.cons ib kb .nil)) = [(ir, DP ir kr), (ib, DP ib kb)] from rfl, k3, k4, k5]
theorem c1d {i ir ib : Inf} {ps kr kb : Fo} {n : Nat} (hi : i.kind = 4) (hnum : i.num = (Fd ps : Nat)) (hps : Am ps = true) (hrt : (Ak ps).all [5].contains = true) (hn : Fd ps < n)
  (hP : Al (fun i k => Gs (D7 5 n) (TK i k) (BE i k) (DP i k) Any ∧ ∃ t q, TK i k = t :: q ∧ t.kind ≠ 6 ∧ t.kind ≠ 7) ps)
  (hR0 : ir.kind = 14 → BE ir kr = .cons ⟨14, 0, 0, 0, []⟩ .nil .nil) (hR : ir.kind ≠ 14 → Gs (Cz n) (TK ir kr) (BE ir kr) (DP ir kr) Any)
  (hB : Gs (D3 (K6 n) n) (TK ib kb) (BE ib kb) (DP ib kb) Any) (hb : ∃ q, TK ib kb = sg [123] :: q) :
  Gs (fnP n) (TK i (ps.app (.cons ir kr (.cons ib kb .nil)))) (BE i (ps.app (.cons ir kr (.cons ib kb .nil)))) (DP i (ps.app (.cons ir kr (.cons ib kb .nil)))) Any := by
 obtain ⟨kd, ln, cl, num, tx⟩ := i;simp only at hi hnum;subst hi hnum;have hnt : ((Fd ps : Nat) : Int).toNat = Fd ps := Int.toNat_natCast _;obtain ⟨TR, hTR⟩ : ∃ T, T = if ir.kind = 14 then [] else [sg [58]] ++ TK ir kr := ⟨_, rfl⟩;have eT := @b64 ln cl tx ir ib ps kr kb;rw [← hTR] at eT;have eD := @b9p ln cl tx ir ib ps kr kb;rw [eT, eD]
 have hD0 : ir.kind = 14 → DP ir kr = 0 := fun h => by
  obtain ⟨a, b, c, d, e⟩ := ir;simp only at h;subst h; rfl
 have hres : Gs (Es n) TR (BE ir kr) (DP ir kr) (Sgn [123]) := fun d r hd hr => by
  unfold Es;by_cases h14 : ir.kind = 14
  ·obtain ⟨q, rfl⟩ := hr;rw [hTR, if_pos h14, List.nil_append, A6, if_neg (by decide), hR0 h14, hD0 h14];exact .inl ⟨hd, rfl⟩
  ·rw [hTR, if_neg h14];show CG (if sees [58] (sg [58] :: (TK ir kr ++ r)) = true then _ else _) _ _;rw [A6, if_pos (by decide)];exact hR h14 d r hd trivial
 have h2 := Hx (Sp (t := nmT tx) (k := 1) rfl) (Pu (o := [40]) (a4s hn hP)) (fun _ _ => trivial);have h3 := Hx hres hB (fun r _ => by obtain ⟨q, e⟩ := hb; rw [e]; exact ⟨_, rfl⟩);intro d r hd hr;have e : [wd [102, 110], nmT tx, sg [40]] ++ Ao (tkF ps) ++ [sg [41]] ++ TR ++ TK ib kb ++ r = [wd [102, 110]] ++ ([nmT tx] ++ sg [40] :: (Ao (tkF ps) ++ [sg [41]]) ++ ((TR ++ TK ib kb) ++ r)) := by simp
 rw [e];have g1 := a9c [102, 110] d ([nmT tx] ++ sg [40] :: (Ao (tkF ps) ++ [sg [41]]) ++ ((TR ++ TK ib kb) ++ r)) hd trivial;have g2 := h2 d ((TR ++ TK ib kb) ++ r) hd trivial;have g3 := h3 d r hd hr;have hcnt : K8 5 (Fo.app .nil (Ar ps)).post = Fd ps := a3n ps hps hrt;unfold fnP;refine (g1.bind (X := .ok (BE ⟨4, ln, cl, (Fd ps : Nat), tx⟩ (ps.app (.cons ir kr (.cons ib kb .nil)))) r) (c := d + max 0 (1 + Iy (dpF ps)) ≤ 40 ∧ d + max (DP ir kr) (DP ib kb) ≤ 40) ?_).imp (by omega);refine g2.bind (c := d + max (DP ir kr) (DP ib kb) ≤ 40) ?_;refine (g3.bind (X := .ok (BE ⟨4, ln, cl, (Fd ps : Nat), tx⟩ (ps.app (.cons ir kr (.cons ib kb .nil)))) r) (c := True) (CG.to (CG.ok trivial) ?_)).imp (by simp);rw [hcnt];show Out.ok (.cons ⟨4, 0, 0, (Fd ps : Nat), tx⟩ ((Ar ps).app ((BE ir kr).app (BE ib kb))) .nil) r = _;unfold BE;rw [a6e];rfl
end
section
theorem a6j {P : Nat → Bool} {R : Inf → Fo → Prop} : ∀ F, Am F = true → (Ak F).all P = true → (∀ i k, k.cnt < F.cnt → Be i k = true → Am k = true → P i.kind = true → (TK i k).length ≤ (I5 F).length → R i k) → Al R F := fun F => by
 induction F with
 | nil => intro _ _ _; trivial
 | cons i k r _ ih =>
  intro hg hr h;rw [Am, Bool.and_eq_true, Bool.and_eq_true] at hg;rw [Ak, List.all_cons, Bool.and_eq_true] at hr;refine ⟨h i k (by rw [Fo.cnt]; omega) hg.1.1 hg.1.2 hr.1 (by rw [G0, List.length_append]; omega), ih hg.2 hr.2 fun j m a b c d e => h j m (by rw [Fo.cnt]; omega) b c d (by rw [G0, List.length_append]; omega)⟩
theorem Ru (F : Fo) : Al (fun i k => 1 ≤ (TK i k).length) F → Fd F ≤ (I5 F).length := by
 induction F with
 | nil => intro _; exact Nat.zero_le _
 | cons i k r _ ih =>
  intro h;have := ih h.2;have := h.1;rw [G0, List.length_append, Fd];omega
theorem Al.imp {P Q : Inf → Fo → Prop} : ∀ {F}, Al P F → (∀ i k, P i k → Q i k) → Al Q F := fun {F} => by
 induction F with
 | nil => intro _ _; trivial
 | cons i k r _ ih => intro h f; exact ⟨f _ _ h.1, ih h.2 f⟩
theorem c6 {k : Nat} (h : [6].contains k = true) : k = 6 := by simpa using h
theorem U9 {ib : Inf} {kb : Fo} (h : ib.kind = 6) : TK ib kb = sg [123] :: (I5 kb ++ [sg [125]]) := by
 obtain ⟨kd, ln, cl, num, tx⟩ := ib;simp only at h;subst h;show [sg [123]] ++ I5 kb ++ [sg [125]] = _;simp
def Nx (i : Inf) (k : Fo) : Prop := ∀ r, sees [125] (TK i k ++ r) = false ∧ b6f (TK i k ++ r)
def Sk (i : Inf) (k : Fo) : Prop := (∀ n, (TK i k).length < n → Gs (K6 n) (TK i k) (BE i k) (DP i k) b6f) ∧ Nx i k ∧ 1 ≤ (TK i k).length
theorem Py {s : Nat} (ih : ∀ i k, k.cnt < s → Be i k = true → Am k = true → Cq i.kind = true → Sk i k) {ib : Inf} {kb : Fo} (hk : ib.kind = 6) (hg : Be ib kb = true) (hG : Am kb = true) (hc : kb.cnt ≤ s) {n : Nat} (hn : (TK ib kb).length < n + 2) : Gs (D3 (K6 n) n) (TK ib kb) (BE ib kb) (DP ib kb) Any := by
 obtain ⟨ht, hm, ha⟩ := Bn hg;rw [hk] at ht hm ha;have e1 : ib.text = [] := by simpa [Dm] using ht
 have e2 : ib.num = 0 := by simpa [Cr] using hm
 have hl : (TK ib kb).length = (I5 kb).length + 2 := by rw [U9 hk]; simp
 have ha : (Ak kb).all Cq = true := ha;have al : Al Sk kb := a6j kb hG ha fun i k a b c d _ => ih i k (by omega) b c d
 have al2 : Al (fun i k => Sk i k ∧ (TK i k).length ≤ (I5 kb).length) kb := a6j kb hG ha fun i k a b c d e => ⟨ih i k (by omega) b c d, e⟩
 have ht := Ru kb (al.imp fun i k h => h.2.2)
 exact a9i ⟨hk, e2, e1⟩ (fun r hr => by obtain ⟨q, rfl⟩ := hr; show sees _ (sg [125] :: q) = false; rw [A6]; rfl) (by omega)
  (al2.imp fun i k h => ⟨h.1.1 n (by have := h.2; omega), h.1.2.1⟩)
theorem Jm {p : Pt} {T : List Tok} {F : Fo} {D : Nat} (h : Gs p T F D Any) : Gs p T F D b6f := h.weak fun _ _ => trivial
theorem Wj {i : Inf} {k : Fo} {w : List UInt8} {q : List Tok} (e : TK i k = wd w :: q) (h1 : ¬ w = [125]) (h2 : ¬ w = [101, 108, 115, 101]) : Nx i k := fun r => by
 rw [e];exact ⟨Jw h1 _, Jw h2 _⟩
theorem b1s {i : Inf} {k : Fo} (h : Beg (TK i k)) : Nx i k := fun r => ⟨H6 h (by decide) r, H6 h (by decide) r⟩
theorem Jf {i : Inf} {k : Fo} (hg : Be i k = true) (hG : Am k = true) (h : Ah i.kind = true) {n : Nat} (hn : (TK i k).length < n) : Gs (Bc n) (TK i k) (BE i k) (DP i k) Np := by
 rw [Ah, decide_eq_true_eq] at h;exact b4f hg hG h.1 h.2 hn
theorem So {i : Inf} {k : Fo} (hg : Be i k = true) (hG : Am k = true) (h : Ce i.kind = true) {n : Nat} (hn : (TK i k).length < n) : Gs (Cz n) (TK i k) (BE i k) (DP i k) Any := by
 rw [Ce, decide_eq_true_eq] at h;exact b4e hg hG h.1 h.2 hn
theorem Xh {i : Inf} {k : Fo} (hg : Be i k = true) (hG : Am k = true) (h : Ah i.kind = true) : Beg (TK i k) := by
 rw [Ah, decide_eq_true_eq] at h;exact b0o _ i k (Nat.lt_succ_self _) hg hG h.1 h.2
theorem a6b {T : List Tok} (h : Beg T) : 1 ≤ T.length := by
 obtain ⟨t, U, rfl, _⟩ := h;simp
theorem a2c {E B : Pt} {n : Nat} {T : List Tok} {F : Fo} {D : Nat} (hb : Beg T) (h : Gs (L3 E) T F D Any) : Gs (Gg E B n) T F D b6f :=
 Jm (Ck (Ck (Ck (Ck (Ck h (fun r _ => H6 hb (by decide) r)) (fun r _ => H6 hb (by decide) r)) (fun r _ => H6 hb (by decide) r)) (fun r _ => H6 hb (by decide) r)) (fun r _ => H6 hb (by decide) r))
theorem b89 : ∀ s i k, k.cnt < s → Be i k = true → Am k = true → Cq i.kind = true → Sk i k := by
 intro s
 induction s with
 | zero => intro i k h; omega
 | succ s ih =>
  intro i k hs hg hG hk;obtain ⟨ht, hm, ha⟩ := Bn hg;obtain ⟨kd, ln, cl, num, tx⟩ := i;simp only at ht hm ha hk;rw [Cq, decide_eq_true_eq] at hk;have hk : kd = 7 ∨ kd = 8 ∨ kd = 9 ∨ kd = 10 ∨ kd = 11 ∨ kd = 12 ∨ kd = 13 := by omega
  rcases hk with rfl | rfl | rfl | rfl | rfl | rfl | rfl
  ·
   obtain ⟨it, kt, ie, ke, rfl, e1, e2⟩ := fx2 (P := Ce) (Q := Ah) ha;obtain rfl : num = 0 := by simpa [Cr] using hm
   simp only [Am, Bool.and_eq_true] at hG;have eT : TK ⟨7, ln, cl, 0, tx⟩ (.cons it kt (.cons ie ke .nil)) = wd [118, 97, 114] :: ([nmT tx, sg [58]] ++ TK it kt ++ [sg [61]] ++ TK ie ke ++ [sg [59]]) := rfl;refine ⟨fun n hn => ?_, Wj eT (by decide) (by decide), by rw [eT]; simp⟩;obtain ⟨n, rfl⟩ : ∃ m, n = m + 1 := ⟨n - 1, by omega⟩;have hl := hn;rw [eT] at hl;simp only [List.length_cons, List.length_append, List.length_nil] at hl;refine Jm (Hi (b80 (So hG.1.1 hG.1.2 e1 (by omega)) (Jf hG.2.1.1 hG.2.1.2 e2 (by omega))) (fun r _ => ?_));rw [eT]; exact K9 _ _
  ·
   obtain ⟨it, kt, ie, ke, rfl, e1, e2⟩ := fx2 (P := [26, 28, 29].contains) (Q := Ah) ha;obtain rfl : tx = [] := by simpa [Dm] using ht
   obtain rfl : num = 0 := by simpa [Cr] using hm
   simp only [Am, Bool.and_eq_true] at hG;have e1 : it.kind = 26 ∨ it.kind = 28 ∨ it.kind = 29 := by simpa using e1
   have e1' : Ah it.kind = true := by rw [Ah, decide_eq_true_eq]; omega
   have hb := Xh hG.1.1 hG.1.2 e1'
   have eT : TK ⟨8, ln, cl, 0, []⟩ (.cons it kt (.cons ie ke .nil)) = TK it kt ++ ([sg [61]] ++ (TK ie ke ++ [sg [59]])) := by
    show TK it kt ++ [sg [61]] ++ TK ie ke ++ [sg [59]] = _;simp
   have hb2 : Beg (TK ⟨8, ln, cl, 0, []⟩ (.cons it kt (.cons ie ke .nil))) := by rw [eT]; exact hb.app _
   refine ⟨fun n hn => ?_, b1s hb2, a6b hb2⟩;obtain ⟨n, rfl⟩ : ∃ m, n = m + 1 := ⟨n - 1, by omega⟩;have hl := hn;rw [eT] at hl;simp only [List.length_cons, List.length_append, List.length_nil] at hl;exact a2c hb2 (a4t (Jf hG.1.1 hG.1.2 e1' (by omega)) e1 (a6c hb) (Jf hG.2.1.1 hG.2.1.2 e2 (by omega)))
  ·
   obtain rfl : tx = [] := by simpa [Dm] using ht
   obtain rfl : num = 0 := by simpa [Cr] using hm
   have hA : (Ag [Ah, [6].contains] (Ak k) || Ag [Ah, [6].contains, [6].contains] (Ak k)) = true := ha;rw [Bool.or_eq_true] at hA;rcases hA with hA | hA
   ·obtain ⟨ie, ke, ib, kb, rfl, e1, e2⟩ := fx2 hA;have e2 := c6 e2;simp only [Am, Bool.and_eq_true] at hG;simp only [Fo.cnt] at hs;have eT : TK ⟨9, ln, cl, 0, []⟩ (.cons ie ke (.cons ib kb .nil)) = wd [105, 102] :: (TK ie ke ++ TK ib kb ++ []) := rfl;refine ⟨fun n hn => ?_, Wj eT (by decide) (by decide), by rw [eT]; simp⟩;obtain ⟨n, rfl⟩ : ∃ m, n = m + 1 := ⟨n - 1, by omega⟩;have hl := hn;rw [eT] at hl;simp only [List.length_cons, List.length_append, List.length_nil] at hl;refine Ck (Hi (b83 (Jf hG.1.1 hG.1.2 e1 (by omega)) (Py ih e2 hG.2.1.1 hG.2.1.2 (by omega) (by omega)) ⟨_, U9 e2⟩) (fun r _ => ?_)) (fun r _ => ?_)
    ·rw [eT]; exact K9 _ _
    ·rw [eT]; exact Jw (by decide) _
   ·obtain ⟨ie, ke, ib, kb, ic, kc, rfl, e1, e2, e3⟩ := fx3 hA;have e2 := c6 e2;have e3 := c6 e3;simp only [Am, Bool.and_eq_true] at hG;simp only [Fo.cnt] at hs;have eT : TK ⟨9, ln, cl, 0, []⟩ (.cons ie ke (.cons ib kb (.cons ic kc .nil))) = wd [105, 102] :: (TK ie ke ++ TK ib kb ++ ([wd [101, 108, 115, 101]] ++ TK ic kc)) := rfl;refine ⟨fun n hn => ?_, Wj eT (by decide) (by decide), by rw [eT]; simp⟩;obtain ⟨n, rfl⟩ : ∃ m, n = m + 1 := ⟨n - 1, by omega⟩;have hl := hn;rw [eT] at hl;simp only [List.length_cons, List.length_append, List.length_nil] at hl;refine Ck (Hi (Jm (b82 (Jf hG.1.1 hG.1.2 e1 (by omega)) (Py ih e2 hG.2.1.1 hG.2.1.2 (by omega) (by omega)) (Py ih e3 hG.2.2.1.1 hG.2.2.1.2 (by omega) (by omega)) ⟨_, U9 e2⟩)) (fun r _ => ?_)) (fun r _ => ?_)
    ·rw [eT]; exact K9 _ _
    ·rw [eT]; exact Jw (by decide) _
  ·
   obtain rfl : tx = [] := by simpa [Dm] using ht
   obtain rfl : num = 0 := by simpa [Cr] using hm
   obtain ⟨ie, ke, ib, kb, rfl, e1, e2⟩ := fx2 (P := Ah) (Q := [6].contains) ha;have e2 := c6 e2;simp only [Am, Bool.and_eq_true] at hG;simp only [Fo.cnt] at hs;have eT : TK ⟨10, ln, cl, 0, []⟩ (.cons ie ke (.cons ib kb .nil)) = wd [119, 104, 105, 108, 101] :: (TK ie ke ++ TK ib kb) := rfl;refine ⟨fun n hn => ?_, Wj eT (by decide) (by decide), by rw [eT]; simp⟩;obtain ⟨n, rfl⟩ : ∃ m, n = m + 1 := ⟨n - 1, by omega⟩;have hl := hn;rw [eT] at hl;simp only [List.length_cons, List.length_append, List.length_nil] at hl;refine Jm (Ck (Ck (Hi (a9b (Jf hG.1.1 hG.1.2 e1 (by omega)) (Py ih e2 hG.2.1.1 hG.2.1.2 (by omega) (by omega)) ⟨_, U9 e2⟩) (fun r _ => ?_)) (fun r _ => ?_)) (fun r _ => ?_))
   ·rw [eT]; exact K9 _ _
   ·rw [eT]; exact Jw (by decide) _
   ·rw [eT]; exact Jw (by decide) _
  ·
   obtain rfl : tx = [] := by simpa [Dm] using ht
   obtain rfl : num = 0 := by simpa [Cr] using hm
   have hA : (Ag [] (Ak k) || Ag [Ah] (Ak k)) = true := ha;rw [Bool.or_eq_true] at hA;rcases hA with hA | hA
   ·obtain rfl := fx0 hA;have eT : TK ⟨11, ln, cl, 0, []⟩ .nil = wd [114, 101, 116, 117, 114, 110] :: [sg [59]] := rfl;refine ⟨fun n hn => ?_, Wj eT (by decide) (by decide), by rw [eT]; simp⟩;obtain ⟨n, rfl⟩ : ∃ m, n = m + 1 := ⟨n - 1, by omega⟩;refine Jm (Ck (Ck (Ck (Hi a0t (fun r _ => ?_)) (fun r _ => ?_)) (fun r _ => ?_)) (fun r _ => ?_))
    ·rw [eT]; exact K9 _ _
    ·rw [eT]; exact Jw (by decide) _
    ·rw [eT]; exact Jw (by decide) _
    ·rw [eT]; exact Jw (by decide) _
   ·obtain ⟨ie, ke, rfl, e1⟩ := fx1 hA;simp only [Am, Bool.and_eq_true] at hG;have eT : TK ⟨11, ln, cl, 0, []⟩ (.cons ie ke .nil) = wd [114, 101, 116, 117, 114, 110] :: (TK ie ke ++ [sg [59]]) := rfl;refine ⟨fun n hn => ?_, Wj eT (by decide) (by decide), by rw [eT]; simp⟩;obtain ⟨n, rfl⟩ : ∃ m, n = m + 1 := ⟨n - 1, by omega⟩;have hl := hn;rw [eT] at hl;simp only [List.length_cons, List.length_append, List.length_nil] at hl;refine Jm (Ck (Ck (Ck (Hi (a0s (Jf hG.1.1 hG.1.2 e1 (by omega)) (H6 (Xh hG.1.1 hG.1.2 e1) (by decide))) (fun r _ => ?_)) (fun r _ => ?_)) (fun r _ => ?_)) (fun r _ => ?_))
    ·rw [eT]; exact K9 _ _
    ·rw [eT]; exact Jw (by decide) _
    ·rw [eT]; exact Jw (by decide) _
    ·rw [eT]; exact Jw (by decide) _
  ·
   obtain rfl : tx = [] := by simpa [Dm] using ht
   obtain rfl : num = 0 := by simpa [Cr] using hm
   obtain ⟨ie, ke, rfl, e1⟩ := fx1 (P := Ah) ha;simp only [Am, Bool.and_eq_true] at hG;have eT : TK ⟨12, ln, cl, 0, []⟩ (.cons ie ke .nil) = wd [112, 114, 105, 110, 116] :: (TK ie ke ++ [sg [59]]) := rfl;refine ⟨fun n hn => ?_, Wj eT (by decide) (by decide), by rw [eT]; simp⟩;obtain ⟨n, rfl⟩ : ∃ m, n = m + 1 := ⟨n - 1, by omega⟩;have hl := hn;rw [eT] at hl;simp only [List.length_cons, List.length_append, List.length_nil] at hl;refine Jm (Ck (Ck (Ck (Ck (Hi (a9e (Jf hG.1.1 hG.1.2 e1 (by omega))) (fun r _ => ?_)) (fun r _ => ?_)) (fun r _ => ?_)) (fun r _ => ?_)) (fun r _ => ?_))
   ·rw [eT]; exact K9 _ _
   ·rw [eT]; exact Jw (by decide) _
   ·rw [eT]; exact Jw (by decide) _
   ·rw [eT]; exact Jw (by decide) _
   ·rw [eT]; exact Jw (by decide) _
  ·
   obtain rfl : tx = [] := by simpa [Dm] using ht
   obtain rfl : num = 0 := by simpa [Cr] using hm
   obtain ⟨it, kt, rfl, e1⟩ := fx1 (P := [27].contains) ha;simp only [Am, Bool.and_eq_true] at hG;have e1 : it.kind = 27 := by simpa using e1
   have e1' : Ah it.kind = true := by rw [Ah, decide_eq_true_eq]; omega
   have hb := Xh hG.1.1 hG.1.2 e1';have eT : TK ⟨13, ln, cl, 0, []⟩ (.cons it kt .nil) = TK it kt ++ [sg [59]] := rfl;have hb2 : Beg (TK ⟨13, ln, cl, 0, []⟩ (.cons it kt .nil)) := by rw [eT]; exact hb.app _
   refine ⟨fun n hn => ?_, b1s hb2, a6b hb2⟩;obtain ⟨n, rfl⟩ : ∃ m, n = m + 1 := ⟨n - 1, by omega⟩;have hl := hn;rw [eT] at hl;simp only [List.length_cons, List.length_append, List.length_nil] at hl;exact a2c hb2 (b4g (Jf hG.1.1 hG.1.2 e1' (by omega)) e1 (a6c hb))
def Dk (n : Nat) (i : Inf) (k : Fo) : Prop := Gs (Gu n) (TK i k) (BE i k) (DP i k) Any ∧ (∀ r, (hd (TK i k ++ r)).kind ≠ 8) ∧ 1 ≤ (TK i k).length
theorem W4 (F : Fo) : (I5 F).length ≤ (Ao (tkF F)).length := by
 have h : ∀ l : List TT, (l.flatMap fun x => x.2).length ≤ (l.flatMap fun y => sg [44] :: y.2).length := fun l => by
  induction l with
  | nil => exact Nat.le_refl _
  | cons x l ih => simp only [List.flatMap_cons, List.length_append, List.length_cons]; omega
 cases F with
 | nil => exact Nat.le_refl _
 | cons i k r =>
  have := h (tkF r);show ((tkF (.cons i k r)).flatMap fun x => x.2).length ≤ (TK i k ++ (tkF r).flatMap fun y => sg [44] :: y.2).length;rw [List.length_append, show tkF (.cons i k r) = (i, TK i k) :: tkF r from rfl, List.flatMap_cons, List.length_append];simp only;omega
theorem b9c {i : Inf} {k : Fo} (hg : Be i k = true) (hG : Am k = true) (hk : [2, 4].contains i.kind = true) {n : Nat} (hn : (TK i k).length < n) : Dk n i k := by
 obtain ⟨ht, hm, ha⟩ := Bn hg;obtain ⟨kd, ln, cl, num, tx⟩ := i;simp only at ht hm ha hk;have hk : kd = 2 ∨ kd = 4 := by simpa using hk
 rcases hk with rfl | rfl
 ·obtain rfl : num = 0 := by simpa [Cr] using hm
  have ha : (Ak k).all [3].contains = true := ha;have eT : TK ⟨2, ln, cl, 0, tx⟩ k = wd [114, 101, 99] :: bgT tx :: ([sg [123]] ++ I5 k ++ [sg [125]]) := rfl;have hl := hn;rw [eT] at hl;simp only [List.length_cons, List.length_append, List.length_nil] at hl
  have al : Al (fun i m => (Gs (Hz n) (TK i m) (BE i m) (DP i m) Any ∧ ∀ r, sees [125] (TK i m ++ r) = false ∧ Any (TK i m ++ r)) ∧ 1 ≤ (TK i m).length) k := a6j k hG ha fun i m a b c d e => by
   obtain ⟨ht2, hm2, ha2⟩ := Bn b;obtain ⟨kd, ln, cl, num, tx⟩ := i;simp only at ht2 hm2 ha2 d;obtain rfl : kd = 3 := by simpa using d
   obtain rfl : num = 0 := by simpa [Cr] using hm2
   obtain ⟨it, kt, rfl, e1⟩ := fx1 (P := Ce) ha2;simp only [Am, Bool.and_eq_true] at c;have eF : TK ⟨3, ln, cl, 0, tx⟩ (.cons it kt .nil) = nmT tx :: (sg [58] :: TK it kt ++ [sg [59]]) := rfl;have hl2 := e;rw [eF] at hl2;simp only [List.length_cons, List.length_append, List.length_nil] at hl2;refine ⟨⟨a9h (So c.1.1 c.1.2 e1 (by omega)), fun r => ⟨?_, trivial⟩⟩, by rw [eF]; simp⟩;rw [eF];exact Ja ⟨by show (1 : Nat) ≠ 6; decide, by show (1 : Nat) ≠ 7; decide⟩
  have htop := Ru k (al.imp fun i m h => h.2);refine ⟨Hi (b81 (by omega) (al.imp fun i m h => h.1)) (fun r _ => by rw [eT]; exact K9 _ _), fun r => ?_, by rw [eT]; simp⟩;rw [eT];show (6 : Nat) ≠ 8;decide
 ·have hA : Jd num [5].contains (Ag [Gm, [6].contains]) (Ak k) = true := ha;rw [Jd, Bool.and_eq_true, Bool.and_eq_true, decide_eq_true_eq] at hA;obtain ⟨h1, h2, h3⟩ := hA;obtain ⟨ps, ir, kr, ib, kb, rfl, t1, t2, t3, t4⟩ := a40 (P := [5].contains) (Q := Gm) (R := [6].contains) num.toNat k (by omega) h2 h3;obtain rfl : num = (Fd ps : Nat) := by omega
  have t4 := c6 t4;rw [b4i, Bool.and_eq_true] at hG;obtain ⟨gP, gR⟩ := hG;simp only [Am, Bool.and_eq_true] at gR;have eT := @b64 ln cl tx ir ib ps kr kb;have hl := hn;rw [eT] at hl;simp only [List.length_cons, List.length_append, List.length_nil] at hl;have hfc := W4 ps
  have al : Al (fun i m => (Gs (D7 5 n) (TK i m) (BE i m) (DP i m) Any ∧ ∃ t q, TK i m = t :: q ∧ t.kind ≠ 6 ∧ t.kind ≠ 7) ∧ 1 ≤ (TK i m).length) ps := a6j ps gP t2 fun i m a b c d e => by
   obtain ⟨ht2, hm2, ha2⟩ := Bn b;obtain ⟨kd, ln, cl, num, tx⟩ := i;simp only at ht2 hm2 ha2 d;obtain rfl : kd = 5 := by simpa using d
   obtain rfl : num = 0 := by simpa [Cr] using hm2
   obtain ⟨it, kt, rfl, e1⟩ := fx1 (P := Ce) ha2;simp only [Am, Bool.and_eq_true] at c;have eF : TK ⟨5, ln, cl, 0, tx⟩ (.cons it kt .nil) = nmT tx :: (sg [58] :: TK it kt) := rfl;have hl2 := e;rw [eF] at hl2;simp only [List.length_cons, List.length_append, List.length_nil] at hl2;exact ⟨⟨a9f (So c.1.1 c.1.2 e1 (by omega)), _, _, eF, by show (1 : Nat) ≠ 6; decide, by show (1 : Nat) ≠ 7; decide⟩, by rw [eF]; simp⟩
  have htop := Ru ps (al.imp fun i m h => h.2)
  have hr0 : ir.kind = 14 → BE ir kr = .cons ⟨14, 0, 0, 0, []⟩ .nil .nil := fun h14 => by
   obtain ⟨q1, q2, q3⟩ := Bn gR.1.1;obtain ⟨kd, ln2, cl2, num2, tx2⟩ := ir;simp only at q1 q2 q3 h14;subst h14;obtain rfl : num2 = 0 := by simpa [Cr] using q2
   obtain rfl : tx2 = [] := by simpa [Dm] using q1
   obtain rfl := fx0 (show Ag [] (Ak kr) = true from q3);rfl
  have hr1 : ir.kind ≠ 14 → Gs (Cz n) (TK ir kr) (BE ir kr) (DP ir kr) Any := fun h14 => by
   rw [if_neg h14] at hl;simp only [List.length_cons, List.length_append, List.length_nil] at hl;refine So gR.1.1 gR.1.2 ?_ (by omega);rw [Gm, decide_eq_true_eq] at t3;rw [Ce, decide_eq_true_eq];omega
  have hb := Py (s := kb.cnt + 1) (fun i k a b c d => b89 _ i k a b c d) t4 gR.2.1.1 gR.2.1.2 (by omega) (n := n) (by omega);have hf := c1d (i := ⟨4, ln, cl, (Fd ps : Nat), tx⟩) rfl rfl gP t2 (by omega) (al.imp fun i m h => h.1) hr0 hr1 hb ⟨_, U9 t4⟩;refine ⟨Ck hf (fun r _ => by rw [eT]; exact Jw (by decide) _), fun r => ?_, by rw [eT]; simp⟩;rw [eT];show (6 : Nat) ≠ 8;decide
def c2d (r : List Tok) : Prop := (hd r).kind = 8
theorem a9d {p : Pt} : ∀ (F : Fo) n, Fd F < n → Al (fun i k => Gs p (TK i k) (BE i k) (DP i k) Any ∧ ∀ r, (hd (TK i k ++ r)).kind ≠ 8) F → Gs (He p n) (I5 F) (Ar F) (Iy (dpF F)) c2d := by
 intro F
 induction F with
 | nil =>
  intro n hn _ d r hd hr;obtain ⟨n, rfl⟩ : ∃ m, n = m + 1 := ⟨n - 1, by omega⟩;refine .inl ⟨hd, ?_⟩;unfold He;rw [if_pos (show (YtoaplbljflhheaaGreat.hd (I5 .nil ++ r)).kind = 8 from hr)]
  rfl
 | cons i k r _ ihr =>
  intro n hn hA d q hd hq;simp only [Fd] at hn;obtain ⟨n, rfl⟩ : ∃ m, n = m + 1 := ⟨n - 1, by omega⟩;have ih := ihr n (by omega) hA.2 d q hd hq;have h1 := hA.1.1 d (I5 r ++ q) hd trivial;rw [G0, List.append_assoc];unfold He;rw [if_neg (hA.1.2 _)];refine (h1.bind (X := .ok (Ar (.cons i k r)) q) (c := d + Iy (dpF r) ≤ 40) ?_).imp ?_
  ·exact (ih.bind (f := fun G r' => Out.ok ((BE i k).app G) r') (X := .ok (Ar (.cons i k r)) q) (c := True) (CG.ok trivial)).imp (by simp)
  ·show d + DP i k ≤ 40 ∧ d + Iy (dpF r) ≤ 40 ↔ d + max (DP i k) (Iy (dpF r)) ≤ 40;omega
theorem a3e {i : Inf} {k : Fo} (hi : i.kind = 1) : TK i k = I5 k ∧ DP i k = Iy (dpF k) := by
 obtain ⟨kd, ln, cl, num, tx⟩ := i;simp only at hi;subst hi;exact ⟨rfl, rfl⟩
theorem b9a {i : Inf} {k : Fo} (hg : Be i k = true) (hG : Am k = true) (hi : i.kind = 1) {n : Nat} (hn : (TK i k).length < n) (r : List Tok) (hr : c2d r) : CG (Fl n 0 (TK i k ++ r)) (.ok (.cons ⟨1, 1, 1, 0, []⟩ (Ar k) .nil) r) (DP i k ≤ 40) := by
 obtain ⟨ht, hm, ha⟩ := Bn hg;rw [hi] at ha;have ha : (Ak k).all [2, 4].contains = true := ha;rw [(a3e hi).1] at hn ⊢;rw [(a3e hi).2];have al : Al (Dk n) k := a6j k hG ha fun i m a b c d e => b9c b c d (by omega)
 have htop := Ru k (al.imp fun i m h => h.2.2);have h := a9d k n (by omega) (al.imp fun i m h => ⟨h.1, h.2.1⟩) 0 r (by omega) hr;unfold Fl;rw [Nat.zero_add] at h;exact (h.bind (f := fun F r => Out.ok (.cons ⟨1, 1, 1, 0, []⟩ F .nil) r) (X := .ok (.cons ⟨1, 1, 1, 0, []⟩ (Ar k) .nil) r) (c := True) (CG.ok trivial)).imp (by simp)
end
section
def D1 (P : Nat → Bool) (d : Nat) (F : Fo) (ts r : List Tok) : Prop := (∃ i k, F = .cons i k .nil ∧ Be i k = true ∧ Am k = true ∧ P i.kind = true ∧ d + DP i k ≤ 40) ∧ wF F + wL r ≤ wL ts ∧ WfL r
def D1P (P : Nat → Bool) (p : Pt) : Prop := ∀ d ts F r, d ≤ 40 → WfL ts → p d ts = .ok F r → D1 P d F ts r
def Dg (P : Nat → Bool) (d : Nat) (F : Fo) (ts r : List Tok) : Prop := (Am F = true ∧ (Ak F).all P = true ∧ d + Iy (dpF F) ≤ 40) ∧ wF F + wL r ≤ wL ts ∧ WfL r
def DgP (P : Nat → Bool) (p : Pt) : Prop := ∀ d ts F r, d ≤ 40 → WfL ts → p d ts = .ok F r → Dg P d F ts r
theorem D1.dg {P : Nat → Bool} {d : Nat} {F : Fo} {ts r : List Tok} (h : D1 P d F ts r) : Dg P d F ts r := by
 obtain ⟨⟨i, k, rfl, h1, h2, h3, h4⟩, h5⟩ := h;refine ⟨⟨?_, ?_, ?_⟩, h5⟩
 ·show (Be i k && Am k && true) = true;rw [h1, h2]; rfl
 ·show (P i.kind && true) = true;rw [h3]; rfl
 ·show d + max (DP i k) 0 ≤ 40;omega
theorem Dg.app {P : Nat → Bool} {d : Nat} {F G : Fo} {ts q r : List Tok} (h : Dg P d F ts q) (k : Dg P d G q r) : Dg P d (F.app G) ts r := by
 obtain ⟨⟨h1, h2, h3⟩, h4, h5⟩ := h;obtain ⟨⟨k1, k2, k3⟩, k4, k5⟩ := k;refine ⟨⟨?_, ?_, ?_⟩, ?_, k5⟩
 ·rw [Pw, h1, k1]; rfl
 ·rw [O9, List.all_append, h2, k2]; rfl
 ·rw [a5h, Ye]; omega
 ·rw [a1o]; omega
theorem Dg.wide {P : Nat → Bool} {d : Nat} {F : Fo} {us ts r : List Tok} (h : Dg P d F us r) (e : wL us ≤ wL ts) : Dg P d F ts r := ⟨h.1, by have := h.2.1; omega, h.2.2⟩
theorem a5k {P : Nat → Bool} {d : Nat} {ts : List Tok} (h40 : d ≤ 40) (hw : WfL ts) : Dg P d .nil ts ts := ⟨⟨rfl, rfl, h40⟩, by simp [wF], hw⟩
theorem I9 {a b : Pt} {d : Nat} {ts r : List Tok} {F : Fo} (e : Di a b d ts = .ok F r) : ∃ F1 q F2, a d ts = .ok F1 q ∧ b d q = .ok F2 r ∧ F = F1.app F2 := by
 obtain ⟨F1, q, e1, e2⟩ := Ad e;obtain ⟨F2, r2, e3, e4⟩ := Ad e2;cases e4;exact ⟨F1, q, F2, e1, e3, rfl⟩
theorem Qg {a : Pt} {d : Nat} {ts r : List Tok} {F : Fo} (e : Ba [a] d ts = .ok F r) : a d ts = .ok F r := by
 obtain ⟨F1, q, F2, e1, e2, rfl⟩ := I9 e;cases e2;rw [Jl]; exact e1
theorem Yi {k d : Nat} {ts r : List Tok} {F : Fo} (hk : k ≠ 0) (e : Eu k d ts = .ok F r) (hw : WfL ts) : F = .nil ∧ ∃ t, ts = t :: r ∧ t.kind = k ∧ WfT t ∧ 22 + 4 * t.text.length + wL r = wL ts ∧ WfL r := by
 unfold Eu Hr at e;split at e
 ·rename_i h;cases e;obtain ⟨t, l, rfl, h1, h2⟩ := a4n (of_decide_eq_true h) hk;exact ⟨rfl, t, rfl, h1, hw t (by simp), h2, Bg hw⟩
 ·cases e
theorem J8 {mk : List Tok → Inf} {p : Pt} {d : Nat} {ts r : List Tok} {F : Fo} (e : Bx mk p d ts = .ok F r) : ∃ G, p d ts = .ok G r ∧ F = .cons (mk ts) G .nil := by
 obtain ⟨F1, q, e1, e2⟩ := Ad e;cases e2;exact ⟨F1, e1, rfl⟩
theorem b5d (n : Nat) : D1P Ah (Bc n) := fun d ts F r h40 hw e => by
 obtain ⟨⟨i, k, rfl, hg, hD⟩, h⟩ := (c1o n).1 d ts F r h40 hw e;rw [a4x hg] at hD;exact ⟨⟨i, k, rfl, hg.1, hg.2.1, hg.exp, hD⟩, h⟩
theorem Xb (n : Nat) : D1P Ce (Cz n) := fun d ts F r h40 hw e => by
 obtain ⟨⟨i, k, rfl, hg, hD⟩, h⟩ := a5m n d ts F r h40 hw e;exact ⟨⟨i, k, rfl, hg.1, hg.2.1, by rw [Ce, decide_eq_true_eq]; exact hg.2.2, hD⟩, h⟩
theorem Sz {P : Nat → Bool} {p : Pt} (hp : D1P P p) (x : List UInt8) : ∀ n, DgP P (Ci x p n)
 | 0 => fun d ts F r _ _ e => by cases e
 | n + 1 => fun d ts F r h40 hw e => by
  unfold Ci at e;split at e
  ·cases e; exact a5k h40 hw
  ·obtain ⟨F1, q, e1, e2⟩ := Ad e;obtain ⟨F2, r2, e3, e4⟩ := Ad e2;cases e4;have h1 := (hp d ts F1 q h40 hw e1).dg;exact h1.app (Sz hp x n d q F2 _ h40 h1.2.2 e3)
theorem Y1 {P : Nat → Bool} {p : Pt} (hp : D1P P p) : ∀ n, DgP P (Gl p n)
 | 0 => fun d ts F r _ _ e => by cases e
 | n + 1 => fun d ts F r h40 hw e => by
  unfold Gl at e;obtain ⟨F1, q, e1, e2⟩ := Ad e;have h1 := (hp d ts F1 q h40 hw e1).dg;split at e2
  ·rename_i hs;obtain ⟨F2, r2, e3, e4⟩ := Ad e2;cases e4;exact h1.app ((Y1 hp n d _ F2 _ h40 (Bg h1.2.2) e3).wide (by have := Gh hs; omega))
  ·cases e2; exact h1
theorem a5l {P : Nat → Bool} {p : Pt} (hp : D1P P p) (n : Nat) : DgP P (C2 p n) := fun d ts F r h40 hw e => by
 unfold C2 Fq at e;split at e
 ·cases e; exact a5k h40 hw
 ·exact Y1 hp n d ts F r h40 hw e
theorem P4 {P : Nat → Bool} {o c : List UInt8} {p : Pt} (hp : DgP P p) {d : Nat} {ts r : List Tok} {F : Fo} (h40 : d ≤ 40) (hw : WfL ts) (e : Aq o c p d ts = .ok F r) : (Am F = true ∧ (Ak F).all P = true ∧ d + (1 + Iy (dpF F)) ≤ 40) ∧ 44 + wF F + wL r ≤ wL ts ∧ WfL r := by
 obtain ⟨q, q1, q2, q3, q4, q5⟩ := I7 e h40 hw;obtain ⟨⟨a1, a2, a3⟩, a4, a5⟩ := hp (d + 1) _ _ _ q1 q3 q2;obtain ⟨a6, a7⟩ := q5 a5;exact ⟨⟨a1, a2, by omega⟩, by omega, a7⟩
theorem Y6 {S : Pt} (h : D1P Cq S) (n : Nat) : D1P [6].contains (D3 S n) := fun d ts F r h40 hw e => by
 obtain ⟨G, e1, rfl⟩ := J8 e;obtain ⟨⟨a1, a2, a3⟩, a4, a5⟩ := P4 (Sz h _ n) h40 hw e1;refine ⟨⟨_, _, rfl, ?_, a1, rfl, a3⟩, ?_, a5⟩
 ·show (true && true && (Ak G).all Cq) = true;rw [a2]; rfl
 ·show 22 + 4 * 0 + wF G + 0 + wL r ≤ wL ts;omega
section
variable {E B : Pt} (hE : D1P Ah E) (hB : D1P [6].contains B) (n : Nat)
include hE
theorem c1l {d : Nat} {ts r : List Tok} {F : Fo} (h40 : d ≤ 40) (hw : WfL ts) (hs : sees [118, 97, 114] ts = true) (e : a1d E n d ts = .ok F r) : D1 Cq d F ts r := by
 have hsw := Gh hs;obtain ⟨G, e1, rfl⟩ := J8 e;obtain ⟨F1, q1, F2, f1, e2, rfl⟩ := I9 (show Di (Eu 1) (Ba [take [58], Cz n, take [61], E, take [59]]) d ts.tail = .ok G r from e1);obtain ⟨rfl, t, ht, k1, kw, k2, w1⟩ := Yi (by decide) f1 (Bg hw);obtain ⟨F3, q2, F4, f2, e3, rfl⟩ := I9 (show Di (take [58]) (Ba [Cz n, take [61], E, take [59]]) d q1 = .ok F2 r from e2);obtain ⟨rfl, u2, w2⟩ := Ir f2 w1;obtain ⟨F5, q3, F6, f3, e4, rfl⟩ := I9 (show Di (Cz n) (Ba [take [61], E, take [59]]) d q2 = .ok F4 r from e3);obtain ⟨⟨it, kt, rfl, t1, t2, t3, t4⟩, t5, w3⟩ := Xb n d _ _ _ h40 w2 f3;obtain ⟨F7, q4, F8, f4, e5, rfl⟩ := I9 (show Di (take [61]) (Ba [E, take [59]]) d q3 = .ok F6 r from e4);obtain ⟨rfl, u4, w4⟩ := Ir f4 w3;obtain ⟨F9, q5, F0, f5, e6, rfl⟩ := I9 (show Di E (Ba [take [59]]) d q4 = .ok F8 r from e5);obtain ⟨⟨ie, ke, rfl, x1, x2, x3, x4⟩, x5, w5⟩ := hE d _ _ _ h40 w4 f5;obtain ⟨rfl, u6, w6⟩ := Ir (Qg e6) w5;have hy : (mkY 7 ts).text = t.text := by show (YtoaplbljflhheaaGreat.hd ts.tail).text = _; rw [ht]; rfl
 refine ⟨⟨_, _, rfl, ?_, ?_, rfl, ?_⟩, ?_, w6⟩
 ·show (Ef (mkY 7 ts).text && true && Ag [Ce, Ah] [it.kind, ie.kind]) = true;rw [hy, kw.1 k1];simp [Ag, List.range, List.range.loop, t3, x3]
 ·show (Be it kt && Am kt && (Be ie ke && Am ke && true)) = true;rw [t1, t2, x1, x2]; rfl
 ·show d + max (DP it kt) (DP ie ke) ≤ 40;omega
 ·simp only [wF] at t5 x5;show 22 + 4 * (mkY 7 ts).text.length + ((22 + 4 * it.text.length) + wF kt + ((22 + 4 * ie.text.length) + wF ke + 0)) + 0 + wL r ≤ wL ts;rw [hy];omega
theorem b5b {d : Nat} {ts r : List Tok} {F : Fo} (h40 : d ≤ 40) (hw : WfL ts) (hs : sees [112, 114, 105, 110, 116] ts = true) (e : Cd 12 [E, take [59]] d ts = .ok F r) : D1 Cq d F ts r := by
 have hsw := Gh hs;obtain ⟨G, e1, rfl⟩ := J8 e;obtain ⟨F1, q1, F2, f1, e2, rfl⟩ := I9 (show Di E (Ba [take [59]]) d ts.tail = .ok G r from e1);obtain ⟨⟨ie, ke, rfl, x1, x2, x3, x4⟩, x5, w5⟩ := hE d _ _ _ h40 (Bg hw) f1;obtain ⟨rfl, u6, w6⟩ := Ir (Qg e2) w5;refine ⟨⟨_, _, rfl, ?_, ?_, rfl, x4⟩, ?_, w6⟩
 ·show (true && true && Ag [Ah] [ie.kind]) = true;simp [Ag, List.range, List.range.loop, x3]
 ·show (Be ie ke && Am ke && true) = true;rw [x1, x2]; rfl
 ·simp only [wF] at x5;show 22 + 4 * 0 + ((22 + 4 * ie.text.length) + wF ke + 0) + 0 + wL r ≤ wL ts;omega
theorem b0d {d : Nat} {ts r : List Tok} {F : Fo} (h40 : d ≤ 40) (hw : WfL ts) (hs : sees [114, 101, 116, 117, 114, 110] ts = true) (e : Cd 11 [Gb E, take [59]] d ts = .ok F r) : D1 Cq d F ts r := by
 have hsw := Gh hs;obtain ⟨G, e1, rfl⟩ := J8 e;obtain ⟨F1, q1, F2, f1, e2, rfl⟩ := I9 (show Di (Gb E) (Ba [take [59]]) d ts.tail = .ok G r from e1);unfold Gb Fq at f1;split at f1
 ·cases f1;obtain ⟨rfl, u6, w6⟩ := Ir (Qg e2) (Bg hw);refine ⟨⟨_, _, rfl, rfl, rfl, rfl, h40⟩, ?_, w6⟩;show 22 + 4 * 0 + 0 + 0 + wL r ≤ wL ts;omega
 ·obtain ⟨⟨ie, ke, rfl, x1, x2, x3, x4⟩, x5, w5⟩ := hE d _ _ _ h40 (Bg hw) f1;obtain ⟨rfl, u6, w6⟩ := Ir (Qg e2) w5;refine ⟨⟨_, _, rfl, ?_, ?_, rfl, x4⟩, ?_, w6⟩
  ·show (true && true && (Ag [] [ie.kind] || Ag [Ah] [ie.kind])) = true;simp [Ag, List.range, List.range.loop, x3]
  ·show (Be ie ke && Am ke && true) = true;rw [x1, x2]; rfl
  ·simp only [wF] at x5;show 22 + 4 * 0 + ((22 + 4 * ie.text.length) + wF ke + 0) + 0 + wL r ≤ wL ts;omega
theorem c1n {d : Nat} {ts r : List Tok} {F : Fo} (h40 : d ≤ 40) (hw : WfL ts) (e : L3 E d ts = .ok F r) : D1 Cq d F ts r := by
 obtain ⟨F1, q1, e1, e2⟩ := Ad e;obtain ⟨⟨it, kt, rfl, t1, t2, t3, t4⟩, t5, w3⟩ := hE d _ _ _ h40 hw e1;split at e2
 ·rename_i hk;have hk : it.kind = 26 ∨ it.kind = 28 ∨ it.kind = 29 := hk;obtain ⟨F2, r2, e3, e4⟩ := Ad e2;cases e4;obtain ⟨F7, q4, F8, f4, e5, rfl⟩ := I9 e3;obtain ⟨rfl, u4, w4⟩ := Ir f4 w3;obtain ⟨F9, q5, F0, f5, e6, rfl⟩ := I9 e5;obtain ⟨⟨ie, ke, rfl, x1, x2, x3, x4⟩, x5, w5⟩ := hE d _ _ _ h40 w4 f5;obtain ⟨rfl, u6, w6⟩ := Ir e6 w5;refine ⟨⟨_, _, rfl, ?_, ?_, rfl, ?_⟩, ?_, w6⟩
  ·show (true && true && Ag [[26, 28, 29].contains, Ah] [it.kind, ie.kind]) = true;rcases hk with h | h | h <;> rw [h] <;> simp [Ag, List.range, List.range.loop, x3]
  ·show (Be it kt && Am kt && (Be ie ke && Am ke && true)) = true;rw [t1, t2, x1, x2]; rfl
  ·show d + max (DP it kt) (DP ie ke) ≤ 40;omega
  ·simp only [wF] at t5 x5;show 22 + 4 * 0 + ((22 + 4 * it.text.length) + wF kt + ((22 + 4 * ie.text.length) + wF ke + 0)) + 0 + wL r ≤ wL ts;omega
 ·split at e2
  ·rename_i hk;have hk : it.kind = 27 := hk;obtain ⟨F2, r2, e3, e4⟩ := Ad e2;cases e4;obtain ⟨rfl, u4, w4⟩ := Ir e3 w3;refine ⟨⟨_, _, rfl, ?_, ?_, rfl, t4⟩, ?_, w4⟩
   ·show (true && true && Ag [[27].contains] [it.kind]) = true;rw [hk]; rfl
   ·show (Be it kt && Am kt && true) = true;rw [t1, t2]; rfl
   ·simp only [wF] at t5;show 22 + 4 * 0 + ((22 + 4 * it.text.length) + wF kt + 0) + 0 + wL r ≤ wL ts;omega
  ·cases e2
include hB
theorem b49 {d : Nat} {ts r : List Tok} {F : Fo} (h40 : d ≤ 40) (hw : WfL ts) (hs : sees [119, 104, 105, 108, 101] ts = true) (e : Cd 10 [E, B] d ts = .ok F r) : D1 Cq d F ts r := by
 have hsw := Gh hs;obtain ⟨G, e1, rfl⟩ := J8 e;obtain ⟨F1, q1, F2, f1, e2, rfl⟩ := I9 (show Di E (Ba [B]) d ts.tail = .ok G r from e1);obtain ⟨⟨ie, ke, rfl, x1, x2, x3, x4⟩, x5, w5⟩ := hE d _ _ _ h40 (Bg hw) f1;obtain ⟨⟨ib, kb, rfl, b1, b2, b3, b4⟩, b5, w6⟩ := hB d _ _ _ h40 w5 (Qg e2);have b3 := c6 b3;refine ⟨⟨_, _, rfl, ?_, ?_, rfl, ?_⟩, ?_, w6⟩
 ·show (true && true && Ag [Ah, [6].contains] [ie.kind, ib.kind]) = true;rw [b3];simp [Ag, List.range, List.range.loop, x3]
 ·show (Be ie ke && Am ke && (Be ib kb && Am kb && true)) = true;rw [x1, x2, b1, b2]; rfl
 ·show d + max (DP ie ke) (DP ib kb) ≤ 40;omega
 ·simp only [wF] at x5 b5;show 22 + 4 * 0 + ((22 + 4 * ie.text.length) + wF ke + ((22 + 4 * ib.text.length) + wF kb + 0)) + 0 + wL r ≤ wL ts;omega
theorem c27 {d : Nat} {ts r : List Tok} {F : Fo} (h40 : d ≤ 40) (hw : WfL ts) (hs : sees [105, 102] ts = true) (e : Cd 9 [E, B, Ng B] d ts = .ok F r) : D1 Cq d F ts r := by
 have hsw := Gh hs;obtain ⟨G, e1, rfl⟩ := J8 e;obtain ⟨F1, q1, F2, f1, e2, rfl⟩ := I9 (show Di E (Ba [B, Ng B]) d ts.tail = .ok G r from e1);obtain ⟨⟨ie, ke, rfl, x1, x2, x3, x4⟩, x5, w5⟩ := hE d _ _ _ h40 (Bg hw) f1;obtain ⟨F3, q2, F4, f2, e3, rfl⟩ := I9 (show Di B (Ba [Ng B]) d q1 = .ok F2 r from e2);obtain ⟨⟨ib, kb, rfl, b1, b2, b3, b4⟩, b5, w6⟩ := hB d _ _ _ h40 w5 f2;have b3 := c6 b3;have f3 := Qg e3;unfold Ng Fq at f3;split at f3
 ·rename_i hel;have hew := Gh hel;obtain ⟨⟨ic, kc, rfl, c1, c2, c3, c4⟩, c5, w7⟩ := hB d q2.tail _ _ h40 (Bg w6) f3;have c3 := c6 c3;refine ⟨⟨_, _, rfl, ?_, ?_, rfl, ?_⟩, ?_, w7⟩
  ·show (true && true && (Ag [Ah, [6].contains] [ie.kind, ib.kind, ic.kind] || Ag [Ah, [6].contains, [6].contains] [ie.kind, ib.kind, ic.kind])) = true;rw [b3, c3];simp [Ag, List.range, List.range.loop, x3]
  ·show (Be ie ke && Am ke && (Be ib kb && Am kb && (Be ic kc && Am kc && true))) = true;rw [x1, x2, b1, b2, c1, c2]; rfl
  ·show d + max (DP ie ke) (max (DP ib kb) (DP ic kc)) ≤ 40;omega
  ·simp only [wF] at x5 b5 c5;show 22 + 4 * 0 + ((22 + 4 * ie.text.length) + wF ke + ((22 + 4 * ib.text.length) + wF kb + ((22 + 4 * ic.text.length) + wF kc + 0))) + 0 + wL r ≤ wL ts;omega
 ·cases f3;refine ⟨⟨_, _, rfl, ?_, ?_, rfl, ?_⟩, ?_, w6⟩
  ·show (true && true && (Ag [Ah, [6].contains] [ie.kind, ib.kind] || Ag [Ah, [6].contains, [6].contains] [ie.kind, ib.kind])) = true;rw [b3];simp [Ag, List.range, List.range.loop, x3]
  ·show (Be ie ke && Am ke && (Be ib kb && Am kb && true)) = true;rw [x1, x2, b1, b2]; rfl
  ·show d + max (DP ie ke) (max (DP ib kb) 0) ≤ 40;omega
  ·simp only [wF] at x5 b5;show 22 + 4 * 0 + ((22 + 4 * ie.text.length) + wF ke + ((22 + 4 * ib.text.length) + wF kb + 0)) + 0 + wL r ≤ wL ts;omega
theorem a5o : D1P Cq (Gg E B n) := fun d ts F r h40 hw e => by
 unfold Gg at e;unfold Fq at e;split at e
 ·rename_i h; exact c1l hE n h40 hw h e
 ·split at e
  ·rename_i h; exact c27 hE hB h40 hw h e
  ·split at e
   ·rename_i h; exact b49 hE hB h40 hw h e
   ·split at e
    ·rename_i h; exact b0d hE h40 hw h e
    ·split at e
     ·rename_i h; exact b5b hE h40 hw h e
     ·exact c1n hE h40 hw e
end
theorem a5p : ∀ n, D1P Cq (K6 n)
 | 0 => fun d ts F r _ _ e => by cases e
 | n + 1 => a5o (b5d _) (Y6 (a5p n) n) _
theorem Y5 {k : Nat} (hk : k = 3 ∨ k = 5) (n : Nat) : D1P [k].contains (D7 k n) := fun d ts F r h40 hw e => by
 obtain ⟨G, e1, rfl⟩ := J8 e;obtain ⟨F1, q1, F2, f1, e2, rfl⟩ := I9 (show Di (Eu 1) (Ba [take [58], Cz n]) d ts = .ok G r from e1);obtain ⟨rfl, t, ht, k1, kw, k2, w1⟩ := Yi (by decide) f1 hw;obtain ⟨F3, q2, F4, f2, e3, rfl⟩ := I9 (show Di (take [58]) (Ba [Cz n]) d q1 = .ok F2 r from e2);obtain ⟨rfl, u2, w2⟩ := Ir f2 w1;obtain ⟨⟨it, kt, rfl, t1, t2, t3, t4⟩, t5, w3⟩ := Xb n d _ _ _ h40 w2 (Qg e3);have hy : (mkX k ts).text = t.text := by show (YtoaplbljflhheaaGreat.hd ts).text = _; rw [ht]; rfl
 have hN := kw.1 k1;rw [← hy] at hN;refine ⟨⟨_, _, rfl, ?_, ?_, ?_, ?_⟩, ?_, w3⟩
 ·rcases hk with rfl | rfl
  ·show (Ef (mkX 3 ts).text && true && Ag [Ce] [it.kind]) = true;rw [hN];simp [Ag, List.range, List.range.loop, t3]
  ·show (Ef (mkX 5 ts).text && true && Ag [Ce] [it.kind]) = true;rw [hN];simp [Ag, List.range, List.range.loop, t3]
 ·show (Be it kt && Am kt && true) = true;rw [t1, t2]; rfl
 ·show [k].contains k = true;simp
 ·rcases hk with rfl | rfl <;> exact t4
 ·simp only [wF] at t5;show 22 + 4 * (mkX k ts).text.length + ((22 + 4 * it.text.length) + wF kt + 0) + 0 + wL r ≤ wL ts;rw [hy];omega
theorem b0f (n : Nat) : D1P [3].contains (Hz n) := fun d ts F r h40 hw e => by
 obtain ⟨F1, q1, F2, f1, e2, rfl⟩ := I9 e;obtain ⟨h1, h2, h3⟩ := Y5 (.inl rfl) n d ts F1 q1 h40 hw f1;obtain ⟨rfl, u2, w2⟩ := Ir e2 h3;rw [Jl];exact ⟨h1, by omega, w2⟩
theorem b92 (n : Nat) {d : Nat} {ts r : List Tok} {F : Fo} (h40 : d ≤ 40) (hw : WfL ts) (hs : sees [114, 101, 99] ts = true) (e : a2z n d ts = .ok F r) : D1 [2, 4].contains d F ts r := by
 have hsw := Gh hs;obtain ⟨G, e1, rfl⟩ := J8 e;obtain ⟨F1, q1, F2, f1, e2, rfl⟩ := I9 (show Di (Eu 2) (Aq [123] [125] (Ci [125] (Hz n) n)) d ts.tail = .ok G r from e1);obtain ⟨rfl, t, ht, k1, kw, k2, w1⟩ := Yi (by decide) f1 (Bg hw);obtain ⟨⟨a1, a2, a3⟩, a4, a5⟩ := P4 (Sz (b0f n) _ n) h40 w1 e2;have hy : (mkY 2 ts).text = t.text := by show (YtoaplbljflhheaaGreat.hd ts.tail).text = _; rw [ht]; rfl
 refine ⟨⟨_, _, rfl, ?_, a1, rfl, a3⟩, ?_, a5⟩
 ·show (Gi (mkY 2 ts).text && true && (Ak F2).all [3].contains) = true;rw [hy, kw.2.1 k1, a2]; rfl
 ·show 22 + 4 * (mkY 2 ts).text.length + wF F2 + 0 + wL r ≤ wL ts;rw [hy];omega
theorem a2s (F : Fo) : (Ak F).length = Fd F := by
 induction F with
 | nil => rfl
 | cons i k r _ ih => simp [Ak, Fd, ih]
theorem c1p (n : Nat) {d : Nat} {ts r : List Tok} {F : Fo} (h40 : d ≤ 40) (hw : WfL ts) (e : fnP n d ts = .ok F r) : D1 [2, 4].contains d F ts r := by
 obtain ⟨F0, r0, e0, e1⟩ := Ad e;obtain ⟨rfl, u0, w0⟩ := Ir e0 hw;obtain ⟨F1, r1, e2, e3⟩ := Ad e1;obtain ⟨F2, r2, e4, e5⟩ := Ad e3;cases e5;obtain ⟨G1, q1, G2, f1, e6, rfl⟩ := I9 e2;obtain ⟨rfl, t, ht, k1, kw, k2, w1⟩ := Yi (by decide) f1 w0;obtain ⟨⟨a1, a2, a3⟩, a4, a5⟩ := P4 (a5l (Y5 (.inr rfl) n) n) h40 w1 e6;obtain ⟨G3, q2, G4, f3, e7, rfl⟩ := I9 e4
 have hres : (∃ i k, G3 = .cons i k .nil ∧ Be i k = true ∧ Am k = true ∧ Gm i.kind = true ∧ d + DP i k ≤ 40) ∧ wF G3 + wL q2 ≤ wL r1 + 22 ∧ WfL q2 := by
  unfold Es at f3;split at f3
  ·rename_i hs;have hsw := Gh hs;obtain ⟨⟨it, kt, rfl, t1, t2, t3, t4⟩, t5, w3⟩ := Xb n d _ _ _ h40 (Bg a5) f3;refine ⟨⟨it, kt, rfl, t1, t2, ?_, t4⟩, by omega, w3⟩;rw [Ce, decide_eq_true_eq] at t3;rw [Gm, decide_eq_true_eq];omega
  ·cases f3;refine ⟨⟨_, _, rfl, rfl, rfl, rfl, h40⟩, ?_, a5⟩;show 22 + 4 * 0 + 0 + 0 + wL r1 ≤ wL r1 + 22;omega
 obtain ⟨⟨ir, kr, rfl, r1', r2', r3, r4⟩, r5, w4⟩ := hres;obtain ⟨⟨ib, kb, rfl, b1, b2, b3, b4⟩, b5, w5⟩ := Y6 (a5p n) n d _ _ _ h40 w4 e7;have b3 := c6 b3
 have hcnt : K8 5 (Fo.app .nil G2).post = Fd G2 := by
  have := a3n G2 a1 a2;rw [← this];exact (Ro 5 _ _ (Nb G2)).symm
 have hD := @b9p (hd ts).line (hd ts).col (hd r0).text ir ib G2 kr kb;refine ⟨⟨_, _, rfl, ?_, ?_, rfl, ?_⟩, ?_, w5⟩
 ·rw [hcnt];have hN := kw.1 k1;have hy : (hd r0).text = t.text := by rw [ht]; rfl
  show (Ef (hd r0).text && true && Jd (Fd G2 : Nat) [5].contains (Ag [Gm, [6].contains]) (Ak (G2.app (.cons ir kr (.cons ib kb .nil))))) = true;rw [hy, hN, O9];unfold Jd;rw [Int.toNat_natCast, ← a2s, List.take_left, List.drop_left, a2];show (true && true && (decide _ && (true && Ag [Gm, [6].contains] [ir.kind, ib.kind]))) = true;rw [b3];simp [Ag, List.range, List.range.loop, r3, Ak];omega
 ·show Am (G2.app (.cons ir kr (.cons ib kb .nil))) = true;rw [Pw, a1];show (Be ir kr && Am kr && (Be ib kb && Am kb && true)) = true;rw [r1', r2', b1, b2]; rfl
 ·rw [hcnt];show d + DP ⟨4, (hd ts).line, (hd ts).col, (Fd G2 : Nat), (hd r0).text⟩ (G2.app (.cons ir kr (.cons ib kb .nil))) ≤ 40;rw [hD];omega
 ·simp only [wF] at r5 b5;have hy : (hd r0).text = t.text := by rw [ht]; rfl
  show 22 + 4 * (hd r0).text.length + wF (G2.app (.cons ir kr (.cons ib kb .nil))) + 0 + wL r ≤ wL ts;rw [hy, a1o];simp only [wF];omega
theorem b5e (n : Nat) : D1P [2, 4].contains (Gu n) := fun d ts F r h40 hw e => by
 unfold Gu Fq at e;split at e
 ·rename_i h; exact b92 n h40 hw h e
 ·exact c1p n h40 hw e
theorem Y0 {P : Nat → Bool} {p : Pt} (hp : D1P P p) : ∀ n, DgP P (He p n)
 | 0 => fun d ts F r _ _ e => by cases e
 | n + 1 => fun d ts F r h40 hw e => by
  unfold He at e;split at e
  ·cases e; exact a5k h40 hw
  ·obtain ⟨F1, q, e1, e2⟩ := Ad e;obtain ⟨F2, r2, e3, e4⟩ := Ad e2;cases e4;have h1 := (hp d ts F1 q h40 hw e1).dg;exact h1.app (Y0 hp n d q F2 _ h40 h1.2.2 e3)
def Gp (i : Inf) (k : Fo) : Prop := Be i k = true ∧ Am k = true ∧ i.kind = 1
theorem b12 (n : Nat) {ts r : List Tok} {F : Fo} (hw : WfL ts) (e : Fl n 0 ts = .ok F r) : ∃ i k, F = .cons i k .nil ∧ Gp i k ∧ DP i k ≤ 40 ∧ wF F + wL r ≤ wL ts + 22 := by
 obtain ⟨F1, q, e1, e2⟩ := Ad e;cases e2;obtain ⟨⟨a1, a2, a3⟩, a4, a5⟩ := Y0 (b5e n) n 0 ts F1 _ (by omega) hw e1;refine ⟨_, _, rfl, ⟨?_, a1, rfl⟩, ?_, ?_⟩
 ·show (true && true && (Ak F1).all [2, 4].contains) = true;rw [a2]; rfl
 ·show Iy (dpF F1) ≤ 40;omega
 ·show 22 + 4 * 0 + wF F1 + 0 + wL r ≤ wL ts + 22;omega
end
section
theorem a7t : ∀ n (m : List UInt8), m.length ≤ n → (Eb m).2.2 = true → (Eb m).1.length + 1 ≤ (Eb m).2.1 := by
 intro n
 induction n with
 | zero =>
  intro m hm h;obtain rfl : m = [] := List.eq_nil_of_length_eq_zero (by omega)
  simp [Eb, rb] at h
 | succ n ih =>
  intro m hm h;by_cases hq : m.head? = some 34
  ·rw [Gx m hq]; exact Nat.le_refl _
  ·by_cases hb : (rb m).2.2 = true
   ·have hs := Iu m hq hb;have hz := Lm m hb;have h1 := ih (m.drop (rb m).2.1) (by simp; omega) (by rw [hs] at h; exact h);rw [hs];simp only [List.length_cons];omega
   ·rw [Kl m hq (by simpa using hb)] at h;cases h
theorem a77 (l : List UInt8) (h : (Bb l).2.2 = true) : (Bb l).1.length ≤ (Bb l).2.1 := by
 obtain ⟨t, rfl⟩ := Tz l h;rw [M4] at h ⊢;have := a7t _ t (Nat.le_refl _) h;simp only;omega
theorem a8m (l : List UInt8) : ∀ c ∈ Wk l, dgt c = true := fun c hc => Xu dgt l c (List.mem_of_mem_drop hc)
theorem a3m {l : List UInt8} (h : ∀ c ∈ l, dgt c = true) : 0 ≤ Nm.parseN l := by
 have hn : Nm.negB l = false := by
  cases l with
  | nil => rfl
  | cons c t =>
   have := h c (by simp);unfold dgt at this;rw [Bool.and_eq_true, decide_eq_true_eq, decide_eq_true_eq] at this;unfold Nm.negB;show (c == 45) = false;rw [beq_eq_false_iff_ne];rintro rfl;exact absurd this.1 (by decide)
 unfold Nm.parseN;rw [hn];split
 ·split
  ·exact Int.le_refl _
  ·rw [if_neg (by decide)]; exact Int.natCast_nonneg _
 ·exact Int.le_refl _
theorem b1q (l : List UInt8) (a b : Nat) (hl : l ≠ []) (h : (one l).err = 0) : WfT ⟨(one l).kind, a, b, (one l).num, (one l).text⟩ ∧ (one l).text.length ≤ (one l).size := by
 unfold one at *;split at h
 ·rename_i h1;rw [if_pos h1];have hp : 1 ≤ C1 nam l := L5 (by unfold nam; rw [h1]; rfl) hl;have hall := Xu nam l;have hall' : (l.take (C1 nam l)).all nam = true := List.all_eq_true.mpr hall
  have hd : (l.take (C1 nam l)).headD 0 = l.headD 0 := by
   cases l with
   | nil => exact absurd rfl hl
   | cons c t =>
    obtain ⟨m, hm⟩ : ∃ m, C1 nam (c :: t) = m + 1 := ⟨C1 nam (c :: t) - 1, by omega⟩;rw [hm]; rfl
  have he : (l.take (C1 nam l)).isEmpty = false := by
   cases l with
   | nil => exact absurd rfl hl
   | cons c t =>
    obtain ⟨m, hm⟩ : ∃ m, C1 nam (c :: t) = m + 1 := ⟨C1 nam (c :: t) - 1, by omega⟩;rw [hm]; rfl
  refine ⟨⟨?_, ?_, ?_, ?_⟩, ?_⟩
  ·intro hk;have hk : Qk l = 1 := hk;show Ef (l.take (C1 nam l)) = true;unfold Qk at hk;split at hk
   ·cases hk
   ·rename_i hw;split at hk
    ·cases hk
    ·rename_i hg
     have hs : sml (l.headD 0) = true := by
      cases hx : sml (l.headD 0)
      ·rw [hx] at h1; simp at h1; rw [Bool.not_eq_true] at hg; simp [h1] at hg
      ·rfl
     unfold Ef Lk;rw [he, hd, b7d, hs, hall', Bool.eq_false_iff.mpr hw];rfl
  ·intro hk;have hk : Qk l = 2 := hk;show Gi (l.take (C1 nam l)) = true;unfold Qk at hk;split at hk
   ·cases hk
   ·split at hk
    ·rename_i hg;unfold Gi Lk;rw [he, hd, b84, hg, hall'];rfl
    ·cases hk
  ·intro hk;have hk : Qk l = 3 := hk;unfold Qk at hk;split at hk
   ·cases hk
   ·split at hk <;> cases hk
  ·intro hk;have hk : Qk l = 4 := hk;unfold Qk at hk;split at hk
   ·cases hk
   ·split at hk <;> cases hk
  ·show (l.take (C1 nam l)).length ≤ C1 nam l;rw [List.length_take]; omega
 ·rename_i h1;rw [if_neg h1];split at h
  ·rename_i h2;rw [if_pos h2];unfold Nw at *;split at h
   ·simp [bad] at h
   ·rename_i h3;rw [if_neg h3];split at h
    ·simp [bad] at h
    ·rename_i h4;rw [if_neg h4];have hp := a3m (a8m l);have hr := Nm.parse_range (Wk l);refine ⟨⟨?_, ?_, ?_, ?_⟩, Nat.zero_le _⟩
     ·intro hk;have hk : (if isC l = true then 4 else 3) = 1 := hk;split at hk <;> cases hk
     ·intro hk;have hk : (if isC l = true then 4 else 3) = 2 := hk;split at hk <;> cases hk
     ·intro _; exact ⟨hp, hr.2⟩
     ·intro hk;have hk : (if isC l = true then 4 else 3) = 4 := hk;split at hk
      ·rename_i hc;have : a3v l = 8388607 := by unfold a3v; rw [if_pos hc]
       rw [this] at h4;refine ⟨hp, ?_⟩;show Nm.parseN (Wk l) < 8388608;omega
      ·cases hk
  ·rename_i h2;rw [if_neg h2];split at h
   ·rename_i h3;rw [if_pos h3];unfold Pi at *;split at h
    ·rename_i h4;rw [if_pos h4];exact ⟨⟨fun hk => absurd hk (by show ¬ (5 : Nat) = 1; decide), fun hk => absurd hk (by show ¬ (5 : Nat) = 2; decide), fun hk => absurd hk (by show ¬ (5 : Nat) = 3; decide), fun hk => absurd hk (by show ¬ (5 : Nat) = 4; decide)⟩, a77 l h4⟩
    ·simp [bad] at h
   ·rename_i h3;rw [if_neg h3];unfold O6 at *;split at h
    ·simp [bad] at h
    ·rename_i h4;rw [if_neg h4];refine ⟨⟨fun hk => absurd hk (by show ¬ (7 : Nat) = 1; decide), fun hk => absurd hk (by show ¬ (7 : Nat) = 2; decide), fun hk => absurd hk (by show ¬ (7 : Nat) = 3; decide), fun hk => absurd hk (by show ¬ (7 : Nat) = 4; decide)⟩, ?_⟩;show (l.take (sgn l)).length ≤ sgn l;rw [List.length_take]; omega
theorem Mx : ∀ n (l : List UInt8) (a b : Nat) (ts : List Tok), l.length ≤ n → Gw l a b = .ok ts → WfL ts ∧ wL ts ≤ 26 * l.length + 22
 | n, [], a, b, ts, _, e => by
  rw [L0] at e;cases e;refine ⟨fun t ht => ?_, Nat.le_refl _⟩;rw [List.mem_singleton] at ht;subst ht
  exact ⟨fun hk => absurd hk (by show ¬ (8 : Nat) = 1; decide), fun hk => absurd hk (by show ¬ (8 : Nat) = 2; decide), fun hk => absurd hk (by show ¬ (8 : Nat) = 3; decide), fun hk => absurd hk (by show ¬ (8 : Nat) = 4; decide)⟩
 | 0, c :: t, _, _, _, hn, _ => by simp at hn
 | n + 1, c :: t, a, b, ts, hn, e => by
  rw [List.length_cons] at hn ⊢;by_cases hg : I2 c
  ·rcases hg with rfl | h
   ·rw [Rv] at e;obtain ⟨h1, h2⟩ := Mx n t _ _ ts (by omega) e;exact ⟨h1, by omega⟩
   ·by_cases h35 : c = 35
    ·subst h35;rw [O2] at e;obtain ⟨h1, h2⟩ := Mx n _ _ _ ts (by rw [List.length_drop]; omega) e;rw [List.length_drop] at h2;exact ⟨h1, by omega⟩
    ·rw [Gv c t a b (by rcases h with h | h | h | h <;> simp [h] at h35 ⊢)] at e;obtain ⟨h1, h2⟩ := Mx n t _ _ ts (by omega) e;exact ⟨h1, by omega⟩
  ·by_cases h0 : (one (c :: t)).err = 0
   ·rw [N9 c t a b hg h0] at e;obtain ⟨o1, o2⟩ := Pe (c :: t) (by simp) h0;obtain ⟨w1, w2⟩ := b1q (c :: t) a b (by simp) h0;rw [List.length_cons] at o2
    cases hr : Gw ((c :: t).drop (one (c :: t)).size) a (b + (one (c :: t)).size) with
    | error x => rw [hr] at e; cases e
    | ok r =>
     rw [hr] at e;cases e;obtain ⟨h1, h2⟩ := Mx n _ _ _ r (by rw [List.length_drop, List.length_cons]; omega) hr;rw [List.length_drop, List.length_cons] at h2;refine ⟨fun x hx => ?_, ?_⟩
     ·rcases List.mem_cons.mp hx with rfl | hx
      ·exact w1
      ·exact h1 x hx
     ·show 22 + 4 * (one (c :: t)).text.length + wL r ≤ _;omega
   ·rw [Rw c t a b hg h0] at e;cases e
end
section
def Rg (z : Int) : Prop := -9223372036854775808 ≤ z ∧ z ≤ 9223372036854775807
def Bt (M : Nat) (t : Tok) : Prop := t.line ≤ M ∧ t.col ≤ M ∧ Rg t.num ∧ t.text.length ≤ M
def Bl (M : Nat) (ts : List Tok) : Prop := ∀ t ∈ ts, Bt M t
def Bi (M : Nat) (i : Inf) : Prop := i.kind ≤ 255 ∧ i.line ≤ M ∧ i.col ≤ M ∧ Rg i.num ∧ i.text.length ≤ M
def Bf (M : Nat) (F : Fo) : Prop := ∀ x ∈ D6 F, Bi M x.1
def Bp (M : Nat) (p : Pt) : Prop := ∀ d ts F r, Bl M ts → p d ts = .ok F r → Bf M F ∧ Bl M r
theorem rg0 : Rg 0 := by unfold Rg; omega
variable {M : Nat}
theorem Kd {ts : List Tok} (h : Bl M ts) : Bt M (hd ts) := by
 cases ts with
 | nil => exact ⟨Nat.zero_le _, Nat.zero_le _, rg0, Nat.zero_le _⟩
 | cons t l => exact h t (by simp)
theorem Hm {ts : List Tok} (h : Bl M ts) : Bl M ts.tail := fun t ht => h t (List.mem_of_mem_tail ht)
theorem Ei : Bf M .nil := fun x hx => by cases hx
theorem Ga {i : Inf} {k r : Fo} (h1 : Bi M i) (h2 : Bf M k) (h3 : Bf M r) : Bf M (.cons i k r) := fun x hx => by
 simp only [D6, List.mem_cons, List.mem_append] at hx;rcases hx with rfl | hx | hx
 ·exact h1
 ·exact h2 x hx
 ·exact h3 x hx
theorem a7i (F G : Fo) : D6 (F.app G) = D6 F ++ D6 G := by
 induction F with
 | nil => rfl
 | cons i k r _ ihr => simp [Fo.app, D6, ihr]
theorem N3 {F G : Fo} (h1 : Bf M F) (h2 : Bf M G) : Bf M (F.app G) := fun x hx => by
 rw [a7i, List.mem_append] at hx;rcases hx with hx | hx
 ·exact h1 x hx
 ·exact h2 x hx
def Bm (M : Nat) (mk : List Tok → Inf) : Prop := ∀ ts, Bl M ts → Bi M (mk ts)
theorem b5n {k : Nat} (hk : k ≤ 255) : Bm M (mkK k) := fun ts h => ⟨hk, (Kd h).1, (Kd h).2.1, rg0, Nat.zero_le _⟩
theorem c2a {k : Nat} {n : Int} (hk : k ≤ 255) (hn : Rg n) : Bm M (mkN k n) := fun ts h => ⟨hk, (Kd h).1, (Kd h).2.1, hn, Nat.zero_le _⟩
theorem c1t {k : Nat} (hk : k ≤ 255) : Bm M (mkX k) := fun ts h => ⟨hk, (Kd h).1, (Kd h).2.1, rg0, (Kd h).2.2.2⟩
theorem c1s {k : Nat} (hk : k ≤ 255) : Bm M (mkY k) := fun ts h => ⟨hk, (Kd h).1, (Kd h).2.1, rg0, (Kd (Hm h)).2.2.2⟩
theorem I6 : Bp M A3 := fun d ts F r h e => by cases e; exact ⟨Ei, h⟩
theorem K3 : Bp M It := fun d ts F r h e => by cases e
theorem Ff (q : List Tok → Bool) : Bp M (Hr q) := fun d ts F r h e => by
 unfold Hr at e;split at e
 ·cases e; exact ⟨Ei, Hm h⟩
 ·cases e
theorem Ke {a b : Pt} (ha : Bp M a) (hb : Bp M b) : Bp M (Di a b) := fun d ts F r h e => by
 obtain ⟨F1, r1, e1, e2⟩ := Ad e;obtain ⟨F2, r2, e3, e4⟩ := Ad e2;cases e4;obtain ⟨h1, h2⟩ := ha _ _ _ _ h e1;obtain ⟨h3, h4⟩ := hb _ _ _ _ h2 e3;exact ⟨N3 h1 h3, h4⟩
theorem K4 {p : Pt} (hp : Bp M p) : Bp M (Cf p) := fun d ts F r h e => hp _ _ _ _ (Hm h) e
theorem Mp (x : List UInt8) {a b : Pt} (ha : Bp M a) (hb : Bp M b) : Bp M (Fq x a b) := fun d ts F r h e => by
 unfold Fq at e;split at e
 ·exact ha _ _ _ _ h e
 ·exact hb _ _ _ _ h e
theorem Qd {p : Pt} (hp : Bp M p) : Bp M (Cm p) := fun d ts F r h e => by
 unfold Cm at e;split at e
 ·cases e
 ·exact hp _ _ _ _ (Hm h) e
theorem E8 (o c : List UInt8) {p : Pt} (hp : Bp M p) : Bp M (Aq o c p) := fun d ts F r h e => by
 unfold Aq at e;split at e
 ·exact Ke (Qd hp) (Ff _) _ _ _ _ h e
 ·cases e
theorem Ik {mk : List Tok → Inf} {p : Pt} (hm : Bm M mk) (hp : Bp M p) : Bp M (Bx mk p) := fun d ts F r h e => by
 obtain ⟨F1, r1, e1, e2⟩ := Ad e;cases e2;obtain ⟨h1, h2⟩ := hp _ _ _ _ h e1;exact ⟨Ga (hm ts h) h1 Ei, h2⟩
theorem S9 (x : List UInt8) {p : Pt} (hp : Bp M p) : ∀ n, Bp M (Ci x p n)
 | 0 => K3
 | n + 1 => fun d ts F r h e => by
  unfold Ci at e;split at e
  ·cases e; exact ⟨Ei, h⟩
  ·exact Ke hp (S9 x hp n) _ _ _ _ h e
theorem Zd {p : Pt} (hp : Bp M p) : ∀ n, Bp M (Gl p n)
 | 0 => K3
 | n + 1 => fun d ts F r h e => by
  unfold Gl at e;obtain ⟨F1, r1, e1, e2⟩ := Ad e;obtain ⟨h1, h2⟩ := hp _ _ _ _ h e1;split at e2
  ·obtain ⟨F2, r2, e3, e4⟩ := Ad e2;cases e4;obtain ⟨h3, h4⟩ := Zd hp n _ _ _ _ (Hm h2) e3;exact ⟨N3 h1 h3, h4⟩
  ·cases e2; exact ⟨h1, h2⟩
theorem U7 {p : Pt} (hp : Bp M p) (n : Nat) : Bp M (C2 p n) := Mp _ I6 (Zd hp n)
theorem c01 (x : List UInt8) : Rg (J7 x) := by
 unfold J7;have H : ∀ (p : Prop) [Decidable p] (a b : Int), Rg a → Rg b → Rg (if p then a else b) := fun p _ a b h1 h2 => by split <;> assumption
 repeat (refine H _ _ _ (by unfold Rg; omega) ?_)
 unfold Rg; omega
theorem Va {p : Pt} (hp : Bp M p) {d : Nat} {ts r : List Tok} {F G : Fo} (h : Bl M ts) (hF : Bf M F) (e : C9 p F d ts = .ok G r) : Bf M G ∧ Bl M r := by
 obtain ⟨F1, r1, e1, e2⟩ := Ad e;cases e2;obtain ⟨h1, h2⟩ := hp _ _ _ _ (Hm h) e1;exact ⟨Ga ⟨Nat.le_of_ble_eq_true rfl, (Kd h).1, (Kd h).2.1, c01 _, Nat.zero_le _⟩ (N3 hF h1) Ei, h2⟩
theorem Zg {p : Pt} (hp : Bp M p) (S : List (List UInt8)) : ∀ n (F G : Fo) d ts r, Bl M ts → Bf M F → Cp p S n F d ts = .ok G r → Bf M G ∧ Bl M r
 | 0, _, _, _, _, _, _, _, e => by cases e
 | n + 1, F, G, d, ts, r, h, hF, e => by
  unfold Cp at e;split at e
  ·obtain ⟨F1, r1, e1, e2⟩ := Ad e;obtain ⟨h1, h2⟩ := Va hp h hF e1;exact Zg hp S n F1 G d r1 r h2 h1 e2
  ·cases e; exact ⟨hF, h⟩
theorem Ot {p : Pt} (hp : Bp M p) (S : List (List UInt8)) (n : Nat) : Bp M (C4 p S n) := fun d ts F r h e => by
 obtain ⟨F1, r1, e1, e2⟩ := Ad e;obtain ⟨h1, h2⟩ := hp _ _ _ _ h e1;exact Zg hp S n F1 F d r1 r h2 h1 e2
theorem a57 {p : Pt} (hp : Bp M p) (S : List (List UInt8)) : Bp M (Js p S) := fun d ts F r h e => by
 obtain ⟨F1, r1, e1, e2⟩ := Ad e;obtain ⟨h1, h2⟩ := hp _ _ _ _ h e1;split at e2
 ·exact Va hp h2 h1 e2
 ·cases e2; exact ⟨h1, h2⟩
theorem Zc : Bp M Au := fun d ts F r h e => by
 unfold Au at e;split at e
 ·rename_i q hq;cases e;have ht := Kd h;refine ⟨Ga ⟨?_, ht.1, ht.2.1, rg0, ?_⟩ Ei Ei, Hm h⟩
  ·rcases Hb hq with ⟨rfl, _⟩ | ⟨_, h2, h3⟩
   ·exact Nat.le_of_ble_eq_true rfl
   ·show q.1 ≤ 255; omega
  ·rcases Hb hq with ⟨rfl, _⟩ | ⟨h1, _⟩
   ·exact ht.2.2.2
   ·show q.2.length ≤ M; rw [h1]; exact Nat.zero_le _
 ·cases e
theorem Qc {p : Pt} (hp : Bp M p) : Bp M (A7 p) := Ik (b5n (Nat.le_of_ble_eq_true rfl)) (E8 _ _ hp)
theorem Qb : ∀ n, Bp M (Cz n)
 | 0 => K3
 | n + 1 => Mp _ (Qc (Qb n)) Zc
theorem b0g {t : Tok} {q : Nat × Int × List UInt8} (ht : Bt M t) (h : Bo t = some q) : q.1 ≤ 255 ∧ Rg q.2.1 ∧ q.2.2.length ≤ M := by
 unfold Bo at h;split at h
 ·cases h; exact ⟨Nat.le_of_ble_eq_true rfl, ht.2.2.1, Nat.zero_le _⟩
 ·split at h
  ·cases h; exact ⟨Nat.le_of_ble_eq_true rfl, ht.2.2.1, Nat.zero_le _⟩
  ·split at h
   ·cases h; exact ⟨Nat.le_of_ble_eq_true rfl, rg0, ht.2.2.2⟩
   ·repeat' split at h
    all_goals first | (cases h; refine ⟨Nat.le_of_ble_eq_true rfl, ?_, Nat.zero_le _⟩; simp only [Rg]; omega) | cases h
theorem b0l : Bp M Fc := fun d ts F r h e => by
 unfold Fc at e;split at e
 ·rename_i q hq;cases e;have ht := Kd h;obtain ⟨h1, h2, h3⟩ := b0g ht hq;exact ⟨Ga ⟨h1, ht.1, ht.2.1, h2, h3⟩ Ei Ei, Hm h⟩
 ·cases e
section
variable {E : Pt} (hE : Bp M E)
include hE
theorem b5j (n : Nat) : Bp M (Gk E n) := fun d ts F r h e => by
 unfold Gk at e;split at e
 ·exact Ik (c1t (Nat.le_of_ble_eq_true rfl)) (K4 (E8 _ _ (U7 hE n))) _ _ _ _ h e
 ·cases e; exact ⟨Ga (c1t (Nat.le_of_ble_eq_true rfl) ts h) Ei Ei, Hm h⟩
theorem b5k (n : Nat) : Bp M (J9 E n) := Ik (b5n (Nat.le_of_ble_eq_true rfl)) (K4 fun d ts F r h e => by
 split at e
 ·exact Ke Zc (E8 _ _ I6) _ _ _ _ h e
 ·exact Ke (Qc (Qb n)) (E8 _ _ hE) _ _ _ _ h e)
theorem b5m (n : Nat) : Bp M (Eo E n) := fun d ts F r h e => by
 unfold Eo at e;split at e
 ·exact E8 _ _ hE _ _ _ _ h e
 ·split at e
  ·exact b5k hE n _ _ _ _ h e
  ·split at e
   ·exact b5j hE n _ _ _ _ h e
   ·exact b0l _ _ _ _ h e
theorem Xg : ∀ n (F G : Fo) d ts r, Bl M ts → Bf M F → C8 E n F d ts = .ok G r → Bf M G ∧ Bl M r
 | 0, _, _, _, _, _, _, _, e => by cases e
 | n + 1, F, G, d, ts, r, h, hF, e => by
  unfold C8 at e;split at e
  ·obtain ⟨F1, r1, e1, e2⟩ := Ad e;obtain ⟨h1, h2⟩ := E8 _ _ hE _ _ _ _ h e1;exact Xg n _ G d r1 r h2 (Ga (b5n (Nat.le_of_ble_eq_true rfl) ts h) (N3 hF h1) Ei) e2
  ·split at e
   ·obtain ⟨F1, r1, e1, e2⟩ := Ad e;obtain ⟨h1, h2⟩ := Ff _ _ _ _ _ (Hm h) e1;exact Xg n _ G d r1 r h2 (Ga (c1s (Nat.le_of_ble_eq_true rfl) ts h) hF Ei) e2
   ·cases e; exact ⟨hF, h⟩
theorem b5i (n : Nat) : Bp M (H9 E n) := fun d ts F r h e => by
 obtain ⟨F1, r1, e1, e2⟩ := Ad e;obtain ⟨h1, h2⟩ := b5m hE n _ _ _ _ h e1;exact Xg hE n F1 F d r1 r h2 h1 e2
end
theorem b0k {U p : Pt} (hU : Bp M U) (hp : Bp M p) : Bp M (Cy U p) := fun d ts F r h e => by
 unfold Cy at e;split at e
 ·exact Ik (c2a (Nat.le_of_ble_eq_true rfl) (by unfold Rg; omega)) (Qd hU) _ _ _ _ h e
 ·split at e
  ·exact Ik (c2a (Nat.le_of_ble_eq_true rfl) (by unfold Rg; omega)) (Qd hU) _ _ _ _ h e
  ·exact hp _ _ _ _ h e
theorem c1q {u : Pt} (h : Bp M u) (n : Nat) : Bp M (orP u n) := Ot (Ot (a57 (a57 (Ot (Ot h _ n) _ n) _) _) _ n) _ n
theorem b99 : ∀ n, Bp M (Bc n) ∧ Bp M (unP n)
 | 0 => ⟨K3, K3⟩
 | n + 1 => by
  obtain ⟨h1, h2⟩ := b99 n;have h := b0k h2 (b5i h1 (n + 1));exact ⟨c1q h (n + 1), h⟩
theorem b7x (l : List UInt8) (hl : l ≠ []) (h : (one l).err = 0) : Rg (one l).num ∧ (one l).text.length ≤ l.length := by
 have h1 := (b1q l 0 0 hl h).2;have h2 := (Pe l hl h).2;refine ⟨?_, by omega⟩;unfold one Nw Pi O6
 repeat' split
 all_goals first | exact rg0 | exact Nm.parse_range _
theorem My : ∀ n (l : List UInt8) (a b : Nat) (ts : List Tok), l.length ≤ n → Gw l a b = .ok ts → a + l.length ≤ M → b + l.length ≤ M → 1 + l.length ≤ M → Bl M ts
 | n, [], a, b, ts, _, e, ha, hb, h1 => by
  rw [L0] at e;cases e;intro t ht;rw [List.mem_singleton] at ht;subst ht
  exact ⟨ha, hb, rg0, Nat.zero_le _⟩
 | 0, c :: t, _, _, _, hn, _, _, _, _ => by simp at hn
 | n + 1, c :: t, a, b, ts, hn, e, ha, hb, h1 => by
  rw [List.length_cons] at hn ha hb h1;by_cases hg : I2 c
  ·rcases hg with rfl | h
   ·rw [Rv] at e;exact My n t _ _ ts (by omega) e (by omega) (by omega) (by omega)
   ·by_cases h35 : c = 35
    ·subst h35;rw [O2] at e;have hle := Ll nlf t;exact My n _ _ _ ts (by rw [List.length_drop]; omega) e (by rw [List.length_drop]; omega) (by rw [List.length_drop]; omega) (by rw [List.length_drop]; omega)
    ·rw [Gv c t a b (by rcases h with h | h | h | h <;> simp [h] at h35 ⊢)] at e;exact My n t _ _ ts (by omega) e (by omega) (by omega) (by omega)
  ·by_cases h0 : (one (c :: t)).err = 0
   ·rw [N9 c t a b hg h0] at e;obtain ⟨o1, o2⟩ := Pe (c :: t) (by simp) h0;obtain ⟨w1, w2⟩ := b7x (c :: t) (by simp) h0;rw [List.length_cons] at o2 w2
    cases hr : Gw ((c :: t).drop (one (c :: t)).size) a (b + (one (c :: t)).size) with
    | error x => rw [hr] at e; cases e
    | ok r =>
     rw [hr] at e;cases e;have ih := My n _ _ _ r (by rw [List.length_drop, List.length_cons]; omega) hr (by rw [List.length_drop, List.length_cons]; omega) (by rw [List.length_drop, List.length_cons]; omega) (by rw [List.length_drop, List.length_cons]; omega);intro x hx;rcases List.mem_cons.mp hx with rfl | hx
     ·exact ⟨by show a ≤ M; omega, by show b ≤ M; omega, w1, by show (one (c :: t)).text.length ≤ M; omega⟩
     ·exact ih x hx
   ·rw [Rw c t a b hg h0] at e;cases e
end
section
variable {M : Nat}
theorem Zf : ∀ {l : List Pt}, (∀ p ∈ l, Bp M p) → Bp M (Ba l)
 | [], _ => I6
 | p :: l, h => Ke (h p (by simp)) (Zf fun q hq => h q (by simp [hq]))
theorem Mo {k : Nat} {l : List Pt} (hk : k ≤ 255) (h : ∀ p ∈ l, Bp M p) : Bp M (Cd k l) := Ik (b5n hk) (K4 (Zf h))
theorem b97 {E : Pt} (hE : Bp M E) : Bp M (L3 E) := fun d ts F r h e => by
 obtain ⟨F1, r1, e1, e2⟩ := Ad e;obtain ⟨h1, h2⟩ := hE _ _ _ _ h e1;split at e2
 ·obtain ⟨F2, r2, e3, e4⟩ := Ad e2;cases e4;obtain ⟨h3, h4⟩ := Ke (Ff _) (Ke hE (Ff _)) _ _ _ _ h2 e3;exact ⟨Ga (b5n (Nat.le_of_ble_eq_true rfl) ts h) (N3 h1 h3) Ei, h4⟩
 ·split at e2
  ·obtain ⟨F2, r2, e3, e4⟩ := Ad e2;cases e4;obtain ⟨h3, h4⟩ := Ff _ _ _ _ _ h2 e3;exact ⟨Ga (b5n (Nat.le_of_ble_eq_true rfl) ts h) (N3 h1 h3) Ei, h4⟩
  ·cases e2
theorem a52 {E B : Pt} (hE : Bp M E) (hB : Bp M B) (n : Nat) : Bp M (Gg E B n) := by
 refine Mp _ (Ik (c1s (Nat.le_of_ble_eq_true rfl)) (K4 (Zf fun p hp => ?_))) (Mp _ (Mo (Nat.le_of_ble_eq_true rfl) fun p hp => ?_) (Mp _ (Mo (Nat.le_of_ble_eq_true rfl) fun p hp => ?_) (Mp _ (Mo (Nat.le_of_ble_eq_true rfl) fun p hp => ?_) (Mp _ (Mo (Nat.le_of_ble_eq_true rfl) fun p hp => ?_) (b97 hE)))))
 all_goals simp only [List.mem_cons, List.not_mem_nil, or_false] at hp
 ·rcases hp with rfl | rfl | rfl | rfl | rfl | rfl <;> first | exact Ff _ | exact Qb _ | exact hE
 ·rcases hp with rfl | rfl | rfl <;> first | exact hE | exact hB | exact Mp _ (K4 hB) I6
 ·rcases hp with rfl | rfl <;> first | exact hE | exact hB
 ·rcases hp with rfl | rfl <;> first | exact Ff _ | exact Mp _ I6 hE
 ·rcases hp with rfl | rfl <;> first | exact Ff _ | exact hE
theorem Ze {S : Pt} (h : Bp M S) (n : Nat) : Bp M (D3 S n) := Ik (b5n (Nat.le_of_ble_eq_true rfl)) (E8 _ _ (S9 _ h n))
theorem a54 : ∀ n, Bp M (K6 n)
 | 0 => K3
 | n + 1 => a52 (b99 _).1 (Ze (a54 n) n) _
theorem Za {k : Nat} (hk : k ≤ 255) (n : Nat) : Bp M (D7 k n) := Ik (c1t hk) (Zf fun p hp => by
 simp only [List.mem_cons, List.not_mem_nil, or_false] at hp
 rcases hp with rfl | rfl | rfl <;> first | exact Ff _ | exact Qb _)
theorem b98 (n : Nat) : Bp M (a2z n) := Ik (c1s (Nat.le_of_ble_eq_true rfl)) (K4 (Ke (Ff _) (E8 _ _ (S9 _ (Ke (Za (Nat.le_of_ble_eq_true rfl) n) (Ff _)) n))))
theorem a55 (n : Nat) : Bp M (Es n) := fun d ts F r h e => by
 unfold Es at e;split at e
 ·exact Qb n _ _ _ _ (Hm h) e
 ·cases e; exact ⟨Ga ⟨Nat.le_of_ble_eq_true rfl, Nat.zero_le _, Nat.zero_le _, rg0, Nat.zero_le _⟩ Ei Ei, h⟩
theorem c1r (n : Nat) {d : Nat} {ts r : List Tok} {F : Fo} (h : Bl M ts) (hl : ts.length ≤ 1000000) (e : fnP n d ts = .ok F r) : Bf M F ∧ Bl M r := by
 obtain ⟨F0, r0, e0, e1⟩ := Ad e;obtain ⟨F1, r1, e2, e3⟩ := Ad e1;obtain ⟨F2, r2, e4, e5⟩ := Ad e3;cases e5;have l0 := Cs _ _ _ _ _ e0;have l1 := Jp (Fx 1 (by decide) (by decide)) (Bk (Ed ((Fk 5 n).mono (by omega)) n)) _ _ _ _ e2;obtain ⟨_, h0⟩ := Ff _ _ _ _ _ h e0;obtain ⟨h1, h2⟩ := Ke (Ff _) (E8 _ _ (U7 (Za (Nat.le_of_ble_eq_true rfl) n) n)) _ _ _ _ h0 e2;obtain ⟨h3, h4⟩ := Ke (a55 n) (Ze (a54 n) n) _ _ _ _ h2 e4;refine ⟨Ga ⟨Nat.le_of_ble_eq_true rfl, (Kd h).1, (Kd h).2.1, ?_, (Kd h0).2.2.2⟩ (N3 h1 h3) Ei, h4⟩;have hc : K8 5 F1.post ≤ F1.post.length := List.length_filter_le _ _;rw [An] at hc;have := l0.1;have := l1.1;unfold Rg;simp only;omega
theorem b5l (n : Nat) {d : Nat} {ts r : List Tok} {F : Fo} (h : Bl M ts) (hl : ts.length ≤ 1000000) (e : Gu n d ts = .ok F r) : Bf M F ∧ Bl M r := by
 unfold Gu Fq at e;split at e
 ·exact b98 n _ _ _ _ h e
 ·exact c1r n h hl e
theorem Zb (m : Nat) : ∀ n d (ts : List Tok) F r, Bl M ts → ts.length ≤ 1000000 → He (Gu m) n d ts = .ok F r → Bf M F ∧ Bl M r
 | 0, _, _, _, _, _, _, e => by cases e
 | n + 1, d, ts, F, r, h, hl, e => by
  unfold He at e;split at e
  ·cases e; exact ⟨Ei, h⟩
  ·obtain ⟨F1, r1, e1, e2⟩ := Ad e;obtain ⟨F2, r2, e3, e4⟩ := Ad e2;cases e4;have l1 := W2 m _ _ _ _ e1;obtain ⟨h1, h2⟩ := b5l m h hl e1;obtain ⟨h3, h4⟩ := Zb m n d r1 F2 r h2 (by have := l1.1; omega) e3;exact ⟨N3 h1 h3, h4⟩
theorem a56 (n : Nat) {d : Nat} {ts r : List Tok} {F : Fo} (h : Bl M ts) (hM : 1 ≤ M) (hl : ts.length ≤ 1000000) (e : Fl n d ts = .ok F r) : Bf M F ∧ Bl M r := by
 obtain ⟨F1, r1, e1, e2⟩ := Ad e;cases e2;obtain ⟨h1, h2⟩ := Zb n n _ _ _ _ h hl e1;exact ⟨Ga ⟨Nat.le_of_ble_eq_true rfl, hM, hM, rg0, Nat.zero_le _⟩ h1 Ei, h2⟩
end
section
end
section
end
section
theorem b2r (F : Fo) : (F.pre.map fun x => x.text.size).sum ≤ wF F := by
 induction F with
 | nil => simp [Fo.pre, wF]
 | cons i k r ihk ihr =>
  simp only [Fo.pre, List.map_cons, List.map_append, List.sum_cons, List.sum_append, wF];have : (i.nd k.cnt).text.size = i.text.length := by simp [Inf.nd, bs, ByteArray.size]
  rw [this];omega
theorem b93 (F : Fo) : 22 * F.cnt ≤ wF F := by
 induction F with
 | nil => simp [Fo.cnt]
 | cons i k r ihk ihr => simp only [Fo.cnt, wF]; omega
theorem b3y {M : Nat} {F : Fo} (h : Bf M F) : Rc F := fun x hx => (h x hx).2.2.2.1.2
theorem b6x {F : Fo} (h : Bf 100000 F) (hc : F.cnt ≤ 4000) : ∀ i, i < F.pre.length → (nd F.pre i).wf := fun i hi => by
 rw [C7] at hi;rw [L9 hi]
 obtain ⟨hm, hle⟩ : Ai F i ∈ D6 F ∧ (Ai F i).2.cnt ≤ F.cnt := by
  have hm : Ai F i ∈ D6 F := by
   unfold Ai;rw [List.getD_eq_getElem?_getD, List.getElem?_eq_getElem (by rw [Bu]; exact hi)];exact List.getElem_mem _
  refine ⟨hm, ?_⟩
  have : ∀ (G : Fo), ∀ x ∈ D6 G, x.2.cnt ≤ G.cnt := fun G => by
   induction G with
   | nil => intro x hx; cases hx
   | cons j k r ihk ihr =>
    intro x hx;simp only [D6, List.mem_cons, List.mem_append] at hx;rw [Fo.cnt];rcases hx with rfl | hx | hx
    ·show k.cnt ≤ _; omega
    ·have := ihk x hx; omega
    ·have := ihr x hx; omega
  exact this F _ hm
 obtain ⟨h1, h2, h3, h4, h5⟩ := h _ hm
 exact ⟨by show (Ai F i).1.kind < 256; omega, by show A9 ((Ai F i).1.line : Int); unfold A9; omega, by show A9 ((Ai F i).1.col : Int); unfold A9; omega,
  by show A9 ((Ai F i).2.cnt : Int); unfold A9; omega, h4, by show (bs (Ai F i).1.text).size ≤ maxLen; simp [bs, ByteArray.size, maxLen]; omega⟩
theorem a1n (F : Fo) : wF (Ar F) = wF F := by
 induction F with
 | nil => rfl
 | cons i k r ihk ihr => simp only [Ar, wF, ihk, ihr]; rfl
theorem a2k : ∀ (F G : Fo), Ar F = Ar G → F.pre.length = G.pre.length ∧ ∀ i, i < F.pre.length → eqN (nd F.pre i) (nd G.pre i) = true := fun F G e => by
 have hs : ∀ (F : Fo), (D6 (Ar F)).map (fun x => (x.1, x.2.cnt)) = (D6 F).map fun x => (D4 x.1, x.2.cnt) := fun F => by
  have hcnt : ∀ F : Fo, (Ar F).cnt = F.cnt := fun F => by
   induction F with
   | nil => rfl
   | cons i k r ihk ihr => simp only [Ar, Fo.cnt, ihk, ihr]
  induction F with
  | nil => rfl
  | cons i k r ihk ihr => simp only [Ar, D6, List.map_cons, List.map_append, ihk, ihr, hcnt]
 have h := (hs F).symm.trans ((congrArg (fun F => (D6 F).map (fun x => (x.1, x.2.cnt))) e).trans (hs G));have hl : (D6 F).length = (D6 G).length := by have := congrArg List.length h; simpa using this
 have hl2 : F.pre.length = G.pre.length := by rw [L8, L8, List.length_map, List.length_map]; exact hl
 refine ⟨hl2, fun i hi => ?_⟩;rw [C7] at hi;have hi2 : i < G.cnt := by rw [← C7, ← hl2, C7]; exact hi
 rw [L9 hi, L9 hi2];have hf : Ai F i = (D6 F)[i]'(by rw [Bu]; exact hi) := by unfold Ai; rw [List.getD_eq_getElem?_getD, List.getElem?_eq_getElem (by rw [Bu]; exact hi)]; rfl
 have hg : Ai G i = (D6 G)[i]'(by rw [Bu]; exact hi2) := by unfold Ai; rw [List.getD_eq_getElem?_getD, List.getElem?_eq_getElem (by rw [Bu]; exact hi2)]; rfl
 have hx : (D4 (Ai F i).1, (Ai F i).2.cnt) = (D4 (Ai G i).1, (Ai G i).2.cnt) := by
  have := congrArg (fun l => l[i]?) h;simp only [List.getElem?_map, List.getElem?_eq_getElem (show i < (D6 F).length by rw [Bu]; exact hi), List.getElem?_eq_getElem (show i < (D6 G).length by rw [Bu]; exact hi2), Option.map_some, Option.some.injEq] at this;rw [hf, hg]; exact this
 rw [Prod.mk.injEq] at hx;obtain ⟨hx1, hx2⟩ := hx;have e1 := congrArg Inf.kind hx1;have e2 := congrArg Inf.num hx1;have e3 := congrArg Inf.text hx1;simp only [D4] at e1 e2 e3;simp [eqN, Inf.nd, e1, e2, e3, hx2]
def bX (x : Tx) : Tx := (D4 x.1, x.2)
theorem Sj (ks : List Tx) (j : Nat) : kth (ks.map bX) j = bX (kth ks j) := by
 unfold kth;rw [List.getD_eq_getElem?_getD, List.getD_eq_getElem?_getD, List.getElem?_map];cases ks[j]? <;> rfl
theorem Sw (f : List UInt8 → List UInt8) (ks : List Tx) : ((ks.map bX).flatMap fun x => f x.2) = ks.flatMap fun x => f x.2 := by
 induction ks with
 | nil => rfl
 | cons x l ih => rw [List.map_cons, List.flatMap_cons, List.flatMap_cons, ih]; rfl
theorem Nk (ks : List Tx) : Dr (ks.map bX) = Dr ks := by
 cases ks with
 | nil => rfl
 | cons x l =>
  show x.2 ++ ((l.map bX).flatMap fun y => [44, 32] ++ y.2) = x.2 ++ l.flatMap fun y => [44, 32] ++ y.2
  rw [Sw (fun y => [44, 32] ++ y)]
theorem a4f (n : Nat) (ks : List Tx) : lines n (ks.map bX) = lines n ks := by
 unfold lines;rw [Sw (fun y => nl (n + 1) ++ y)]
theorem a96 (ks : List Tx) : ((ks.map bX).flatMap fun x => x.2 ++ [10]) = ks.flatMap fun x => x.2 ++ [10] := Sw (fun y => y ++ [10]) ks
theorem Yc (n : Nat) (i : Inf) (ks : List Tx) : Hs n (D4 i) (ks.map bX) = Hs n i ks := by
 have e1 : ∀ j, (kth (ks.map bX) j).2 = (kth ks j).2 := fun j => by rw [Sj]; rfl
 have e2 : ∀ j, (kth (ks.map bX) j).1.kind = (kth ks j).1.kind := fun j => by rw [Sj]; rfl
 have e3 : ∀ m j, brk m (kth (ks.map bX) j) = brk m (kth ks j) := fun m j => by rw [Sj]; rfl
 have e4 : ∀ m, Dr ((ks.map bX).take m) = Dr (ks.take m) := fun m => by rw [← List.map_take, Nk]
 have e5 : Dr (ks.map bX).tail = Dr ks.tail := by rw [← List.map_tail, Nk]
 have e6 : Zr (D4 i) (ks.map bX) = Zr i ks := by unfold Zr; rw [e1]; rfl
 have e7 : Kf (D4 i) = Kf i := rfl;obtain ⟨kd, ln, cl, num, tx⟩ := i;unfold Hs;simp only [e1, e2, e3, e4, e5, e6, e7, Nk, a4f, a96, List.length_map];rfl
theorem a1z (F : Fo) : ∀ n, D8 n (Ar F) = (D8 n F).map bX := by
 induction F with
 | nil => intro n; rfl
 | cons i k r ihk ihr =>
  intro n;show (D4 i, Hs n (D4 i) (D8 (Ej n i) (Ar k))) :: D8 n (Ar r) = (D4 i, Hs n i (D8 (Ej n i) k)) :: (D8 n r).map bX;rw [ihk, ihr, Yc]
theorem T3 {i : Inf} {k : Fo} (h : Ej 0 i = 0) (G : Fo) (e : Ar G = Ar (.cons i k .nil)) : Fb G.pre = Hs 0 i (D8 0 k) := by
 rw [L7, e];show Hs 0 (D4 i) (D8 (Ej 0 i) (Ar k)) = _;rw [h, a1z, Yc]
end
end Go.Proofs.YtoaplbljflhheaaGreat
