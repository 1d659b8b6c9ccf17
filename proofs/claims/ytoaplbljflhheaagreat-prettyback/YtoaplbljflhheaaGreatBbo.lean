/-
 Contracts and plain facts on the way to PrettyBack. Conditions: as each says.
-/
import Derived.Test.YtoaplbljflhheaaGreatBag
import Derived.Test.YtoaplbljflhheaaGreatBbm
import Derived.Test.YtoaplbljflhheaaGreatBbk
import Derived.Test.YtoaplbljflhheaaGreatBar
set_option maxHeartbeats 40000000
set_option maxRecDepth 100000
set_option linter.unusedVariables false
set_option linter.unusedSimpArgs false
namespace Go.Proofs.YtoaplbljflhheaaGreat
open _root_.Go.Proofs.Tryz
section
open Go.RowKit
def Qv (w : World) (b o : Nat) (l : List Nd) : Prop := ∀ i, i < l.length -> At w b (o + i * 6) (nd l i) ∧ (nd l i).wf
theorem Qv.carry {w w' : World} {b o : Nat} {l : List Nd} (h : Qv w b o l) (hb : Below w.heap.size w w') : Qv w' b o l := fun i hi => ⟨(h i hi).1.carry hb, (h i hi).2⟩
theorem Row.block {w : World} {a : Option Addr} {l : List Nd} (h : Row w a l) (hl : l ≠ []) : ∃ b o, a = some ⟨b, o, none⟩ ∧ Qv w b o l := by
 obtain ⟨b, o, h1, _⟩ := h 0 (List.length_pos_iff.2 hl);refine ⟨b, o, h1, fun i hi => ?_⟩;obtain ⟨b', o', h2, h3, h4⟩ := h i hi;rw [h1] at h2;cases h2;exact ⟨h3, h4⟩
theorem a34 {w : World} {B : Nat} (hB : B <= w.heap.size) : Qk (w.alloc (.cells #[] 3)) B (.slice (some ⟨w.heap.size, 0, none⟩) 0 0) [] :=
 World.ownsRow_made w #[] 0 hB (by decide) rfl
end
section
open Go.RowKit Go.Sort
theorem We (l : List UInt8) (a b : Nat) : (∀ T, F8 l a b = .ok T -> Ya T ∧ T.length <= l.length + 1) ∧ (∀ f, F8 l a b = .error f -> f.1 ≠ 0) := by
 induction l, a, b using F8.induct with
 | case1 a b =>
  rw [L6]
  exact ⟨fun T h => by cases h; exact ⟨⟨[], _, rfl, rfl⟩, by simp⟩, fun f h => by cases h⟩
 | case2 l a b hl h1 ih =>
  rw [F8, dif_neg hl, if_pos h1]
  exact ⟨fun T h => ⟨(ih.1 T h).1, by have := (ih.1 T h).2; simp at this; omega⟩, ih.2⟩
 | case3 l a b hl h1 h2 ih =>
  rw [F8, dif_neg hl, if_neg h1, if_pos h2]
  exact ⟨fun T h => ⟨(ih.1 T h).1, by have := (ih.1 T h).2; simp at this; omega⟩, ih.2⟩
 | case4 l a b hl h1 h2 h3 ih =>
  rw [F8, dif_neg hl, if_neg h1, if_neg h2, if_pos h3]
  exact ⟨fun T h => ⟨(ih.1 T h).1, by have := (ih.1 T h).2; simp at this; omega⟩, ih.2⟩
 | case5 l a b hl h1 h2 h3 h4 ih =>
  rw [F8, dif_neg hl, if_neg h1, if_neg h2, if_neg h3, dif_pos h4];have hk := Pk l hl h4
  cases ht : F8 (l.drop (one l).size) a (b + (one l).size) with
  | ok T0 =>
   refine ⟨fun T h => ?_, fun f h => by cases h⟩;cases h;obtain ⟨⟨x, e, hx, he⟩, hl2⟩ := ih.1 T0 ht;refine ⟨⟨_ :: x, e, by rw [hx]; rfl, he⟩, ?_⟩
   simp at hl2 ⊢; omega
  | error f => exact ⟨fun T h => (by cases h), fun g h => (by cases h; exact ih.2 _ ht)⟩
 | case6 l a b hl h1 h2 h3 h4 =>
  rw [F8, dif_neg hl, if_neg h1, if_neg h2, if_neg h3, dif_neg h4];exact ⟨fun T h => (by cases h), fun f h => (by cases h; exact h4)⟩
def Jt (p : Nat -> Pt) (s : List UInt8) : List Nd × (Int × Nat × Nat) :=
 if 65536 < s.length then ([], (3, 0, 0)) else match F8 s 1 1 with
  | .error f => ([], f)
  | .ok T => match Ig (p T.length) T with
   | .ok F _ => (F.pre, (0, 0, 0))
   | .bad c l k => ([], (c, l, k))
def b1s (w : World) (q : List Nd × (Int × Nat × Nat)) (e : Ending) (w' : World) : Prop := ∃ a n cap, e = .returned (.tuple #[.slice a n cap, fV q.2]) ∧ q.1.length = n ∧ n <= 600000 ∧ a6y w' a q.1 ∧ (∀ g o, a = some ⟨g, o, none⟩ -> w.heap.size <= g) ∧ Below w.heap.size w w'
def a1q (f : FuncId) (p : Nat -> Pt) : Prop := (∀ args w, (callFunc f args).run prog w = .ok (.enter f args) w) ∧ (∀ ⦃w : World⦄ ⦃b tb to tc : Nat⦄ ⦃T : List Tok⦄ ⦃v : Value⦄, Sit w b tb to tc T 0 0 v [] T.length T -> Calls prog f #[pR b] w (Fc b tb to tc T 0 [] w (p T.length 0 T))) ∧
 ∀ T F r, p T.length 0 T = .ok F r -> F.cnt + r.length <= T.length + 1 ∧ (Ya T -> Ya r)
theorem Z7 (s : ByteArray) (w : World) : Calls prog 62 #[.string s] w (b6j w (if 65536 < s.data.toList.length then .error (3, 0, 0) else F8 s.data.toList 1 1)) := by
 by_cases h : 65536 < s.data.toList.length
 ·rw [if_pos h];exact Wf s w (by rw [Ad] at h; omega)
 ·rw [if_neg h];exact Wg s w (by rw [Ad] at h; omega) _ (zz rfl)
theorem b4f {w : World} {B g cap n : Nat} {T : List Tok} (h : Qx w B (.slice (some ⟨g, 0, none⟩) n cap) T) {i : Nat} {t : Tok} (hi : T[i]? = some t) : TAt w g (0 + i * 5) t := by
 have hlt : i < T.length := (List.getElem?_eq_some_iff.1 hi).1
 have hc : ∀ j u, j < 5 -> (Gq t)[j]? = some u -> w.cell? ⟨g, 0 + i * 5 + j, none⟩ = some u := fun j u hj hu => by
  have := World.ownsRow.cells h (g := g) rfl (i * 5 + j) u (by
   have hD : T = T.take i ++ t :: T.drop (i + 1) := by
    rw [List.getElem?_eq_getElem hlt] at hi;rw [<- Option.some.inj hi];simp
   rw [hD, Yp, List.getElem?_append_right (by rw [Yo, List.length_take]; omega), Yo, List.length_take, show i * 5 + j - min i T.length * 5 = j by rw [Nat.min_eq_left (by omega)]; omega];unfold a29;rw [List.flatMap_cons, List.getElem?_append_left (by simp [Gq]; omega)]
   exact hu)
  rw [D7] at this
  rwa [Nat.zero_add]
 exact ⟨by simpa using hc 0 _ (by decide) rfl, hc 1 _ (by decide) rfl, hc 2 _ (by decide) rfl, hc 3 _ (by decide) rfl, hc 4 _ (by decide) rfl⟩
theorem b6l {w w1 : World} (hb : Below (w.alloc (.cells #[.int .i64 0, .int .i64 0, .int .i64 0] 31)).heap.size (w.alloc (.cells #[.int .i64 0, .int .i64 0, .int .i64 0] 31)) w1) :
  w1.cell? ⟨w.heap.size, 0, none⟩ = some (.int .i64 0) ∧ w1.cell? ⟨w.heap.size, 1, none⟩ = some (.int .i64 0) ∧ w1.cell? ⟨w.heap.size, 2, none⟩ = some (.int .i64 0) ∧ (∀ o, w1.frozen? ⟨w.heap.size, o, none⟩ = false) ∧ w.heap.size + 1 <= w1.heap.size := by
 have hz := hb.size;simp only [World.size_alloc] at hz;refine ⟨?_, ?_, ?_, fun o => ?_, hz⟩
 ·rw [(Cr hb).1 _ _ (by simp)]; simp [go_sem]
 ·rw [(Cr hb).1 _ _ (by simp)]; simp [go_sem]
 ·rw [(Cr hb).1 _ _ (by simp)]; simp [go_sem]
 ·rw [(Cr hb).2 _ _ (by simp)]; simp [go_sem]
theorem Yv (s : ByteArray) (w : World) (f : FuncId) (c : Int) (l k : Nat) (hc : c ≠ 0) (HT : Hid (∀ w, Calls prog 62 #[.string s] w (b6j w (.error (c, l, k))))) :
  Calls prog 37 #[.string s, .func (.func f) #[] #[]] w (b1s w ([], (c, l, k))) := by
 have hc2 : (c != 0) = true := by simpa using hc
 go_enter func37, ntmps37;go_wp2_with fail;refine (HT.out _).mono ?_;rintro e w1 ⟨v, rfl, ho, hb⟩;simp only [c0i];obtain ⟨z0, z1, z2, zf, hz⟩ := b6l hb;replace hb := zz (Ab (Aa _ _) hb);have hz' : w.heap.size < w1.heap.size := by omega
 have d0 := fun O => Ae z0 O
 have d1 := fun O => Ae z1 O
 have d2 := fun O => Ae z2 O
 have d3 := fun o O => Na z0 (zf o) O
 clear ho;go_wp2_with fail;go_region
 all_goals (go_wp2_with fail)
 all_goals (refine bodyPost_ret (v := .tuple #[.slice none 0 0, fV (c, l, k)]) (by simp [results, results37, go_sem, z0, z1, z2, hz']) rfl ⟨none, 0, 0, rfl, rfl, by omega, fun i hi => absurd hi (by simp), (fun g o e => by cases e), ?_⟩)
 all_goals (have hbb := hb.out)
 all_goals (clear hb)
 all_goals (go_grown)
theorem Sp {w1 : World} {B : Nat} {v : Value} {T : List Tok} (ho : Qx w1 B v T) (hE : Ya T) (hl : T.length <= 65537) (a b c : Int) :
  ∃ tb tc, v = .slice (some ⟨tb, 0, none⟩) T.length tc ∧ Sit ((w1.alloc (.cells #[.int .i64 a, .int .i64 b, .int .i64 c] 31)).alloc (.cells #[v, .int .i64 0, .int .i64 0, .slice none 0 0, .int .i64 0, .int .i64 0, .int .i64 0] 87)) (w1.heap.size + 1) tb 0 tc T 0 0 (.slice none 0 0) [] T.length T := by
 rcases ho.2 with ⟨_, h0⟩ | ⟨g, cap, cur, hv, hg, hh, hr⟩
 ·obtain ⟨t, l, rfl⟩ := hE.ne;simp at h0
 ·refine ⟨g, cap, hv, ?_⟩;have hlt := Ay hh;rw [hv] at ho ⊢;have hb : Below w1.heap.size w1 ((w1.alloc (.cells #[.int .i64 a, .int .i64 b, .int .i64 c] 31)).alloc (.cells #[.slice (some ⟨g, 0, none⟩) T.length cap, .int .i64 0, .int .i64 0, .slice none 0 0, .int .i64 0, .int .i64 0, .int .i64 0] 87)) := by go_grown
  refine ⟨⟨by simp [go_sem], by simp [go_sem], by simp [go_sem], by simp [go_sem], ⟨_, by simp [go_sem]; rfl⟩, ⟨_, by simp [go_sem]; rfl⟩, ⟨_, by simp [go_sem]; rfl⟩, fun o => by simp [go_sem], fun i t ht => (b4f ho ht).of (hb.block g hlt), by omega, by omega, World.ownsRow_nil _ _ 37 6⟩, rfl, hE, Nat.le_refl _, by simp; omega, by omega⟩
theorem At.of_block {w w' : World} {b o : Nat} {n : Nd} (h : At w b o n) (e : w'.heap[b]? = w.heap[b]?) : At w' b o n :=
 ⟨by rw [World.cell?_of_block (w := w) e]; exact h.c0, by rw [World.cell?_of_block (w := w) e]; exact h.c1, by rw [World.cell?_of_block (w := w) e]; exact h.c2, by rw [World.cell?_of_block (w := w) e]; exact h.c3, by rw [World.cell?_of_block (w := w) e]; exact h.c4, by rw [World.cell?_of_block (w := w) e]; exact h.c5⟩
theorem b39 (s : ByteArray) (w : World) (f : FuncId) (p : Nat -> Pt) (hW : a1q f p) (T : List Tok) (hE : Ya T) (hl : T.length <= 65537) (HT : Hid (∀ w, Calls prog 62 #[.string s] w (b6j w (.ok T)))) (c : Int) (l k : Nat) (ho : p T.length 0 T = .bad c l k) :
  Calls prog 37 #[.string s, .func (.func f) #[] #[]] w (b1s w ([], (c, l, k))) := by
  obtain ⟨eg, hdo, hlf⟩ := hW;replace ho := zz ho;replace hdo := zz hdo;clear hlf;go_enter func37, ntmps37;go_wp2_with fail;refine (HT.out _).mono ?_;rintro e w1 ⟨v, rfl, hown, hb⟩;simp only [c0i];replace hown : Qx w1 (w.alloc (.cells #[.int .i64 0, .int .i64 0, .int .i64 0] 31)).heap.size v T := hown;obtain ⟨tb, tc, rfl, hS⟩ := Sp hown hE hl 0 0 0;obtain ⟨z0, z1, z2, zf, hz⟩ := b6l hb;replace hb := zz (Ab (Aa _ _) hb);obtain ⟨V, hV⟩ : ∃ V, V = (w1.alloc (.cells #[.int .i64 0, .int .i64 0, .int .i64 0] 31)).alloc (.cells #[.slice (some ⟨tb, 0, none⟩) T.length tc, .int .i64 0, .int .i64 0, .slice none 0 0, .int .i64 0, .int .i64 0, .int .i64 0] 87) := ⟨_, rfl⟩;rw [<- hV] at hS;have HB1 : Hid (Below w1.heap.size w1 V) := zz (by rw [hV]; go_grown);have HC := zz (D5 (hdo.out hS) ho.out);replace hV := zz hV;clear hown hS;go_wp2_with fail;rw [<- hV.out];refine HC.out.mono ?_;rintro e w2 ⟨rfl, rf, fr⟩;have y0 := (World.cell?_of_block (w := V) (a := ⟨w.heap.size, 0, none⟩) (fr.low w.heap.size (by omega))).trans (Ac HB1.out z0);have y1 := (World.cell?_of_block (w := V) (a := ⟨w.heap.size, 1, none⟩) (fr.low w.heap.size (by omega))).trans (Ac HB1.out z1);have y2 := (World.cell?_of_block (w := V) (a := ⟨w.heap.size, 2, none⟩) (fr.low w.heap.size (by omega))).trans (Ac HB1.out z2);have yf := fun o => (World.frozen?_of_block (w := V) (a := ⟨w.heap.size, o, none⟩) (fr.low w.heap.size (by omega))).trans (C2 HB1.out z0 (zf o))
  have HBW : Hid (Below w.heap.size w w2) := zz (hb.out.trans ((HB1.out.mono (by omega)).trans ⟨fr.os, fr.tape, fr.output, fr.size, fun k hk => fr.low k (by omega)⟩));have hz2 : w.heap.size < w2.heap.size := block_lt_of_cell y0;have r4 := rf.c4;have r5 := rf.c5;have r6 := rf.c6;have hbl := rf.lt;replace fr := zz fr;clear z0 z1 z2 zf rf;go_wp2_with fail;go_region
  all_goals (go_wp2_with fail)
  all_goals (refine bodyPost_ret (v := .tuple #[.slice none 0 0, fV (c, l, k)]) (by simp [results, results37, go_sem, y0, y1, y2, hz2]) rfl ⟨none, 0, 0, rfl, rfl, by omega, fun i hi => absurd hi (by simp), (fun g o e => by cases e), ?_⟩)
  all_goals (have hbb := HBW.out)
  all_goals (clear HBW hb HB1 fr)
  all_goals (go_grown)
theorem a3j (s : ByteArray) (w : World) (f : FuncId) (p : Nat -> Pt) (hW : a1q f p) (T : List Tok) (hE : Ya T) (hl : T.length <= 65537) (HT : Hid (∀ w, Calls prog 62 #[.string s] w (b6j w (.ok T)))) (F : Fo) (r : List Tok) (ho : p T.length 0 T = .ok F r) (hk : ¬ (hd r).kind = 8) :
  Calls prog 37 #[.string s, .func (.func f) #[] #[]] w (b1s w ([], (5, (hd r).line, (hd r).col))) := by
  obtain ⟨eg, hdo, hlf⟩ := hW;have hlr := hlf T F r ho;obtain ⟨l, hll⟩ : ∃ l, (hd r).line = l := ⟨_, rfl⟩;obtain ⟨k, hkk⟩ : ∃ k, (hd r).col = k := ⟨_, rfl⟩;rw [hll, hkk];obtain ⟨c, hc⟩ : ∃ c : Int, c = 5 := ⟨5, rfl⟩;rw [<- hc];replace ho := zz ho;replace hdo := zz hdo;replace hlr := zz hlr;replace hk := zz hk;replace hll := zz hll;replace hkk := zz hkk;replace hc := zz hc;clear hlf;go_enter func37, ntmps37;go_wp2_with fail;refine (HT.out _).mono ?_;rintro e w1 ⟨v, rfl, hown, hb⟩;simp only [c0i];replace hown : Qx w1 (w.alloc (.cells #[.int .i64 0, .int .i64 0, .int .i64 0] 31)).heap.size v T := hown;obtain ⟨tb, tc, rfl, hS⟩ := Sp hown hE hl 0 0 0;obtain ⟨z0, z1, z2, zf, hz⟩ := b6l hb;replace hb := zz (Ab (Aa _ _) hb);obtain ⟨V, hV⟩ : ∃ V, V = (w1.alloc (.cells #[.int .i64 0, .int .i64 0, .int .i64 0] 31)).alloc (.cells #[.slice (some ⟨tb, 0, none⟩) T.length tc, .int .i64 0, .int .i64 0, .slice none 0 0, .int .i64 0, .int .i64 0, .int .i64 0] 87) := ⟨_, rfl⟩;rw [<- hV] at hS;have HB1 : Hid (Below w1.heap.size w1 V) := zz (by rw [hV]; go_grown);have HC := zz (J1 (hdo.out hS) ho.out);replace hV := zz hV;replace hS := zz hS;clear hown;go_wp2_with fail;rw [<- hV.out];refine HC.out.mono ?_;rintro e w2 ⟨rfl, ⟨at', v', hdr, hrd⟩, fr0⟩;have hS2 : Sit w2 (w1.heap.size + 1) tb 0 tc T at' 0 v' ([] ++ F.post) 600000 r := ⟨hrd, hdr, hlr.out.2 hE, by have := hlr.out.1; omega, by have := hlr.out.1; simp [Ao]; omega, by omega⟩;have HN := zz (c0k hS2 hk.out);have hbl2 := hS2.rd.lt;replace fr0 := zz fr0;clear hdr hrd hS2;go_wp2_with fail;refine HN.out.mono ?_;rintro e w3 ⟨rfl, rf, on⟩;have fr := fr0.out.trans (Fr.only on (by omega));rw [hll.out, hkk.out, <- hc.out] at rf;clear on;have y0 := (World.cell?_of_block (w := V) (a := ⟨w.heap.size, 0, none⟩) (fr.low w.heap.size (by omega))).trans (Ac HB1.out z0);have y1 := (World.cell?_of_block (w := V) (a := ⟨w.heap.size, 1, none⟩) (fr.low w.heap.size (by omega))).trans (Ac HB1.out z1);have y2 := (World.cell?_of_block (w := V) (a := ⟨w.heap.size, 2, none⟩) (fr.low w.heap.size (by omega))).trans (Ac HB1.out z2);have yf := fun o => (World.frozen?_of_block (w := V) (a := ⟨w.heap.size, o, none⟩) (fr.low w.heap.size (by omega))).trans (C2 HB1.out z0 (zf o))
  have HBW : Hid (Below w.heap.size w w3) := zz (hb.out.trans ((HB1.out.mono (by omega)).trans ⟨fr.os, fr.tape, fr.output, fr.size, fun k hk => fr.low k (by omega)⟩));have hz2 : w.heap.size < w3.heap.size := block_lt_of_cell y0;have r4 := rf.c4;have r5 := rf.c5;have r6 := rf.c6;have hbl := rf.lt;replace fr := zz fr;clear z0 z1 z2 zf rf;go_wp2_with fail;go_region
  all_goals (go_wp2_with fail)
  all_goals (refine bodyPost_ret (v := .tuple #[.slice none 0 0, fV (c, l, k)]) (by simp [results, results37, go_sem, y0, y1, y2, hz2]) rfl ⟨none, 0, 0, rfl, rfl, by omega, fun i hi => absurd hi (by simp), (fun g o e => by cases e), ?_⟩)
  all_goals (have hbb := HBW.out)
  all_goals (clear HBW hb HB1 fr)
  all_goals (go_grown)
theorem a8o (s : ByteArray) (w : World) (f : FuncId) (p : Nat -> Pt) (hW : a1q f p) (T : List Tok) (hE : Ya T) (hl : T.length <= 65537) (HT : Hid (∀ w, Calls prog 62 #[.string s] w (b6j w (.ok T)))) (F : Fo) (r : List Tok) (ho : p T.length 0 T = .ok F r) (hk : (hd r).kind = 8) :
  Calls prog 37 #[.string s, .func (.func f) #[] #[]] w (b1s w (F.pre, (0, 0, 0))) := by
  obtain ⟨eg, hdo, hlf⟩ := hW;have hlr := hlf T F r ho;have hcnt : F.cnt <= 600000 := by have := hlr.1; omega
  replace ho := zz ho;replace hdo := zz hdo;replace hlr := zz hlr;replace hk := zz hk;clear hlf;go_enter func37, ntmps37;go_wp2_with fail;refine (HT.out _).mono ?_;rintro e w1 ⟨v, rfl, hown, hb⟩;simp only [c0i];replace hown : Qx w1 (w.alloc (.cells #[.int .i64 0, .int .i64 0, .int .i64 0] 31)).heap.size v T := hown;obtain ⟨tb, tc, rfl, hS⟩ := Sp hown hE hl 0 0 0;obtain ⟨z0, z1, z2, zf, hz⟩ := b6l hb;replace hb := zz (Ab (Aa _ _) hb);obtain ⟨V, hV⟩ : ∃ V, V = (w1.alloc (.cells #[.int .i64 0, .int .i64 0, .int .i64 0] 31)).alloc (.cells #[.slice (some ⟨tb, 0, none⟩) T.length tc, .int .i64 0, .int .i64 0, .slice none 0 0, .int .i64 0, .int .i64 0, .int .i64 0] 87) := ⟨_, rfl⟩;rw [<- hV] at hS;have HB1 : Hid (Below w1.heap.size w1 V) := zz (by rw [hV]; go_grown);have HC := zz (J1 (hdo.out hS) ho.out);replace hV := zz hV;replace hS := zz hS;clear hown;go_wp2_with fail;rw [<- hV.out];refine HC.out.mono ?_;rintro e w2 ⟨rfl, ⟨at', v', hdr, hrd⟩, fr0⟩;have hS2 : Sit w2 (w1.heap.size + 1) tb 0 tc T at' 0 v' ([] ++ F.post) 600000 r := ⟨hrd, hdr, hlr.out.2 hE, by have := hlr.out.1; omega, by have := hlr.out.1; simp [Ao]; omega, by omega⟩;have HN := zz (b5n hS2 hk.out);have hbl2 := hS2.rd.lt;replace fr0 := zz fr0;replace hS2 := zz hS2;clear hdr hrd;go_wp2_with fail;refine HN.out.mono ?_;rintro e w3 ⟨rfl, on⟩;have fr := fr0.out.trans (Fr.only (Onl.below on) (by omega));have hrd3 := hS2.out.rd.carry on;obtain ⟨a3, m3, cap3, a4, cap4, hv3, hcut, hrow, hle3⟩ := a50 hrd3 0 rfl;obtain ⟨n3, hn3⟩ : ∃ n3, F.cnt = n3 := ⟨_, rfl⟩
  have hrow3 : a6y w3 a3 F.post ∧ m3 = n3 := by
   have ho := hrd3.own;rw [hv3] at ho;rcases ho.2 with ⟨h1, h2⟩ | ⟨g, cap, cur, h1, h2⟩
   ·cases h1;rw [List.nil_append, Ao] at h2;exact ⟨fun i hi => absurd hi (by rw [Ao]; omega), by omega⟩
   ·cases h1;rw [List.nil_append] at ho;refine ⟨fun i hi => ⟨g, 0, rfl, ?_⟩, by rw [List.nil_append, Ao]; exact hn3⟩;have := b14 ho (i := i) (t := nd F.post i) (by unfold nd; simp [List.getD, hi])
    rwa [Nat.zero_add]
  obtain ⟨hrow3, rfl⟩ := hrow3;have c3 := hrd3.c3;rw [hv3] at c3;have hA := a6w F (fun _ => nd0);rw [hn3] at hA hcnt;have HA := zz (a6v (cap := cap3) (zz (show F.post.length = m3 by rw [Ao]; exact hn3)) hcnt (zz hrow3) (zz hA.2));rw [hA.1] at HA;have hbl3 := hrd3.lt;have y0 := (World.cell?_of_block (w := V) (a := ⟨w.heap.size, 0, none⟩) (fr.low w.heap.size (by omega))).trans (Ac HB1.out z0);have y1 := (World.cell?_of_block (w := V) (a := ⟨w.heap.size, 1, none⟩) (fr.low w.heap.size (by omega))).trans (Ac HB1.out z1);have y2 := (World.cell?_of_block (w := V) (a := ⟨w.heap.size, 2, none⟩) (fr.low w.heap.size (by omega))).trans (Ac HB1.out z2);have yf := fun o => (World.frozen?_of_block (w := V) (a := ⟨w.heap.size, o, none⟩) (fr.low w.heap.size (by omega))).trans (C2 HB1.out z0 (zf o))
  have HBW : Hid (Below w.heap.size w w3) := zz (hb.out.trans ((HB1.out.mono (by omega)).trans ⟨fr.os, fr.tape, fr.output, fr.size, fun k hk => fr.low k (by omega)⟩));have hz2 : w.heap.size < w3.heap.size := block_lt_of_cell y0;replace fr := zz fr;replace hn3 := zz hn3;replace on := zz on;clear z0 z1 z2 zf hcut hrow hrow3 hv3 hrd3 hA hle3;go_wp2_with fail;refine HA.out.mono ?_;rintro e w4 ⟨g, rfl, hg, hat, hb4⟩;have x0 := Ac hb4 y0;have x1 := Ac hb4 y1;have x2 := Ac hb4 y2;have xf := fun o => C2 hb4 y0 (yf o)
  replace HBW := zz (Ab HBW.out hb4);have hgw : w.heap.size < g := by omega
  have hz4 : w.heap.size < w4.heap.size := block_lt_of_cell x0;replace hat := zz hat;clear y0 y1 y2 yf;replace hb4 := zz hb4;go_wp2_with fail;refine bodyPost_ret (v := .tuple #[.slice (some ⟨g, 0, none⟩) m3 m3, fV (0, 0, 0)]) (by simp [results, results37, go_sem, x0, x1, x2, hz4]) rfl ⟨some ⟨g, 0, none⟩, m3, m3, rfl, by rw [Cz]; exact hn3.out, by omega, fun i hi => ?_, (fun g' o' e => by cases e; omega), ?_⟩
  ·have hi2 : i < m3 := by rw [Cz, hn3.out] at hi; exact hi
   have := hat.out i hi2;rw [show Kc (fun _ => nd0) 0 F.pre i = nd F.pre i by unfold Kc; rw [if_pos (by simp [Cz, hn3.out]; exact hi2)]; simp] at this;refine ⟨g, 0, rfl, ?_⟩;rw [Nat.zero_add];exact this.of_block (by rw [Below.heap_setCell _ _ _ _ (by simp; omega), Below.heap_setCell _ _ _ _ (by simp; omega), Below.heap_setCell _ _ _ _ (by simp; omega)])
  ·have hbb := HBW.out;clear HBW hb HB1 fr;go_grown
theorem Yw (s : ByteArray) (w : World) (f : FuncId) (p : Nat -> Pt) (hW : a1q f p) : Calls prog 37 #[.string s, .func (.func f) #[] #[]] w (b1s w (Jt p s.data.toList)) := by
 unfold Jt;have HT := fun w => Z7 s w
 by_cases hl : 65536 < s.data.toList.length
 ·rw [if_pos hl];simp only [if_pos hl] at HT;exact Yv s w f 3 0 0 (by decide) (zz HT)
 ·rw [if_neg hl];simp only [if_neg hl] at HT
  cases ht : F8 s.data.toList 1 1 with
  | error g =>
   rw [ht] at HT
   exact Yv s w f g.1 g.2.1 g.2.2 ((We _ _ _).2 g ht) (zz HT)
  | ok T =>
   rw [ht] at HT;obtain ⟨hE, hTl⟩ := (We _ _ _).1 T ht;have hTl2 : T.length <= 65537 := by omega
   simp only [Ig]
   cases ho : p T.length 0 T with
   | bad c l k => exact b39 s w f p hW T hE hTl2 (zz HT) c l k ho
   | ok F r =>
    simp only [Out.bind];by_cases hk : (hd r).kind = 8
    ·rw [if_pos hk];exact a8o s w f p hW T hE hTl2 (zz HT) F r ho hk
    ·rw [if_neg hk];exact a3j s w f p hW T hE hTl2 (zz HT) F r ho hk
theorem Zy : a1q 39 Bu := ⟨by intro args w; simp [go_sem], fun w b tb to tc T v h => Vo T.length h, fun T F r e => by
 have := S4 T.length 0 T F r e
 exact ⟨by have := this.1; omega, this.2.1⟩⟩
theorem Zx : a1q 38 Ju := ⟨by intro args w; simp [go_sem], fun w b tb to tc T v h => a3o h T.length (Nat.le_refl _), fun T F r e => by
 obtain ⟨F1, r1, e1, e2⟩ := Af e;cases e2;have := b0g (Xs T.length) T.length _ _ _ _ e1
 exact ⟨by have := this.1; simp [Fo.cnt]; omega, this.2.1⟩⟩
theorem b0u (s : ByteArray) (w : World) : Calls prog 21 #[.string s] w (b1s w (Jt Bu s.data.toList)) := by
 have H := zz (fun w => Yw s w 39 Bu Zy);obtain ⟨⟨L, c, l, k⟩, hq⟩ : ∃ q, Jt Bu s.data.toList = q := ⟨_, rfl⟩;rw [hq] at H ⊢;clear hq;go_enter func21, ntmps21;go_wp2_with fail;refine (H.out _).mono ?_;rintro e w1 ⟨a, n, cap, rfl, hn, hn2, hr, hg, hb⟩;obtain ⟨z0, z1, z2, zf, hz⟩ := b6l hb;have hz' : w.heap.size < w1.heap.size := by omega
 have HB := zz (Ab (Aa _ _) hb);replace hr := zz hr;replace hn := zz hn;replace hg := zz hg;clear hb;go_wp2_with fail;refine bodyPost_ret (v := .tuple #[.slice a n cap, fV (c, l, k)]) (by simp [results, results21, go_sem, z0, z1, z2]) rfl ⟨a, n, cap, rfl, hn.out, hn2, fun i hi => ?_, fun g o e => (by have := hg.out g o e; simp at this; omega), ?_⟩
 ·obtain ⟨g, o, rfl, hat⟩ := hr.out i hi;have hgg := hg.out g o rfl;simp at hgg;refine ⟨g, o, rfl, hat.of_block ?_⟩;rw [Below.heap_setCell _ _ _ _ (by simp; omega), Below.heap_setCell _ _ _ _ (by simp; omega), Below.heap_setCell _ _ _ _ (by simp; omega)]
 ·have hbb := HB.out;clear HB hg hr;go_grown
theorem Rk (s : ByteArray) (w : World) : Calls prog 19 #[.string s] w (b1s w (Jt Ju s.data.toList)) := by
 have H := zz (fun w => Yw s w 38 Ju Zx);obtain ⟨⟨L, c, l, k⟩, hq⟩ : ∃ q, Jt Ju s.data.toList = q := ⟨_, rfl⟩;rw [hq] at H ⊢;clear hq;go_enter func19, ntmps19;go_wp2_with fail;refine (H.out _).mono ?_;rintro e w1 ⟨a, n, cap, rfl, hn, hn2, hr, hg, hb⟩;obtain ⟨z0, z1, z2, zf, hz⟩ := b6l hb;have hz' : w.heap.size < w1.heap.size := by omega
 have HB := zz (Ab (Aa _ _) hb);replace hr := zz hr;replace hn := zz hn;replace hg := zz hg;clear hb;go_wp2_with fail;refine bodyPost_ret (v := .tuple #[.slice a n cap, fV (c, l, k)]) (by simp [results, results19, go_sem, z0, z1, z2]) rfl ⟨a, n, cap, rfl, hn.out, hn2, fun i hi => ?_, fun g o e => (by have := hg.out g o e; simp at this; omega), ?_⟩
 ·obtain ⟨g, o, rfl, hat⟩ := hr.out i hi;have hgg := hg.out g o rfl;simp at hgg;refine ⟨g, o, rfl, hat.of_block ?_⟩;rw [Below.heap_setCell _ _ _ _ (by simp; omega), Below.heap_setCell _ _ _ _ (by simp; omega), Below.heap_setCell _ _ _ _ (by simp; omega)]
 ·have hbb := HB.out;clear HB hg hr;go_grown
end
end Go.Proofs.YtoaplbljflhheaaGreat
