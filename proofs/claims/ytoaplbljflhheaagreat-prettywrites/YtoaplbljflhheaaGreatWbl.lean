/-
 Contracts and plain facts on the way to PrettyWrites. Conditions: as each says.
-/
import Derived.Deep.OwnRows
import Derived.WalkSmall
import Derived.Test.YtoaplbljflhheaaGreatWaj
import Derived.Test.YtoaplbljflhheaaGreatWbk
import Derived.Test.YtoaplbljflhheaaGreatWag
import Derived.Test.YtoaplbljflhheaaGreatWbd
import Derived.Test.YtoaplbljflhheaaGreatWar
set_option maxHeartbeats 40000000
set_option maxRecDepth 100000
set_option linter.unusedVariables false
set_option linter.unusedSimpArgs false
namespace Go.Proofs.YtoaplbljflhheaaGreat
section
def Iu (k : Nat) : List Nat → List Nat
 | [] => []
 | x :: l => if k < x then Iu k l else x :: l
def szN (l : List Nd) (k : Nat) : Nat := (nd l k).size.toNat
def Wj (row : Nat → Nd) (p : Nat) (t : Nd) : Nat → Nd := fun x => if x = p then t else row x
def Gu (row : Nat → Nd) (p : Nat) (l : List Nd) : Nat → Nd := fun x => if p ≤ x ∧ x < p + l.length then nd l (x - p) else row x
def G8 (l : List Nd) : Nat → List Nat → (Nat → Nd) → (Nat → Nd)
 | 0, _, row => row
 | k + 1, st, row => G8 l k ((k - szN l k) :: Iu k st) (Wj row (k - szN l k + (Iu k st).length) (nd l k))
def okG (l : List Nd) (n : Nat) : Nat → List Nat → Prop
 | 0, _ => True
 | k + 1, st => (nd l k).size = (szN l k : Nat) ∧ szN l k ≤ k ∧ k - szN l k + (Iu k st).length < n ∧ okG l n k ((k - szN l k) :: Iu k st)
theorem a16 {k : Nat} {junk st : List Nat} (hj : ∀ x ∈ junk, k < x) (hs : ∀ x ∈ st, x ≤ k) : Iu k (junk ++ st) = st := by
 induction junk with
 | nil =>
  cases st with
  | nil => rfl
  | cons x l =>
   have := hs x (by simp)
   rw [List.nil_append, Iu, if_neg (by omega)]
 | cons x l ih =>
  rw [List.cons_append, Iu, if_pos (hj x (by simp))]
  exact ih fun y hy => hj y (by simp [hy])
theorem Ri {a b : List Nd} {i : Nat} (h : i < a.length) : nd (a ++ b) i = nd a i := by
 unfold nd
 rw [List.getD_eq_getElem?_getD, List.getD_eq_getElem?_getD, List.getElem?_append_left h]
theorem Ji {a b : List Nd} {i : Nat} : nd (a ++ b) (a.length + i) = nd b i := by
 unfold nd
 rw [List.getD_eq_getElem?_getD, List.getD_eq_getElem?_getD, List.getElem?_append_right (by omega), show a.length + i - a.length = i by omega]
theorem Yl (row : Nat → Nd) (p : Nat) : Gu row p [] = row := by
 funext x
 unfold Gu
 rw [if_neg (by intro h; simp at h; omega)]
theorem Uz (row : Nat → Nd) (p : Nat) (t : Nd) (a b : List Nd) : Gu (Wj (Gu row (p + a.length + 1) b) p t) (p + 1) a = Gu row p (t :: (a ++ b)) := by
 funext x
 unfold Gu Wj
 by_cases h1 : p + 1 ≤ x ∧ x < p + 1 + a.length
 ·rw [if_pos h1, if_pos (by simp; omega), show x - p = (x - (p + 1)) + 1 by omega]
  unfold nd
  rw [List.getD_eq_getElem?_getD, List.getD_eq_getElem?_getD, List.getElem?_cons_succ, List.getElem?_append_left (by omega)]
 ·rw [if_neg h1]
  by_cases h2 : x = p
  ·rw [if_pos h2, if_pos (by simp; omega), h2, Nat.sub_self]; rfl
  ·rw [if_neg h2]
   simp only
   by_cases h3 : p + a.length + 1 ≤ x ∧ x < p + a.length + 1 + b.length
   ·rw [if_pos h3, if_pos (by simp; omega), show x - p = (a.length + (x - (p + a.length + 1))) + 1 by omega]
    unfold nd
    rw [List.getD_eq_getElem?_getD, List.getD_eq_getElem?_getD, List.getElem?_cons_succ, List.getElem?_append_right (by omega), show a.length + (x - (p + a.length + 1)) - a.length = x - (p + a.length + 1) by omega]
   ·rw [if_neg h3, if_neg (by simp; omega)]
theorem Qa (l : List Nd) (n : Nat) (F : Fo) : ∀ (o : Nat) (st junk : List Nat), (∀ i, i < F.cnt → nd l (o + i) = nd F.post i) → (∀ x ∈ st, x ≤ o) → (∀ x ∈ junk, o + F.cnt ≤ x) → o + F.cnt + st.length ≤ n →
  ∃ junk' : List Nat, (∀ x ∈ junk', o ≤ x) ∧ (∀ row, G8 l (o + F.cnt) (junk ++ st) row = G8 l o (junk' ++ st) (Gu row (o + st.length) F.pre)) ∧ (okG l n o (junk' ++ st) → okG l n (o + F.cnt) (junk ++ st)) := by
 induction F with
 | nil => exact fun o st junk _ _ hj _ => ⟨junk, hj, fun row => by rw [Fo.pre, Yl]; rfl, id⟩
 | cons i k r ihk ihr =>
  intro o st junk hl hs hj hn
  have hc : (Fo.cons i k r).cnt = k.cnt + 1 + r.cnt := rfl
  rw [hc] at hl hj hn ⊢
  have hpk := A4 k
  have lk : ∀ x, x < k.cnt → nd l (o + x) = nd k.post x := fun x hx => by
   rw [hl x (by omega), Fo.post, Ri (by omega)]
  have lm : nd l (o + k.cnt) = i.nd k.cnt := by
   rw [hl k.cnt (by omega), Fo.post, ← hpk]
   exact Ji (i := 0)
  have lr : ∀ x, x < r.cnt → nd l (o + k.cnt + 1 + x) = nd r.post x := fun x hx => by
   rw [show o + k.cnt + 1 + x = o + (k.cnt + (1 + x)) by omega, hl _ (by omega), Fo.post, ← hpk, Ji, show 1 + x = x + 1 by omega]
   rfl
  obtain ⟨j1, h1, h2, h3⟩ := ihr (o + k.cnt + 1) st junk lr (fun x hx => by have := hs x hx; omega) (fun x hx => by have := hj x hx; omega) (by omega)
  obtain ⟨j2, h4, h5, h6⟩ := ihk o (o :: st) [] lk (fun x hx => by
   rcases List.mem_cons.1 hx with rfl | hx
   ·exact Nat.le_refl _
   ·exact hs x hx) (fun x hx => by cases hx) (by simp; omega)
  have hp : Iu (o + k.cnt) (j1 ++ st) = st := a16 (fun x hx => by have := h1 x hx; omega) (fun x hx => by have := hs x hx; omega)
  have hz : szN l (o + k.cnt) = k.cnt := by unfold szN; rw [lm]; simp [Inf.nd]
  refine ⟨j2 ++ [o], fun x hx => ?_, fun row => ?_, fun hok => ?_⟩
  ·rcases List.mem_append.1 hx with hx | hx
   ·exact h4 x hx
   ·simp at hx; omega
  ·rw [show o + (k.cnt + 1 + r.cnt) = o + k.cnt + 1 + r.cnt by omega, h2]
   show G8 l (o + k.cnt) ((o + k.cnt - szN l (o + k.cnt)) :: Iu (o + k.cnt) (j1 ++ st)) (Wj _ (o + k.cnt - szN l (o + k.cnt) + (Iu (o + k.cnt) (j1 ++ st)).length) (nd l (o + k.cnt))) = _
   rw [hp, hz, lm, show o + k.cnt - k.cnt = o by omega]
   have := h5 (Wj (Gu row (o + k.cnt + 1 + st.length) r.pre) (o + st.length) (i.nd k.cnt))
   rw [List.nil_append] at this
   rw [this, List.append_assoc]
   have hq := Uz row (o + st.length) (i.nd k.cnt) k.pre r.pre
   rw [Dl] at hq
   rw [show o + (o :: st).length = o + st.length + 1 by simp; omega, show o + k.cnt + 1 + st.length = o + st.length + k.cnt + 1 by omega, hq]
   rfl
  ·rw [show o + (k.cnt + 1 + r.cnt) = o + k.cnt + 1 + r.cnt by omega]
   refine h3 ⟨by rw [hz, lm]; rfl, by rw [hz]; omega, by rw [hp, hz]; omega, ?_⟩
   rw [hp, hz, show o + k.cnt - k.cnt = o by omega]
   have := h6 (by rw [List.append_assoc] at hok; exact hok)
   rw [List.nil_append] at this
   exact this
theorem a0p (F : Fo) (row : Nat → Nd) : G8 F.post F.cnt [] row = Gu row 0 F.pre ∧ okG F.post F.cnt F.cnt [] := by
 obtain ⟨j, h1, h2, h3⟩ := Qa F.post F.cnt F 0 [] [] (fun i hi => by rw [Nat.zero_add]) (fun x hx => by cases hx) (fun x hx => by cases hx) (by simp)
 simp only [Nat.zero_add, List.append_nil, List.length_nil] at h2 h3
 exact ⟨h2 row, h3 trivial⟩
end
end Go.Proofs.YtoaplbljflhheaaGreat
namespace Go.Proofs.YtoaplbljflhheaaGreat
section
open Go.RowKit Go.Sort
abbrev itv (k : Nat) : Value := .int .i64 (k : Nat)
theorem Tryz.info3 : (Tryz.prog.info? 3).map (fun i => (i.zero, i.size, i.bytes)) = some (some (.int .i64 0), 1, 8) := by kernel_rfl
def J7 (w : World) (B : Nat) (v : Value) (l : List Nat) : Prop := w.ownsRow B 3 1 v l.length (l.map itv)
theorem Jx (w : World) (B : Nat) : J7 w B (.slice none 0 0) [] := World.ownsRow_nil w B 3 1
theorem U7 {w w' : World} {B : Nat} {v : Value} {l : List Nat} (h : J7 w B v l) (hb : Below w.heap.size w w') : J7 w' B v l :=
 World.ownsRow.kept h (row := none) ⟨hb.os, hb.tape, hb.output, hb.size, fun k hk _ => hb.block k hk⟩ (by cases hv : v.ownBlock <;> simp)
theorem Yt {w : World} {B : Nat} {v : Value} {l : List Nat} (h : J7 w B v l) : (v = .slice none 0 0 ∧ l = []) ∨ ∃ g cap, v = .slice (some ⟨g, 0, none⟩) l.length cap ∧ l.length ≤ cap ∧ ∀ i, i < l.length → w.cell? ⟨g, i, none⟩ = some (itv (l.getD i 0)) := by
 rcases h.2 with ⟨rfl, hn⟩ | ⟨g, cap, cur, rfl, h2, h3, h4, h5⟩
 ·exact .inl ⟨rfl, List.eq_nil_of_length_eq_zero hn⟩
 ·have hown : w.ownsRow B 3 1 (.slice (some ⟨g, 0, none⟩) l.length cap) l.length (l.map itv) := h
  refine .inr ⟨g, cap, rfl, h4, fun i hi => ?_⟩
  rw [hown.cellAt i (by omega)]
  simp [List.getD, hi]
theorem a2b {w : World} {B : Nat} {g cap : Nat} {l : List Nat} {x : Nat} {m : Nat} (hm : l.length = m) (h : J7 w B (.slice (some ⟨g, 0, none⟩) (m + 1) cap) (l ++ [x])) : J7 w B (.slice (some ⟨g, 0, none⟩) m cap) l := by
 subst hm
 unfold J7 at *
 rw [List.length_append, List.map_append] at h
 exact ownsRow_pop (by simp) h
theorem Dj {ops : Array Oper} {rest : List Oper} {o : Oper} {a : Act} {Q : Exit → Act → World → Prop} {w : World} {news : Array Value} (hgd : o.guard = none) (s x : Operand)
  (ho : o.op = .call { callee := .builtin .append, args := #[s, x], argTypes := #[41, 41] }) (B : Nat) (v : Value) (l : List Nat) (t : Nat) (b : Nat) (hbw : w.heap.size = b) (hs : a.eval s = v)
  (hx : a.eval x = .slice (some ⟨b, 0, none⟩) 1 1) (hm : news.toList = [itv t]) (hown : J7 w B v l) (hB : B ≤ w.heap.size) (hl : l.length + 1 ≤ 100000000)
  (h : ∀ v' w', J7 w' B v' (l ++ [t]) → Below B w w' → wpList Tryz.prog ops Q rest (a.put o.dst v') w') : wpList Tryz.prog ops Q (o :: rest) a (w.alloc (.cells news 3)) := by
 subst hbw
 obtain ⟨i0, hi0, hz0, hz1, hz2⟩ := info_parts Tryz.info3
 have hown' : (w.alloc (.cells news 3)).ownsRow B 3 1 v l.length (l.map itv) := U7 hown (Aa w _)
 have hcell : ∀ j u, [itv t][j]? = some u → (w.alloc (.cells news 3)).cell? ((⟨w.heap.size, 0, none⟩ : Addr).add j) = some u := by
  intro j u hj
  rw [← hm] at hj
  rw [C8]
  simp at hj
  simp [go_sem, hj]
 refine wpList_append_own _ hgd s x 41 ho B 3 i0 _ 1 8 Tryz.underlying41 hi0 hz0 hz1 hz2 rfl (by decide) v l.length (l.map itv) hs hown' ⟨w.heap.size, 0, none⟩ 1 1 [itv t] hx (by simp) hcell ?_ ?_ ?_ ?_ ?_
 ·intro u hu
  obtain rfl : u = itv t := by simpa using hu
  rfl
 ·unfold maxLen; omega
 ·omega
 ·simp; omega
 ·intro v' w' h1 h2 _
  refine h v' w' ?_ (((Aa w _).mono hB).trans ((Below.refl B _).grown h2 (by simp; omega) fun r hr => (hown'.lt r hr).1))
  unfold J7
  rw [List.length_append, List.map_append]
  exact h1
def a3e (F : Nat → Nd) (j : Nat) : Value := (Be (F (j / 6))).getD (j % 6) (.bool false)
theorem Np {w : World} {g m : Nat} {F : Nat → Nd} (h : w.rowIs g 37 (m * 6) (a3e F)) {i : Nat} (hi : i < m) : At w g (i * 6) (F i) := by
 have key : ∀ j, j < 6 → w.cell? ⟨g, i * 6 + j, none⟩ = some ((Be (F i)).getD j (.bool false)) := fun j hj => by
  have := h.cell (i := i * 6 + j) (by omega)
  rw [this, a3e, show (i * 6 + j) / 6 = i by omega, show (i * 6 + j) % 6 = j by omega]
 exact ⟨key 0 (by omega), key 1 (by omega), key 2 (by omega), key 3 (by omega), key 4 (by omega), key 5 (by omega)⟩
theorem Zv (j : Nat) : a3e (fun _ => nd0) j = (#[.int .u8 0, .int .i64 0, .int .i64 0, .int .i64 0, .int .i64 0, .string { data := #[] }] : Array Value)[j % 6]! := by
 have hj : j % 6 < 6 := Nat.mod_lt _ (by omega)
 unfold a3e
 generalize j % 6 = r at *
 match r, hj with
 | 0, _ => rfl
 | 1, _ => rfl
 | 2, _ => rfl
 | 3, _ => rfl
 | 4, _ => rfl
 | 5, _ => rfl
theorem Nn {w : World} {g m : Nat} {F : Nat → Nd} (h : w.rowIs g 37 (m * 6) (a3e F)) (i : Nat) (n : Nd) (G : Nat → Nd) (hG : ∀ x, x < m → G x = if x = i then n else F x) :
  ((((((w.setCell ⟨g, i * 6, none⟩ (.int .u8 (n.kind : Nat))).setCell ⟨g, i * 6 + 1, none⟩ (.int .i64 n.line)).setCell ⟨g, i * 6 + 2, none⟩ (.int .i64 n.col)).setCell ⟨g, i * 6 + 3, none⟩ (.int .i64 n.size)).setCell ⟨g, i * 6 + 4, none⟩ (.int .i64 n.num)).setCell ⟨g, i * 6 + 5, none⟩ (.string n.text)).rowIs g 37 (m * 6) (a3e G) := by
 refine ((((((h.set _ _).set _ _).set _ _).set _ _).set _ _).set _ _).congr fun j hj => ?_
 have hd : j / 6 < m := by omega
 unfold a3e
 rw [hG _ hd]
 by_cases e : j / 6 = i
 ·rw [if_pos e]
  have hr : j % 6 < 6 := Nat.mod_lt _ (by omega)
  have hj2 : j = i * 6 + j % 6 := by omega
  generalize j % 6 = r at *
  subst hj2
  match r, hr with
  | 0, _ => simp [Be]
  | 1, _ => simp [Be]
  | 2, _ => simp [Be]
  | 3, _ => simp [Be]
  | 4, _ => simp [Be]
  | 5, _ => simp [Be]
 ·rw [if_neg e, if_neg (by omega), if_neg (by omega), if_neg (by omega), if_neg (by omega), if_neg (by omega), if_neg (by omega)]
theorem Ll (m : Nat) (hm : m ≤ 1000000) (w : World) : (Instr.makeSlice 22 (.int .i64 (m : Int)) (.int .i64 (m : Int))).run Tryz.prog w = .ok (.slice (some ⟨w.heap.size, 0, none⟩) m m) (w.alloc (.cells (madeCells #[.int .u8 0, .int .i64 0, .int .i64 0, .int .i64 0, .int .i64 0, .string { data := #[] }] (m * 6)) 37)) := by
 obtain ⟨i0, hi0, hz0, hz1, hz2⟩ := info_parts Tryz.info37
 have := run_make (P := Tryz.prog) w 22 37 i0 _ Tryz.underlying22 hi0 hz0 .i64 .i64 m m (by omega) (Int.le_refl _) (by rw [hz2]; omega) (by omega)
 rw [hz1] at this
 simpa [Value.cells] using this
def b45 (v : Value) : Nat := match v with
 | .slice _ n _ => n
 | _ => 0
def b41 (w : World) (l : List Nd) (n : Nat) (F : Nat → Nd) (v j : Value) (wr : World) : Prop :=
 ∃ (k : Nat) (st : List Nat) (row : Nat → Nd), k ≤ n ∧ j = .int .i64 ((k : Int) - 1) ∧ G8 l k st row = F ∧ okG l n k st ∧ st.length + k ≤ n ∧ wr.rowIs w.heap.size 37 (n * 6) (a3e row) ∧ J7 wr (w.heap.size + 1) v st.reverse ∧ Below w.heap.size w wr
theorem Q9 (k : Nat) (st : List Nat) : (Iu k st).length ≤ st.length := by
 induction st with
 | nil => exact Nat.le_refl _
 | cons x l ih => unfold Iu; split <;> simp; omega
theorem a0o {w : World} {a : Option Addr} {n cap : Nat} {l : List Nd} (hn : Hid (l.length = n)) (hl : n ≤ 600000) (hr : Hid (a4q w a l)) (hok : Hid (okG l n n [])) :
  Calls Tryz.prog 64 #[.slice a n cap] w fun e w' => ∃ g, e = .returned (.slice (some ⟨g, 0, none⟩) n n) ∧ w.heap.size ≤ g ∧ (∀ i, i < n → At w' g (i * 6) (G8 l n [] (fun _ => nd0) i)) ∧ Below w.heap.size w w' := by
 have hmk := Ll n (by omega)
 obtain ⟨F, hF⟩ : ∃ F, G8 l n [] (fun _ => nd0) = F := ⟨_, rfl⟩
 rw [hF]
 replace hF := zz hF
 go_enter Tryz.func64, Tryz.ntmps64
 go_wp2_with fail
 go_loopw [4, 5] (fun v j wr => b41 w l n F v j wr) (fun _ j _ => (intOf j + 1).toNat)
 case atStart =>
  refine ⟨n, [], fun _ => nd0, Nat.le_refl _, rfl, hF.out, hok.out, by simp, ?_, Jx _ _, Aa _ _⟩
  have := World.rowIs_alloc w (madeCells #[.int .u8 0, .int .i64 0, .int .i64 0, .int .i64 0, .int .i64 0, .string { data := #[] }] (n * 6)) 37 (a3e (fun _ => nd0)) (fun i hi => by
   rw [size_madeCells] at hi
   rw [Zv]
   simp [madeCells, hi])
  rwa [size_madeCells] at this
 case round =>
  clear hmk hF hok
  obtain ⟨k, st, row, hk, rfl, hA, hO, hlen, hrow, hown, hbel⟩ := hrel
  cases k with
  | zero =>
   have HW : Hid (∀ i, i < n → At wr w.heap.size (i * 6) (F i)) := zz fun i hi => by rw [← hA]; exact Np hrow hi
   replace hbel := zz hbel
   clear hrow hown hA
   go_wp2_with fail
   go_ret
   exact ⟨_, rfl, Nat.le_refl _, HW.out, hbel.out⟩
  | succ k =>
   rw [show (((k + 1 : Nat) : Int) - 1) = (k : Int) by omega]
   obtain ⟨b0, o0, rfl, hat⟩ := (hr.out.carry hbel) k (by rw [hn.out]; omega)
   obtain ⟨c0, c1, c2, c3, c4, c5⟩ := hat
   obtain ⟨kd, ln, cl, sz, num, tx, hND⟩ : ∃ kd ln cl sz num tx, nd l k = ⟨kd, ln, cl, sz, num, tx⟩ := ⟨_, _, _, _, _, _, rfl⟩
   have hO1 := hO.1
   have hO2 := hO.2.1
   obtain ⟨s, hsz⟩ : ∃ s, szN l k = s := ⟨_, rfl⟩
   rw [hsz] at hO1 hO2
   rw [hND] at c0 c1 c2 c3 c4 c5 hO1
   simp only at c0 c1 c2 c3 c4 c5 hO1
   rw [hO1] at c3
   rw [hO1] at hND
   replace hND := zz hND
   obtain ⟨bg, hbg⟩ : ∃ bg, k - s = bg := ⟨_, rfl⟩
   have hbgi : (k : Int) - (s : Nat) = (bg : Nat) := by omega
   have hnk : (k : Int) < n := by omega
   clear hO1
   go_wp2_with fail
   go_loop [4] (fun v => ∃ st' : List Nat, J7 wr (w.heap.size + 1) v st'.reverse ∧ Iu k st' = Iu k st ∧ st'.length ≤ st.length) (fun v => b45 v)
   case atStart => exact ⟨st, hown, rfl, Nat.le_refl _⟩
   case round =>
    clear hown
    obtain ⟨st', hown, hpop, hle⟩ := hrel
    rcases Yt hown with ⟨rfl, hnil⟩ | ⟨g1, cap1, rfl, hcap, hcells⟩
    ·obtain rfl : st' = [] := by simpa using hnil
     have HQ : Iu k st = [] := by rw [← hpop]; rfl
     have hO4 := zz hO.2.2.2
     have hp3 := hO.2.2.1
     have HA2 : Hid (G8 l k ((k - szN l k) :: Iu k st) (Wj row (k - szN l k + (Iu k st).length) (nd l k)) = F) := zz (by rw [← hA]; rfl)
     have hqle := Q9 k st
     rw [HQ] at hp3 HA2 hO4 hqle
     rw [hsz, hbg] at hp3 HA2 hO4
     rw [show ([] : List Nat).length = 0 by simp] at hp3 HA2 hqle
     obtain ⟨p, hp⟩ : ∃ p, bg + (0) = p := ⟨_, rfl⟩
     rw [hp] at hp3 HA2
     obtain rfl : bg = p := by omega
     have hpn : (bg : Int) < n := by omega
     obtain ⟨d0, d1, d2, d3, d4, d5⟩ := Np hrow hp3
     have f0 := hrow.frozen
     have HR := zz (Nn hrow bg ⟨kd, ln, cl, (s : Nat), num, tx⟩ (Wj row bg (nd l k)) (fun x _ => by rw [hND.out]; rfl))
     have hul := hrow.lt
     have HOW : Hid (J7 ((((((wr.setCell ⟨w.heap.size, bg * 6, none⟩ (.int .u8 (kd : Nat))).setCell ⟨w.heap.size, bg * 6 + 1, none⟩ (.int .i64 ln)).setCell ⟨w.heap.size, bg * 6 + 2, none⟩ (.int .i64 cl)).setCell ⟨w.heap.size, bg * 6 + 3, none⟩ (.int .i64 (s : Nat))).setCell ⟨w.heap.size, bg * 6 + 4, none⟩ (.int .i64 num)).setCell ⟨w.heap.size, bg * 6 + 5, none⟩ (.string tx)) (w.heap.size + 1) (.slice none 0 0) ([] : List Nat).reverse) := zz (ownsRow_setCell_below (ownsRow_setCell_below (ownsRow_setCell_below (ownsRow_setCell_below (ownsRow_setCell_below (ownsRow_setCell_below hown (by simp) _) (by simp) _) (by simp) _) (by simp) _) (by simp) _) (by simp) _)
     have HBW : Hid (Below w.heap.size w ((((((wr.setCell ⟨w.heap.size, bg * 6, none⟩ (.int .u8 (kd : Nat))).setCell ⟨w.heap.size, bg * 6 + 1, none⟩ (.int .i64 ln)).setCell ⟨w.heap.size, bg * 6 + 2, none⟩ (.int .i64 cl)).setCell ⟨w.heap.size, bg * 6 + 3, none⟩ (.int .i64 (s : Nat))).setCell ⟨w.heap.size, bg * 6 + 4, none⟩ (.int .i64 num)).setCell ⟨w.heap.size, bg * 6 + 5, none⟩ (.string tx))) := zz ((((((hbel.setCell (Nat.le_refl _) _).setCell (Nat.le_refl _) _).setCell (Nat.le_refl _) _).setCell (Nat.le_refl _) _).setCell (Nat.le_refl _) _).setCell (Nat.le_refl _) _)
     clear HQ hrow
     replace hbel := zz hbel
     replace hown := zz hown
     go_wp2_with (at_builtin; go_loud (refine Dj rfl _ _ rfl (w.heap.size + 1) _ ([] : List Nat).reverse bg wr.heap.size (by simp) rfl rfl rfl HOW.out (by simp; try omega) (by simp; try omega) ?_; intro v2 w2 ho2 hb2; replace ho2 := zz ho2; replace hb2 := zz hb2))
     go_roundw
     case rel =>
      refine ⟨k, bg :: [], _, by omega, by go_num, HA2.out, hO4.out, (by simp; try omega), ?_, by rw [List.reverse_cons]; exact ho2.out, HBW.out.trans (hb2.out.mono (by omega))⟩
      exact HR.out.of_block (hb2.out.block _ (by omega))
     case measure => simp [intOf]; try omega
    ·cases st' with
     | nil =>
      simp only [List.reverse_nil, List.length_nil] at hown hcap ⊢
      have HQ : Iu k st = [] := by rw [← hpop]; rfl
      have hO4 := zz hO.2.2.2
      have hp3 := hO.2.2.1
      have HA2 : Hid (G8 l k ((k - szN l k) :: Iu k st) (Wj row (k - szN l k + (Iu k st).length) (nd l k)) = F) := zz (by rw [← hA]; rfl)
      have hqle := Q9 k st
      rw [HQ] at hp3 HA2 hO4 hqle
      rw [hsz, hbg] at hp3 HA2 hO4
      rw [show ([] : List Nat).length = 0 by simp] at hp3 HA2 hqle
      obtain ⟨p, hp⟩ : ∃ p, bg + (0) = p := ⟨_, rfl⟩
      rw [hp] at hp3 HA2
      obtain rfl : bg = p := by omega
      have hpn : (bg : Int) < n := by omega
      obtain ⟨d0, d1, d2, d3, d4, d5⟩ := Np hrow hp3
      have f0 := hrow.frozen
      have HR := zz (Nn hrow bg ⟨kd, ln, cl, (s : Nat), num, tx⟩ (Wj row bg (nd l k)) (fun x _ => by rw [hND.out]; rfl))
      have hul := hrow.lt
      have HOW : Hid (J7 ((((((wr.setCell ⟨w.heap.size, bg * 6, none⟩ (.int .u8 (kd : Nat))).setCell ⟨w.heap.size, bg * 6 + 1, none⟩ (.int .i64 ln)).setCell ⟨w.heap.size, bg * 6 + 2, none⟩ (.int .i64 cl)).setCell ⟨w.heap.size, bg * 6 + 3, none⟩ (.int .i64 (s : Nat))).setCell ⟨w.heap.size, bg * 6 + 4, none⟩ (.int .i64 num)).setCell ⟨w.heap.size, bg * 6 + 5, none⟩ (.string tx)) (w.heap.size + 1) (.slice (some ⟨g1, 0, none⟩) 0 cap1) ([] : List Nat).reverse) := zz (ownsRow_setCell_below (ownsRow_setCell_below (ownsRow_setCell_below (ownsRow_setCell_below (ownsRow_setCell_below (ownsRow_setCell_below hown (by simp) _) (by simp) _) (by simp) _) (by simp) _) (by simp) _) (by simp) _)
      have HBW : Hid (Below w.heap.size w ((((((wr.setCell ⟨w.heap.size, bg * 6, none⟩ (.int .u8 (kd : Nat))).setCell ⟨w.heap.size, bg * 6 + 1, none⟩ (.int .i64 ln)).setCell ⟨w.heap.size, bg * 6 + 2, none⟩ (.int .i64 cl)).setCell ⟨w.heap.size, bg * 6 + 3, none⟩ (.int .i64 (s : Nat))).setCell ⟨w.heap.size, bg * 6 + 4, none⟩ (.int .i64 num)).setCell ⟨w.heap.size, bg * 6 + 5, none⟩ (.string tx))) := zz ((((((hbel.setCell (Nat.le_refl _) _).setCell (Nat.le_refl _) _).setCell (Nat.le_refl _) _).setCell (Nat.le_refl _) _).setCell (Nat.le_refl _) _).setCell (Nat.le_refl _) _)
      clear HQ hrow
      replace hbel := zz hbel
      replace hown := zz hown
      go_wp2_with (at_builtin; go_loud (refine Dj rfl _ _ rfl (w.heap.size + 1) _ ([] : List Nat).reverse bg wr.heap.size (by simp) rfl rfl rfl HOW.out (by simp; try omega) (by simp; try omega) ?_; intro v2 w2 ho2 hb2; replace ho2 := zz ho2; replace hb2 := zz hb2))
      go_roundw
      case rel =>
       refine ⟨k, bg :: [], _, by omega, by go_num, HA2.out, hO4.out, (by simp; try omega), ?_, by rw [List.reverse_cons]; exact ho2.out, HBW.out.trans (hb2.out.mono (by omega))⟩
       exact HR.out.of_block (hb2.out.block _ (by omega))
      case measure => simp [intOf]; try omega
     | cons x rest =>
      obtain ⟨m, hm⟩ : ∃ m, rest.length = m := ⟨_, rfl⟩
      have hrl : (x :: rest).reverse.length = m + 1 := by simp [hm]
      rw [hrl] at hown hcap hcells ⊢
      have hlast := hcells m (by omega)
      rw [show (x :: rest).reverse.getD m 0 = x by rw [List.reverse_cons, List.getD_eq_getElem?_getD, List.getElem?_append_right (by simp [hm])]; simp [hm]] at hlast
      have hm1 : ((m + 1 : Nat) : Int) - 1 = (m : Int) := by omega
      have hmlen : rest.length + 1 ≤ st.length := by simpa using hle
      clear hcells hrl
      by_cases hx : k < x
      ·have hxi : (k : Int) < x := by omega
       have hsl : ∀ w : World, (Instr.slice 41 (.slice (some ⟨g1, 0, none⟩) (m + 1) cap1) none (some (.int .i64 (m : Int))) none).run Tryz.prog w = .ok (.slice (some ⟨g1, 0, none⟩) m cap1) w := fun w => by
        rw [run_slice_h w 41 _ _ cap1 Tryz.underlying41 .i64 m (by omega) (by omega), show Tryz.prog.elem 41 = 3 by kernel_rfl, show (sizeOf 3).run Tryz.prog w = .ok 1 w by kernel_rfl]
        simp [Result.andThen, sliced, Addr.add]
       have HP := zz (a2b (by simp [hm]) (by rw [List.reverse_cons] at hown; exact hown) : J7 wr (w.heap.size + 1) (.slice (some ⟨g1, 0, none⟩) m cap1) rest.reverse)
       have HQ : Hid (Iu k rest = Iu k st) := zz (by rw [← hpop]; conv => rhs; rw [Iu, if_pos hx])
       replace hown := zz hown
       clear hpop
       go_wp2_with fail
       go_round
       case rel => exact ⟨rest, HP.out, HQ.out, by omega⟩
       case measure => simp [b45]
      ·have hxi : ¬ (k : Int) < x := by omega
       have HQ : Iu k st = x :: rest := by rw [← hpop, Iu, if_neg hx]
       have hO4 := zz hO.2.2.2
       have hp3 := hO.2.2.1
       have HA2 : Hid (G8 l k ((k - szN l k) :: Iu k st) (Wj row (k - szN l k + (Iu k st).length) (nd l k)) = F) := zz (by rw [← hA]; rfl)
       have hqle := Q9 k st
       rw [HQ] at hp3 HA2 hO4 hqle
       rw [hsz, hbg] at hp3 HA2 hO4
       rw [show (x :: rest : List Nat).length = m + 1 by simp; omega] at hp3 HA2 hqle
       obtain ⟨p, hp⟩ : ∃ p, bg + (m + 1) = p := ⟨_, rfl⟩
       rw [hp] at hp3 HA2
       have hpi : ((bg : Nat) : Int) + (m : Nat) + 1 = (p : Nat) := by omega
       have hpi2 : ((bg : Nat) : Int) + ((m : Nat) + 1) = (p : Nat) := by omega
       have hpi3 : ((bg : Nat) : Int) + ((m + 1 : Nat) : Int) = (p : Nat) := by omega
       have hpn : (p : Int) < n := by omega
       obtain ⟨d0, d1, d2, d3, d4, d5⟩ := Np hrow hp3
       have f0 := hrow.frozen
       have HR := zz (Nn hrow p ⟨kd, ln, cl, (s : Nat), num, tx⟩ (Wj row p (nd l k)) (fun x _ => by rw [hND.out]; rfl))
       have hul := hrow.lt
       have HOW : Hid (J7 ((((((wr.setCell ⟨w.heap.size, p * 6, none⟩ (.int .u8 (kd : Nat))).setCell ⟨w.heap.size, p * 6 + 1, none⟩ (.int .i64 ln)).setCell ⟨w.heap.size, p * 6 + 2, none⟩ (.int .i64 cl)).setCell ⟨w.heap.size, p * 6 + 3, none⟩ (.int .i64 (s : Nat))).setCell ⟨w.heap.size, p * 6 + 4, none⟩ (.int .i64 num)).setCell ⟨w.heap.size, p * 6 + 5, none⟩ (.string tx)) (w.heap.size + 1) (.slice (some ⟨g1, 0, none⟩) (m + 1) cap1) (x :: rest : List Nat).reverse) := zz (ownsRow_setCell_below (ownsRow_setCell_below (ownsRow_setCell_below (ownsRow_setCell_below (ownsRow_setCell_below (ownsRow_setCell_below hown (by simp) _) (by simp) _) (by simp) _) (by simp) _) (by simp) _) (by simp) _)
       have HBW : Hid (Below w.heap.size w ((((((wr.setCell ⟨w.heap.size, p * 6, none⟩ (.int .u8 (kd : Nat))).setCell ⟨w.heap.size, p * 6 + 1, none⟩ (.int .i64 ln)).setCell ⟨w.heap.size, p * 6 + 2, none⟩ (.int .i64 cl)).setCell ⟨w.heap.size, p * 6 + 3, none⟩ (.int .i64 (s : Nat))).setCell ⟨w.heap.size, p * 6 + 4, none⟩ (.int .i64 num)).setCell ⟨w.heap.size, p * 6 + 5, none⟩ (.string tx))) := zz ((((((hbel.setCell (Nat.le_refl _) _).setCell (Nat.le_refl _) _).setCell (Nat.le_refl _) _).setCell (Nat.le_refl _) _).setCell (Nat.le_refl _) _).setCell (Nat.le_refl _) _)
       clear HQ hrow hp
       replace hbel := zz hbel
       replace hown := zz hown
       go_wp2_with (at_builtin; go_loud (refine Dj rfl _ _ rfl (w.heap.size + 1) _ (x :: rest : List Nat).reverse bg wr.heap.size (by simp) rfl rfl rfl HOW.out (by simp; try omega) (by simp; try omega) ?_; intro v2 w2 ho2 hb2; replace ho2 := zz ho2; replace hb2 := zz hb2))
       go_roundw
       case rel =>
        refine ⟨k, bg :: x :: rest, _, by omega, by go_num, HA2.out, hO4.out, (by simp; try omega), ?_, by rw [List.reverse_cons]; exact ho2.out, HBW.out.trans (hb2.out.mono (by omega))⟩
        exact HR.out.of_block (hb2.out.block _ (by omega))
       case measure => simp [intOf]; try omega
end
end Go.Proofs.YtoaplbljflhheaaGreat
namespace Go.Proofs.YtoaplbljflhheaaGreat
open Go.RowKit
def Li (w : World) (b o : Nat) (l : List Nd) : Prop := ∀ i, i < l.length → At w b (o + i * 6) (nd l i) ∧ (nd l i).wf
theorem Li.carry {w w' : World} {b o : Nat} {l : List Nd} (h : Li w b o l) (hb : Below w.heap.size w w') : Li w' b o l := fun i hi => ⟨(h i hi).1.carry hb, (h i hi).2⟩
theorem Row.block {w : World} {a : Option Addr} {l : List Nd} (h : Row w a l) (hl : l ≠ []) : ∃ b o, a = some ⟨b, o, none⟩ ∧ Li w b o l := by
 obtain ⟨b, o, h1, _⟩ := h 0 (List.length_pos_iff.2 hl)
 refine ⟨b, o, h1, fun i hi => ?_⟩
 obtain ⟨b', o', h2, h3, h4⟩ := h i hi
 rw [h1] at h2
 cases h2
 exact ⟨h3, h4⟩
theorem Ys {w : World} {B : Nat} (hB : B ≤ w.heap.size) : J7 (w.alloc (.cells #[] 3)) B (.slice (some ⟨w.heap.size, 0, none⟩) 0 0) [] :=
 World.ownsRow_made w #[] 0 hB (by decide) rfl
end Go.Proofs.YtoaplbljflhheaaGreat
namespace Go.Proofs.YtoaplbljflhheaaGreat
open Go.RowKit Go.Sort
def V6 (k : Nat) (n : Int) : Nat := if k = 30 ∨ k = 31 then (opS n).2 else 8
theorem b4h (i : Inf) : lvl i = V6 i.kind i.num := rfl
theorem Wr.node {w : World} {b : Nat} {E : Env} {X : List Pc} {t : Int} {out : List UInt8} (h : Wr w b E X t out) {p : Nat} (hp : p < E.n) :
  ∃ g o, E.a = some ⟨g, o, none⟩ ∧ At w g (o + p * 6) (nd E.l p) ∧ (nd E.l p).wf ∧ g < b := by
 obtain ⟨g, o, h1, h2, h3⟩ := h.1.row p (by rw [h.1.len]; exact hp)
 exact ⟨g, o, h1, h2, h3, h.1.low g o h1⟩
theorem Wr.cells {w : World} {b : Nat} {E : Env} {X : List Pc} {t : Int} {out : List UInt8} (h : Wr w b E X t out) :
  w.cell? ⟨b, 0, none⟩ = some (.slice E.a E.n E.cap) ∧ w.cell? ⟨b, 1, none⟩ = some (.map (some E.mb)) ∧ w.cell? ⟨b, 3, none⟩ = some (.int .i64 t) ∧ ∀ o, w.frozen? ⟨b, o, none⟩ = false := by
 obtain ⟨_, v, p, u, hb, _⟩ := h
 exact ⟨by simp [World.cell?, hb], by simp [World.cell?, hb], by simp [World.cell?, hb], fun o => by simp [World.frozen?, hb]⟩
theorem Zu (s : ByteArray) (n : Int) (w : World) : (Instr.field 103 (.agg #[.string s, .int .i64 n]) 1).run Tryz.prog w = .ok (.int .i64 n) w := by kernel_rfl
theorem a7t (s : ByteArray) (n : Int) (w : World) : (Instr.field 103 (.agg #[.string s, .int .i64 n]) 0).run Tryz.prog w = .ok (.string s) w := by kernel_rfl
theorem Pr {w : World} {b : Nat} {E : Env} {X : List Pc} {t : Int} {out : List UInt8} (h : Wr w b E X t out) {p : Nat} (hp : p < E.n) (q : Nat) (hq : V6 (nd E.l p).kind (nd E.l p).num = q)
  (hs : (nd E.l p).kind = 30 ∨ (nd E.l p).kind = 31 → (nd E.l p).num ∈ sgE.map (·.1)) :
  Calls Tryz.prog 81 #[pR b, .int .i64 p] w fun e w' => e = .returned (.int .i64 q) ∧ Below w.heap.size w w' := by
 obtain ⟨g, o, ha, hat, hwf, hgb⟩ := h.node hp
 obtain ⟨c0, c1, -, -⟩ := h.cells
 have hbl := h.lt
 have hmb := h.1.mlow
 have hmp := h.1.map
 have hfew := h.1.few
 obtain ⟨Ea, En, Ecap, El, Em⟩ := E
 simp only at *
 subst ha
 obtain ⟨kd, ln, cl, sz, num, tx, hN⟩ : ∃ kd ln cl sz num tx, nd El p = ⟨kd, ln, cl, sz, num, tx⟩ := ⟨_, _, _, _, _, _, rfl⟩
 rw [hN] at hat hq hs
 obtain ⟨t0, t1, t2, t3, t4, t5⟩ := hat
 simp only at *
 clear h hN hwf
 by_cases h30 : kd = 30 ∨ kd = 31
 ·obtain ⟨s, lv, hop⟩ : ∃ s lv, opS num = (s, lv) := ⟨_, _, rfl⟩
  have hq' : lv = q := by rw [← hq, V6, if_pos h30, hop]
  subst hq'
  have HL : Hid (∀ w', Below w.heap.size w w' → (Instr.lookup 61 (.map (some Em)) (.int .i64 num) false).run Tryz.prog w' = .ok (.agg #[.string (bs s), .int .i64 lv]) w') := zz fun w' hb => by
   have := Kt ((hb.block Em (by omega)).trans hmp) (hs h30)
   rw [sgV, hop] at this
   exact this
  clear hq hs hmp hop
  rcases h30 with rfl | rfl
  ·have HL1 := fun n => HL.out ((w.alloc (.cells #[.int .u8 30, .int .i64 ln, .int .i64 cl, .int .i64 sz, .int .i64 num, .string tx] 37)).drewN n) (Ab (Aa _ _) (Bl _ n))
   have HF := Zu (bs s) lv
   go_enter Tryz.func81, Tryz.ntmps81
   go_wp2
   go_quiet (fail)
   go_wp2
   go_ret
   exact ⟨rfl, Ab (Aa _ _) (Bl _ _)⟩
  ·have HL1 := fun n => HL.out ((w.alloc (.cells #[.int .u8 31, .int .i64 ln, .int .i64 cl, .int .i64 sz, .int .i64 num, .string tx] 37)).drewN n) (Ab (Aa _ _) (Bl _ n))
   have HF := Zu (bs s) lv
   go_enter Tryz.func81, Tryz.ntmps81
   go_wp2
   go_quiet (fail)
   go_wp2
   go_ret
   exact ⟨rfl, Ab (Aa _ _) (Bl _ _)⟩
 ·have hq' : q = 8 := by rw [← hq, V6, if_neg h30]
  subst hq'
  have e1 : ((kd : Int) == 30) = false := by rw [beq_eq_false_iff_ne]; omega
  have e2 : ((kd : Int) == 31) = false := by rw [beq_eq_false_iff_ne]; omega
  clear hq hs hmp h30
  go_enter Tryz.func81, Tryz.ntmps81
  go_wp2
  go_ret
  exact ⟨rfl, Aa _ _⟩
end Go.Proofs.YtoaplbljflhheaaGreat
namespace Go.Proofs.YtoaplbljflhheaaGreat
open Go.RowKit
def a5d (w : World) (R : Option (List Nat)) (e : Ending) (w' : World) : Prop := ∃ v, e = .returned (.tuple #[v, .bool R.isSome]) ∧ J7 w' w.heap.size v (R.getD []) ∧ Below w.heap.size w w'
def b4w (l : List Nd) (w : World) (R : Option (List Nat)) (i st : Nat) (v j : Value) (wr : World) : Prop :=
 ∃ (k : Nat) (x : List Nat), i + 1 ≤ k ∧ k ≤ st ∧ j = .int .i64 k ∧ x.length ≤ k ∧ (Bw (sz l) st k).map (x ++ ·) = R ∧ J7 wr w.heap.size v x ∧ Below w.heap.size w wr
theorem a5d.bad {w w' : World} {R : Option (List Nat)} (h : R = none) (hb : Below w.heap.size w w') : a5d w R (.returned (.tuple #[.slice none 0 0, .bool false])) w' := by
 subst h
 exact ⟨_, rfl, Jx _ _, hb⟩
theorem a5d.good {w w' : World} {R : Option (List Nat)} {x : List Nat} {v : Value} (h : R = some x) (ho : J7 w' w.heap.size v x) (hb : Below w.heap.size w w') : a5d w R (.returned (.tuple #[v, .bool true])) w' := by
 subst h
 exact ⟨_, rfl, ho, hb⟩
theorem Jk (b o n cap : Nat) (l : List Nd) (w : World) (hn : Hid (l.length = n)) (hl : n ≤ 1000000) (hr : Hid (Li w b o l)) (i st : Nat) (hi : i < n) (h1 : 0 ≤ sz l i) (h2 : st ≤ n) (hst : Hid ((i : Int) + 1 + sz l i = st)) (R : Option (List Nat)) (hR : Hid (Bw (sz l) st (i + 1) = R)) :
  Calls Tryz.prog 43 #[.slice (some ⟨b, o, none⟩) n cap, .int .i64 (i : Nat)] w (a5d w R) := by
 have c3 := (hr.out i (by rw [hn.out]; exact hi)).1.c3
 obtain ⟨z, hz⟩ : ∃ z, (nd l i).size = z := ⟨_, rfl⟩
 have hz1 : 0 ≤ z := by rw [← hz]; exact h1
 have hz2 : (i : Int) + 1 + z = st := by rw [← hst.out, ← hz]; rfl
 rw [hz] at c3
 have hlast : (i : Int) + z = st - 1 := by omega
 have hz3 : z ≤ 1000000 := by omega
 have hist : i + 1 ≤ st := by omega
 clear hz
 replace hz2 := zz hz2
 replace hlast := zz hlast
 clear h1
 go_enter Tryz.func43, Tryz.ntmps43
 go_wp2_with fail
 go_loopw [6, 8] (fun v j wr => b4w l w R i st v j wr) (fun _ j _ => st - (intOf j).toNat)
 case atStart =>
  refine ⟨i + 1, [], Nat.le_refl _, hist, by go_num, by simp, by rw [hR.out]; simp, Jx _ _, Below.refl _ _⟩
 case round =>
  obtain ⟨k, x, hk1, hk2, rfl, hx, hRR, hown, hbel⟩ := hrel
  have hsz := hbel.size
  have hlast' := hlast.out
  by_cases hlt : k < st
  ·have hkn : k < l.length := by rw [hn.out]; omega
   obtain ⟨hat, hwf⟩ := (hr.out.carry hbel) k hkn
   have d3 := hat.c3
   have hs := hwf.size
   unfold Ax at hs
   obtain ⟨s, hs0⟩ : ∃ s, (nd l k).size = s := ⟨_, rfl⟩
   have hss : sz l k = s := hs0
   rw [hs0] at d3 hs
   clear hs0 hat hwf c3
   obtain ⟨hs1, hs2⟩ := hs
   have g0 : (k : Int) ≤ i + z := by omega
   by_cases hb0 : s < 0
   ·have HR := zz (show R = none by rw [← hRR, Bv hlt (by rw [hss]; exact .inl hb0)]; rfl)
    clear hRR hss hown hlast'
    replace hbel := zz hbel
    go_wp2_with fail
    go_ret2
    exact a5d.bad HR.out hbel.out
   ·by_cases hb1 : (st : Int) - 1 - k < s
    ·have HR := zz (show R = none by rw [← hRR, Bv hlt (by rw [hss]; exact .inr hb1)]; rfl)
     have g1 : (i : Int) + z - k < s := by omega
     clear hRR hss hown hlast'
     replace hbel := zz hbel
     go_wp2_with fail
     go_ret2
     exact a5d.bad HR.out hbel.out
    ·have g1 : ¬ (i : Int) + z - k < s := by omega
     have hsn : s = (s.toNat : Nat) := by omega
     obtain ⟨m, hm⟩ : ∃ m, s.toNat = m := ⟨_, rfl⟩
     rw [hm] at hsn
     have HR := zz (show (Bw (sz l) st (k + 1 + m)).map ((x ++ [k]) ++ ·) = R by
      rw [← hRR, Bd hlt (by rw [hss]; omega), hss, hm]
      cases Bw (sz l) st (k + 1 + m) <;> simp)
     have HC := zz (show ∀ w2, Below w.heap.size w w2 → w2.cell? ⟨b, o + k * 6 + 3, none⟩ = some (.int .i64 (m : Nat)) from fun w2 h => by
      rw [((hr.out.carry h) k hkn).1.c3, show (nd l k).size = s from hss, hsn])
     have hkn' : k < n := by omega
     have hm2 : k + 1 + m ≤ st := by omega
     clear hRR hss hlast' hm hkn
     subst hsn
     replace hbel := zz hbel
     replace hown := zz hown
     go_wp2_with (at_builtin; refine Dj rfl _ _ rfl w.heap.size u6 x k wr.heap.size rfl rfl rfl rfl hown.out hsz (by omega) ?_; intro v2 w2 ho2 hb2; have d4 := HC.out w2 (hbel.out.trans hb2); replace ho2 := zz ho2; replace hb2 := zz (hbel.out.trans hb2))
     go_roundw
     case rel => exact ⟨k + 1 + m, x ++ [k], by omega, hm2, by go_num, by simp; omega, HR.out, ho2.out, hb2.out⟩
     case measure => simp [intOf]; omega
  ·have HR := zz (show R = some x by rw [← hRR, A8 hlt]; simp)
   have g0 : ¬ (k : Int) ≤ i + z := by omega
   clear hRR hlast'
   replace hbel := zz hbel
   replace hown := zz hown
   go_wp2_with fail
   go_ret2
   exact a5d.good HR.out hown.out hbel.out
end Go.Proofs.YtoaplbljflhheaaGreat
namespace Go.Proofs.YtoaplbljflhheaaGreat
open Go.RowKit Go.Sort
theorem Wn (l : List UInt8) (a b : Nat) : (∀ T, Ep l a b = .ok T → R4 T ∧ T.length ≤ l.length + 1) ∧ (∀ f, Ep l a b = .error f → f.1 ≠ 0) := by
 induction l, a, b using Ep.induct with
 | case1 a b =>
  rw [Ms]
  exact ⟨fun T h => by cases h; exact ⟨⟨[], _, rfl, rfl⟩, by simp⟩, fun f h => by cases h⟩
 | case2 l a b hl h1 ih =>
  rw [Ep, dif_neg hl, if_pos h1]
  exact ⟨fun T h => ⟨(ih.1 T h).1, by have := (ih.1 T h).2; simp at this; omega⟩, ih.2⟩
 | case3 l a b hl h1 h2 ih =>
  rw [Ep, dif_neg hl, if_neg h1, if_pos h2]
  exact ⟨fun T h => ⟨(ih.1 T h).1, by have := (ih.1 T h).2; simp at this; omega⟩, ih.2⟩
 | case4 l a b hl h1 h2 h3 ih =>
  rw [Ep, dif_neg hl, if_neg h1, if_neg h2, if_pos h3]
  exact ⟨fun T h => ⟨(ih.1 T h).1, by have := (ih.1 T h).2; simp at this; omega⟩, ih.2⟩
 | case5 l a b hl h1 h2 h3 h4 ih =>
  rw [Ep, dif_neg hl, if_neg h1, if_neg h2, if_neg h3, dif_pos h4]
  have hk := Pa l hl h4
  cases ht : Ep (l.drop (one l).size) a (b + (one l).size) with
  | ok T0 =>
   refine ⟨fun T h => ?_, fun f h => by cases h⟩
   cases h
   obtain ⟨⟨x, e, hx, he⟩, hl2⟩ := ih.1 T0 ht
   refine ⟨⟨_ :: x, e, by rw [hx]; rfl, he⟩, ?_⟩
   simp at hl2 ⊢; omega
  | error f => exact ⟨fun T h => (by cases h), fun g h => (by cases h; exact ih.2 _ ht)⟩
 | case6 l a b hl h1 h2 h3 h4 =>
  rw [Ep, dif_neg hl, if_neg h1, if_neg h2, if_neg h3, dif_neg h4]
  exact ⟨fun T h => (by cases h), fun f h => (by cases h; exact h4)⟩
def Km (p : Nat → Pt) (s : List UInt8) : List Nd × (Int × Nat × Nat) :=
 if 65536 < s.length then ([], (3, 0, 0)) else match Ep s 1 1 with
  | .error f => ([], f)
  | .ok T => match a4t (p T.length) T with
   | .ok F _ => (F.pre, (0, 0, 0))
   | .bad c l k => ([], (c, l, k))
def a89 (w : World) (q : List Nd × (Int × Nat × Nat)) (e : Ending) (w' : World) : Prop := ∃ a n cap, e = .returned (.tuple #[.slice a n cap, fV q.2]) ∧ q.1.length = n ∧ n ≤ 600000 ∧ a4q w' a q.1 ∧ (∀ g o, a = some ⟨g, o, none⟩ → w.heap.size ≤ g) ∧ Below w.heap.size w w'
def a0q (f : FuncId) (p : Nat → Pt) : Prop := (∀ args w, (callFunc f args).run Tryz.prog w = .ok (.enter f args) w) ∧ (∀ ⦃w : World⦄ ⦃b tb to tc : Nat⦄ ⦃T : List Tok⦄ ⦃v : Value⦄, Sit w b tb to tc T 0 0 v [] T.length T → Calls Tryz.prog f #[pR b] w (Ha b tb to tc T 0 [] w (p T.length 0 T))) ∧
 ∀ T F r, p T.length 0 T = .ok F r → F.cnt + r.length ≤ T.length + 1 ∧ (R4 T → R4 r)
theorem Tn (s : ByteArray) (w : World) : Calls Tryz.prog 62 #[.string s] w (a83 w (if 65536 < s.data.toList.length then .error (3, 0, 0) else Ep s.data.toList 1 1)) := by
 by_cases h : 65536 < s.data.toList.length
 ·rw [if_pos h]
  exact Qp s w (by rw [Ae] at h; omega)
 ·rw [if_neg h]
  exact Qq s w (by rw [Ae] at h; omega) _ (zz rfl)
theorem a66 {w : World} {B g cap n : Nat} {T : List Tok} (h : Ls w B (.slice (some ⟨g, 0, none⟩) n cap) T) {i : Nat} {t : Tok} (hi : T[i]? = some t) : TAt w g (0 + i * 5) t := by
 have hlt : i < T.length := (List.getElem?_eq_some_iff.1 hi).1
 have hc : ∀ j u, j < 5 → (D1 t)[j]? = some u → w.cell? ⟨g, 0 + i * 5 + j, none⟩ = some u := fun j u hj hu => by
  have := World.ownsRow.cells h (g := g) rfl (i * 5 + j) u (by
   have hD : T = T.take i ++ t :: T.drop (i + 1) := by
    rw [List.getElem?_eq_getElem hlt] at hi
    rw [← Option.some.inj hi]
    simp
   rw [hD, Si, List.getElem?_append_right (by rw [Sh, List.length_take]; omega), Sh, List.length_take, show i * 5 + j - min i T.length * 5 = j by rw [Nat.min_eq_left (by omega)]; omega]
   unfold X4
   rw [List.flatMap_cons, List.getElem?_append_left (by simp [D1]; omega)]
   exact hu)
  rw [C8] at this
  rwa [Nat.zero_add]
 exact ⟨by simpa using hc 0 _ (by decide) rfl, hc 1 _ (by decide) rfl, hc 2 _ (by decide) rfl, hc 3 _ (by decide) rfl, hc 4 _ (by decide) rfl⟩
theorem a9a {w w1 : World} (hb : Below (w.alloc (.cells #[.int .i64 0, .int .i64 0, .int .i64 0] 31)).heap.size (w.alloc (.cells #[.int .i64 0, .int .i64 0, .int .i64 0] 31)) w1) :
  w1.cell? ⟨w.heap.size, 0, none⟩ = some (.int .i64 0) ∧ w1.cell? ⟨w.heap.size, 1, none⟩ = some (.int .i64 0) ∧ w1.cell? ⟨w.heap.size, 2, none⟩ = some (.int .i64 0) ∧ (∀ o, w1.frozen? ⟨w.heap.size, o, none⟩ = false) ∧ w.heap.size + 1 ≤ w1.heap.size := by
 have hz := hb.size
 simp only [World.size_alloc] at hz
 refine ⟨?_, ?_, ?_, fun o => ?_, hz⟩
 ·rw [(Bx hb).1 _ _ (by simp)]; simp [go_sem]
 ·rw [(Bx hb).1 _ _ (by simp)]; simp [go_sem]
 ·rw [(Bx hb).1 _ _ (by simp)]; simp [go_sem]
 ·rw [(Bx hb).2 _ _ (by simp)]; simp [go_sem]
theorem Sn (s : ByteArray) (w : World) (f : FuncId) (c : Int) (l k : Nat) (hc : c ≠ 0) (HT : Hid (∀ w, Calls Tryz.prog 62 #[.string s] w (a83 w (.error (c, l, k))))) :
  Calls Tryz.prog 37 #[.string s, .func (.func f) #[] #[]] w (a89 w ([], (c, l, k))) := by
 have hc2 : (c != 0) = true := by simpa using hc
 go_enter Tryz.func37, Tryz.ntmps37
 go_wp2_with fail
 refine (HT.out _).mono ?_
 rintro e w1 ⟨v, rfl, ho, hb⟩
 simp only [b2j]
 obtain ⟨z0, z1, z2, zf, hz⟩ := a9a hb
 replace hb := zz (Ab (Aa _ _) hb)
 have hz' : w.heap.size < w1.heap.size := by omega
 have d0 := fun O => Ah z0 O
 have d1 := fun O => Ah z1 O
 have d2 := fun O => Ah z2 O
 have d3 := fun o O => I6 z0 (zf o) O
 clear ho
 go_wp2_with fail
 go_region
 all_goals (go_wp2_with fail)
 all_goals (refine bodyPost_ret (v := .tuple #[.slice none 0 0, fV (c, l, k)]) (by simp [results, Tryz.results37, go_sem, z0, z1, z2, hz']) rfl ⟨none, 0, 0, rfl, rfl, by omega, fun i hi => absurd hi (by simp), (fun g o e => by cases e), ?_⟩)
 all_goals (have hbb := hb.out)
 all_goals (clear hb)
 all_goals (go_grown)
theorem Nb {w1 : World} {B : Nat} {v : Value} {T : List Tok} (ho : Ls w1 B v T) (hE : R4 T) (hl : T.length ≤ 65537) (a b c : Int) :
  ∃ tb tc, v = .slice (some ⟨tb, 0, none⟩) T.length tc ∧ Sit ((w1.alloc (.cells #[.int .i64 a, .int .i64 b, .int .i64 c] 31)).alloc (.cells #[v, .int .i64 0, .int .i64 0, .slice none 0 0, .int .i64 0, .int .i64 0, .int .i64 0] 87)) (w1.heap.size + 1) tb 0 tc T 0 0 (.slice none 0 0) [] T.length T := by
 rcases ho.2 with ⟨_, h0⟩ | ⟨g, cap, cur, hv, hg, hh, hr⟩
 ·obtain ⟨t, l, rfl⟩ := hE.ne
  simp at h0
 ·refine ⟨g, cap, hv, ?_⟩
  have hlt := Aw hh
  rw [hv] at ho ⊢
  have hb : Below w1.heap.size w1 ((w1.alloc (.cells #[.int .i64 a, .int .i64 b, .int .i64 c] 31)).alloc (.cells #[.slice (some ⟨g, 0, none⟩) T.length cap, .int .i64 0, .int .i64 0, .slice none 0 0, .int .i64 0, .int .i64 0, .int .i64 0] 87)) := by go_grown
  refine ⟨⟨by simp [go_sem], by simp [go_sem], by simp [go_sem], by simp [go_sem], ⟨_, by simp [go_sem]; rfl⟩, ⟨_, by simp [go_sem]; rfl⟩, ⟨_, by simp [go_sem]; rfl⟩, fun o => by simp [go_sem], fun i t ht => (a66 ho ht).of (hb.block g hlt), by omega, by omega, World.ownsRow_nil _ _ 37 6⟩, rfl, hE, Nat.le_refl _, by simp; omega, by omega⟩
theorem At.of_block {w w' : World} {b o : Nat} {n : Nd} (h : At w b o n) (e : w'.heap[b]? = w.heap[b]?) : At w' b o n :=
 ⟨by rw [World.cell?_of_block (w := w) e]; exact h.c0, by rw [World.cell?_of_block (w := w) e]; exact h.c1, by rw [World.cell?_of_block (w := w) e]; exact h.c2, by rw [World.cell?_of_block (w := w) e]; exact h.c3, by rw [World.cell?_of_block (w := w) e]; exact h.c4, by rw [World.cell?_of_block (w := w) e]; exact h.c5⟩
theorem a61 (s : ByteArray) (w : World) (f : FuncId) (p : Nat → Pt) (hW : a0q f p) (T : List Tok) (hE : R4 T) (hl : T.length ≤ 65537) (HT : Hid (∀ w, Calls Tryz.prog 62 #[.string s] w (a83 w (.ok T)))) (c : Int) (l k : Nat) (ho : p T.length 0 T = .bad c l k) :
  Calls Tryz.prog 37 #[.string s, .func (.func f) #[] #[]] w (a89 w ([], (c, l, k))) := by
  obtain ⟨eg, hdo, hlf⟩ := hW
  replace ho := zz ho
  replace hdo := zz hdo
  clear hlf
  go_enter Tryz.func37, Tryz.ntmps37
  go_wp2_with fail
  refine (HT.out _).mono ?_
  rintro e w1 ⟨v, rfl, hown, hb⟩
  simp only [b2j]
  replace hown : Ls w1 (w.alloc (.cells #[.int .i64 0, .int .i64 0, .int .i64 0] 31)).heap.size v T := hown
  obtain ⟨tb, tc, rfl, hS⟩ := Nb hown hE hl 0 0 0
  obtain ⟨z0, z1, z2, zf, hz⟩ := a9a hb
  replace hb := zz (Ab (Aa _ _) hb)
  obtain ⟨V, hV⟩ : ∃ V, V = (w1.alloc (.cells #[.int .i64 0, .int .i64 0, .int .i64 0] 31)).alloc (.cells #[.slice (some ⟨tb, 0, none⟩) T.length tc, .int .i64 0, .int .i64 0, .slice none 0 0, .int .i64 0, .int .i64 0, .int .i64 0] 87) := ⟨_, rfl⟩
  rw [← hV] at hS
  have HB1 : Hid (Below w1.heap.size w1 V) := zz (by rw [hV]; go_grown)
  have HC := zz (Nw (hdo.out hS) ho.out)
  replace hV := zz hV
  clear hown hS
  go_wp2_with fail
  rw [← hV.out]
  refine HC.out.mono ?_
  rintro e w2 ⟨rfl, rf, fr⟩
  have y0 := (World.cell?_of_block (w := V) (a := ⟨w.heap.size, 0, none⟩) (fr.low w.heap.size (by omega))).trans (Ad HB1.out z0)
  have y1 := (World.cell?_of_block (w := V) (a := ⟨w.heap.size, 1, none⟩) (fr.low w.heap.size (by omega))).trans (Ad HB1.out z1)
  have y2 := (World.cell?_of_block (w := V) (a := ⟨w.heap.size, 2, none⟩) (fr.low w.heap.size (by omega))).trans (Ad HB1.out z2)
  have yf := fun o => (World.frozen?_of_block (w := V) (a := ⟨w.heap.size, o, none⟩) (fr.low w.heap.size (by omega))).trans (Ca HB1.out z0 (zf o))
  have HBW : Hid (Below w.heap.size w w2) := zz (hb.out.trans ((HB1.out.mono (by omega)).trans ⟨fr.os, fr.tape, fr.output, fr.size, fun k hk => fr.low k (by omega)⟩))
  have hz2 : w.heap.size < w2.heap.size := block_lt_of_cell y0
  have r4 := rf.c4
  have r5 := rf.c5
  have r6 := rf.c6
  have hbl := rf.lt
  replace fr := zz fr
  clear z0 z1 z2 zf rf
  go_wp2_with fail
  go_region
  all_goals (go_wp2_with fail)
  all_goals (refine bodyPost_ret (v := .tuple #[.slice none 0 0, fV (c, l, k)]) (by simp [results, Tryz.results37, go_sem, y0, y1, y2, hz2]) rfl ⟨none, 0, 0, rfl, rfl, by omega, fun i hi => absurd hi (by simp), (fun g o e => by cases e), ?_⟩)
  all_goals (have hbb := HBW.out)
  all_goals (clear HBW hb HB1 fr)
  all_goals (go_grown)
theorem Yd (s : ByteArray) (w : World) (f : FuncId) (p : Nat → Pt) (hW : a0q f p) (T : List Tok) (hE : R4 T) (hl : T.length ≤ 65537) (HT : Hid (∀ w, Calls Tryz.prog 62 #[.string s] w (a83 w (.ok T)))) (F : Fo) (r : List Tok) (ho : p T.length 0 T = .ok F r) (hk : ¬ (hd r).kind = 8) :
  Calls Tryz.prog 37 #[.string s, .func (.func f) #[] #[]] w (a89 w ([], (5, (hd r).line, (hd r).col))) := by
  obtain ⟨eg, hdo, hlf⟩ := hW
  have hlr := hlf T F r ho
  obtain ⟨l, hll⟩ : ∃ l, (hd r).line = l := ⟨_, rfl⟩
  obtain ⟨k, hkk⟩ : ∃ k, (hd r).col = k := ⟨_, rfl⟩
  rw [hll, hkk]
  obtain ⟨c, hc⟩ : ∃ c : Int, c = 5 := ⟨5, rfl⟩
  rw [← hc]
  replace ho := zz ho
  replace hdo := zz hdo
  replace hlr := zz hlr
  replace hk := zz hk
  replace hll := zz hll
  replace hkk := zz hkk
  replace hc := zz hc
  clear hlf
  go_enter Tryz.func37, Tryz.ntmps37
  go_wp2_with fail
  refine (HT.out _).mono ?_
  rintro e w1 ⟨v, rfl, hown, hb⟩
  simp only [b2j]
  replace hown : Ls w1 (w.alloc (.cells #[.int .i64 0, .int .i64 0, .int .i64 0] 31)).heap.size v T := hown
  obtain ⟨tb, tc, rfl, hS⟩ := Nb hown hE hl 0 0 0
  obtain ⟨z0, z1, z2, zf, hz⟩ := a9a hb
  replace hb := zz (Ab (Aa _ _) hb)
  obtain ⟨V, hV⟩ : ∃ V, V = (w1.alloc (.cells #[.int .i64 0, .int .i64 0, .int .i64 0] 31)).alloc (.cells #[.slice (some ⟨tb, 0, none⟩) T.length tc, .int .i64 0, .int .i64 0, .slice none 0 0, .int .i64 0, .int .i64 0, .int .i64 0] 87) := ⟨_, rfl⟩
  rw [← hV] at hS
  have HB1 : Hid (Below w1.heap.size w1 V) := zz (by rw [hV]; go_grown)
  have HC := zz (Vz (hdo.out hS) ho.out)
  replace hV := zz hV
  replace hS := zz hS
  clear hown
  go_wp2_with fail
  rw [← hV.out]
  refine HC.out.mono ?_
  rintro e w2 ⟨rfl, ⟨at', v', hdr, hrd⟩, fr0⟩
  have hS2 : Sit w2 (w1.heap.size + 1) tb 0 tc T at' 0 v' ([] ++ F.post) 600000 r := ⟨hrd, hdr, hlr.out.2 hE, by have := hlr.out.1; omega, by have := hlr.out.1; simp [A4]; omega, by omega⟩
  have HN := zz (b2l hS2 hk.out)
  have hbl2 := hS2.rd.lt
  replace fr0 := zz fr0
  clear hdr hrd hS2
  go_wp2_with fail
  refine HN.out.mono ?_
  rintro e w3 ⟨rfl, rf, on⟩
  have fr := fr0.out.trans (Fr.only on (by omega))
  rw [hll.out, hkk.out, ← hc.out] at rf
  clear on
  have y0 := (World.cell?_of_block (w := V) (a := ⟨w.heap.size, 0, none⟩) (fr.low w.heap.size (by omega))).trans (Ad HB1.out z0)
  have y1 := (World.cell?_of_block (w := V) (a := ⟨w.heap.size, 1, none⟩) (fr.low w.heap.size (by omega))).trans (Ad HB1.out z1)
  have y2 := (World.cell?_of_block (w := V) (a := ⟨w.heap.size, 2, none⟩) (fr.low w.heap.size (by omega))).trans (Ad HB1.out z2)
  have yf := fun o => (World.frozen?_of_block (w := V) (a := ⟨w.heap.size, o, none⟩) (fr.low w.heap.size (by omega))).trans (Ca HB1.out z0 (zf o))
  have HBW : Hid (Below w.heap.size w w3) := zz (hb.out.trans ((HB1.out.mono (by omega)).trans ⟨fr.os, fr.tape, fr.output, fr.size, fun k hk => fr.low k (by omega)⟩))
  have hz2 : w.heap.size < w3.heap.size := block_lt_of_cell y0
  have r4 := rf.c4
  have r5 := rf.c5
  have r6 := rf.c6
  have hbl := rf.lt
  replace fr := zz fr
  clear z0 z1 z2 zf rf
  go_wp2_with fail
  go_region
  all_goals (go_wp2_with fail)
  all_goals (refine bodyPost_ret (v := .tuple #[.slice none 0 0, fV (c, l, k)]) (by simp [results, Tryz.results37, go_sem, y0, y1, y2, hz2]) rfl ⟨none, 0, 0, rfl, rfl, by omega, fun i hi => absurd hi (by simp), (fun g o e => by cases e), ?_⟩)
  all_goals (have hbb := HBW.out)
  all_goals (clear HBW hb HB1 fr)
  all_goals (go_grown)
theorem a12 (s : ByteArray) (w : World) (f : FuncId) (p : Nat → Pt) (hW : a0q f p) (T : List Tok) (hE : R4 T) (hl : T.length ≤ 65537) (HT : Hid (∀ w, Calls Tryz.prog 62 #[.string s] w (a83 w (.ok T)))) (F : Fo) (r : List Tok) (ho : p T.length 0 T = .ok F r) (hk : (hd r).kind = 8) :
  Calls Tryz.prog 37 #[.string s, .func (.func f) #[] #[]] w (a89 w (F.pre, (0, 0, 0))) := by
  obtain ⟨eg, hdo, hlf⟩ := hW
  have hlr := hlf T F r ho
  have hcnt : F.cnt ≤ 600000 := by have := hlr.1; omega
  replace ho := zz ho
  replace hdo := zz hdo
  replace hlr := zz hlr
  replace hk := zz hk
  clear hlf
  go_enter Tryz.func37, Tryz.ntmps37
  go_wp2_with fail
  refine (HT.out _).mono ?_
  rintro e w1 ⟨v, rfl, hown, hb⟩
  simp only [b2j]
  replace hown : Ls w1 (w.alloc (.cells #[.int .i64 0, .int .i64 0, .int .i64 0] 31)).heap.size v T := hown
  obtain ⟨tb, tc, rfl, hS⟩ := Nb hown hE hl 0 0 0
  obtain ⟨z0, z1, z2, zf, hz⟩ := a9a hb
  replace hb := zz (Ab (Aa _ _) hb)
  obtain ⟨V, hV⟩ : ∃ V, V = (w1.alloc (.cells #[.int .i64 0, .int .i64 0, .int .i64 0] 31)).alloc (.cells #[.slice (some ⟨tb, 0, none⟩) T.length tc, .int .i64 0, .int .i64 0, .slice none 0 0, .int .i64 0, .int .i64 0, .int .i64 0] 87) := ⟨_, rfl⟩
  rw [← hV] at hS
  have HB1 : Hid (Below w1.heap.size w1 V) := zz (by rw [hV]; go_grown)
  have HC := zz (Vz (hdo.out hS) ho.out)
  replace hV := zz hV
  replace hS := zz hS
  clear hown
  go_wp2_with fail
  rw [← hV.out]
  refine HC.out.mono ?_
  rintro e w2 ⟨rfl, ⟨at', v', hdr, hrd⟩, fr0⟩
  have hS2 : Sit w2 (w1.heap.size + 1) tb 0 tc T at' 0 v' ([] ++ F.post) 600000 r := ⟨hrd, hdr, hlr.out.2 hE, by have := hlr.out.1; omega, by have := hlr.out.1; simp [A4]; omega, by omega⟩
  have HN := zz (a8b hS2 hk.out)
  have hbl2 := hS2.rd.lt
  replace fr0 := zz fr0
  replace hS2 := zz hS2
  clear hdr hrd
  go_wp2_with fail
  refine HN.out.mono ?_
  rintro e w3 ⟨rfl, on⟩
  have fr := fr0.out.trans (Fr.only (Onl.below on) (by omega))
  have hrd3 := hS2.out.rd.carry on
  obtain ⟨a3, m3, cap3, a4, cap4, hv3, hcut, hrow, hle3⟩ := a8e hrd3 0 rfl
  obtain ⟨n3, hn3⟩ : ∃ n3, F.cnt = n3 := ⟨_, rfl⟩
  have hrow3 : a4q w3 a3 F.post ∧ m3 = n3 := by
   have ho := hrd3.own
   rw [hv3] at ho
   rcases ho.2 with ⟨h1, h2⟩ | ⟨g, cap, cur, h1, h2⟩
   ·cases h1
    rw [List.nil_append, A4] at h2
    exact ⟨fun i hi => absurd hi (by rw [A4]; omega), by omega⟩
   ·cases h1
    rw [List.nil_append] at ho
    refine ⟨fun i hi => ⟨g, 0, rfl, ?_⟩, by rw [List.nil_append, A4]; exact hn3⟩
    have := a4z ho (i := i) (t := nd F.post i) (by unfold nd; simp [List.getD, hi])
    rwa [Nat.zero_add]
  obtain ⟨hrow3, rfl⟩ := hrow3
  have c3 := hrd3.c3
  rw [hv3] at c3
  have hA := a0p F (fun _ => nd0)
  rw [hn3] at hA hcnt
  have HA := zz (a0o (cap := cap3) (zz (show F.post.length = m3 by rw [A4]; exact hn3)) hcnt (zz hrow3) (zz hA.2))
  rw [hA.1] at HA
  have hbl3 := hrd3.lt
  have y0 := (World.cell?_of_block (w := V) (a := ⟨w.heap.size, 0, none⟩) (fr.low w.heap.size (by omega))).trans (Ad HB1.out z0)
  have y1 := (World.cell?_of_block (w := V) (a := ⟨w.heap.size, 1, none⟩) (fr.low w.heap.size (by omega))).trans (Ad HB1.out z1)
  have y2 := (World.cell?_of_block (w := V) (a := ⟨w.heap.size, 2, none⟩) (fr.low w.heap.size (by omega))).trans (Ad HB1.out z2)
  have yf := fun o => (World.frozen?_of_block (w := V) (a := ⟨w.heap.size, o, none⟩) (fr.low w.heap.size (by omega))).trans (Ca HB1.out z0 (zf o))
  have HBW : Hid (Below w.heap.size w w3) := zz (hb.out.trans ((HB1.out.mono (by omega)).trans ⟨fr.os, fr.tape, fr.output, fr.size, fun k hk => fr.low k (by omega)⟩))
  have hz2 : w.heap.size < w3.heap.size := block_lt_of_cell y0
  replace fr := zz fr
  replace hn3 := zz hn3
  replace on := zz on
  clear z0 z1 z2 zf hcut hrow hrow3 hv3 hrd3 hA hle3
  go_wp2_with fail
  refine HA.out.mono ?_
  rintro e w4 ⟨g, rfl, hg, hat, hb4⟩
  have x0 := Ad hb4 y0
  have x1 := Ad hb4 y1
  have x2 := Ad hb4 y2
  have xf := fun o => Ca hb4 y0 (yf o)
  replace HBW := zz (Ab HBW.out hb4)
  have hgw : w.heap.size < g := by omega
  have hz4 : w.heap.size < w4.heap.size := block_lt_of_cell x0
  replace hat := zz hat
  clear y0 y1 y2 yf
  replace hb4 := zz hb4
  go_wp2_with fail
  refine bodyPost_ret (v := .tuple #[.slice (some ⟨g, 0, none⟩) m3 m3, fV (0, 0, 0)]) (by simp [results, Tryz.results37, go_sem, x0, x1, x2, hz4]) rfl ⟨some ⟨g, 0, none⟩, m3, m3, rfl, by rw [Dl]; exact hn3.out, by omega, fun i hi => ?_, (fun g' o' e => by cases e; omega), ?_⟩
  ·have hi2 : i < m3 := by rw [Dl, hn3.out] at hi; exact hi
   have := hat.out i hi2
   rw [show Gu (fun _ => nd0) 0 F.pre i = nd F.pre i by unfold Gu; rw [if_pos (by simp [Dl, hn3.out]; exact hi2)]; simp] at this
   refine ⟨g, 0, rfl, ?_⟩
   rw [Nat.zero_add]
   exact this.of_block (by rw [Below.heap_setCell _ _ _ _ (by simp; omega), Below.heap_setCell _ _ _ _ (by simp; omega), Below.heap_setCell _ _ _ _ (by simp; omega)])
  ·have hbb := HBW.out
   clear HBW hb HB1 fr
   go_grown
theorem a14 (s : ByteArray) (w : World) (f : FuncId) (p : Nat → Pt) (hW : a0q f p) : Calls Tryz.prog 37 #[.string s, .func (.func f) #[] #[]] w (a89 w (Km p s.data.toList)) := by
 unfold Km
 have HT := fun w => Tn s w
 by_cases hl : 65536 < s.data.toList.length
 ·rw [if_pos hl]
  simp only [if_pos hl] at HT
  exact Sn s w f 3 0 0 (by decide) (zz HT)
 ·rw [if_neg hl]
  simp only [if_neg hl] at HT
  cases ht : Ep s.data.toList 1 1 with
  | error g =>
   rw [ht] at HT
   exact Sn s w f g.1 g.2.1 g.2.2 ((Wn _ _ _).2 g ht) (zz HT)
  | ok T =>
   rw [ht] at HT
   obtain ⟨hE, hTl⟩ := (Wn _ _ _).1 T ht
   have hTl2 : T.length ≤ 65537 := by omega
   simp only [a4t]
   cases ho : p T.length 0 T with
   | bad c l k => exact a61 s w f p hW T hE hTl2 (zz HT) c l k ho
   | ok F r =>
    simp only [Out.bind]
    by_cases hk : (hd r).kind = 8
    ·rw [if_pos hk]
     exact a12 s w f p hW T hE hTl2 (zz HT) F r ho hk
    ·rw [if_neg hk]
     exact Yd s w f p hW T hE hTl2 (zz HT) F r ho hk
theorem Tg : a0q 39 I7 := ⟨by intro args w; simp [go_sem], fun w b tb to tc T v h => Zz T.length h, fun T F r e => by
 have := Zr T.length 0 T F r e
 exact ⟨by have := this.1; omega, this.2.1⟩⟩
theorem a3r (s : ByteArray) (w : World) : Calls Tryz.prog 21 #[.string s] w (a89 w (Km I7 s.data.toList)) := by
 have H := zz (fun w => a14 s w 39 I7 Tg)
 obtain ⟨⟨L, c, l, k⟩, hq⟩ : ∃ q, Km I7 s.data.toList = q := ⟨_, rfl⟩
 rw [hq] at H ⊢
 clear hq
 go_enter Tryz.func21, Tryz.ntmps21
 go_wp2_with fail
 refine (H.out _).mono ?_
 rintro e w1 ⟨a, n, cap, rfl, hn, hn2, hr, hg, hb⟩
 obtain ⟨z0, z1, z2, zf, hz⟩ := a9a hb
 have hz' : w.heap.size < w1.heap.size := by omega
 have HB := zz (Ab (Aa _ _) hb)
 replace hr := zz hr
 replace hn := zz hn
 replace hg := zz hg
 clear hb
 go_wp2_with fail
 refine bodyPost_ret (v := .tuple #[.slice a n cap, fV (c, l, k)]) (by simp [results, Tryz.results21, go_sem, z0, z1, z2]) rfl ⟨a, n, cap, rfl, hn.out, hn2, fun i hi => ?_, fun g o e => (by have := hg.out g o e; simp at this; omega), ?_⟩
 ·obtain ⟨g, o, rfl, hat⟩ := hr.out i hi
  have hgg := hg.out g o rfl
  simp at hgg
  refine ⟨g, o, rfl, hat.of_block ?_⟩
  rw [Below.heap_setCell _ _ _ _ (by simp; omega), Below.heap_setCell _ _ _ _ (by simp; omega), Below.heap_setCell _ _ _ _ (by simp; omega)]
 ·have hbb := HB.out
  clear HB hg hr
  go_grown
end Go.Proofs.YtoaplbljflhheaaGreat
