/-
 Contracts and plain facts on the way to PrettyBack. Conditions: as each says.
-/
import Derived.Deep.OwnRows
import Derived.WalkSmall
import Derived.Test.YtoaplbljflhheaaGreatBaj
import Derived.Test.YtoaplbljflhheaaGreatBbk
set_option maxHeartbeats 40000000
set_option maxRecDepth 100000
set_option linter.unusedVariables false
set_option linter.unusedSimpArgs false
namespace Go.Proofs.YtoaplbljflhheaaGreat
open _root_.Go.Proofs.Tryz
section
section
def M0 (k : Nat) : List Nat -> List Nat
 | [] => []
 | x :: l => if k < x then M0 k l else x :: l
def szN (l : List Nd) (k : Nat) : Nat := (nd l k).size.toNat
def a16 (row : Nat -> Nd) (p : Nat) (t : Nd) : Nat -> Nd := fun x => if x = p then t else row x
def Kc (row : Nat -> Nd) (p : Nat) (l : List Nd) : Nat -> Nd := fun x => if p <= x ∧ x < p + l.length then nd l (x - p) else row x
def Ko (l : List Nd) : Nat -> List Nat -> (Nat -> Nd) -> (Nat -> Nd)
 | 0, _, row => row
 | k + 1, st, row => Ko l k ((k - szN l k) :: M0 k st) (a16 row (k - szN l k + (M0 k st).length) (nd l k))
def okG (l : List Nd) (n : Nat) : Nat -> List Nat -> Prop
 | 0, _ => True
 | k + 1, st => (nd l k).size = (szN l k : Nat) ∧ szN l k <= k ∧ k - szN l k + (M0 k st).length < n ∧ okG l n k ((k - szN l k) :: M0 k st)
theorem a8t {k : Nat} {junk st : List Nat} (hj : ∀ x ∈ junk, k < x) (hs : ∀ x ∈ st, x <= k) : M0 k (junk ++ st) = st := by
 induction junk with
 | nil =>
  cases st with
  | nil => rfl
  | cons x l =>
   have := hs x (by simp)
   rw [List.nil_append, M0, if_neg (by omega)]
 | cons x l ih =>
  rw [List.cons_append, M0, if_pos (hj x (by simp))];exact ih fun y hy => hj y (by simp [hy])
theorem Xb {a b : List Nd} {i : Nat} (h : i < a.length) : nd (a ++ b) i = nd a i := by
 unfold nd;rw [List.getD_eq_getElem?_getD, List.getD_eq_getElem?_getD, List.getElem?_append_left h]
theorem Ny {a b : List Nd} {i : Nat} : nd (a ++ b) (a.length + i) = nd b i := by
 unfold nd;rw [List.getD_eq_getElem?_getD, List.getD_eq_getElem?_getD, List.getElem?_append_right (by omega), show a.length + i - a.length = i by omega]
theorem a3x (row : Nat -> Nd) (p : Nat) : Kc row p [] = row := by
 funext x;unfold Kc;rw [if_neg (by intro h; simp at h; omega)]
theorem a0v (row : Nat -> Nd) (p : Nat) (t : Nd) (a b : List Nd) : Kc (a16 (Kc row (p + a.length + 1) b) p t) (p + 1) a = Kc row p (t :: (a ++ b)) := by
 funext x;unfold Kc a16;by_cases h1 : p + 1 <= x ∧ x < p + 1 + a.length
 ·rw [if_pos h1, if_pos (by simp; omega), show x - p = (x - (p + 1)) + 1 by omega];unfold nd;rw [List.getD_eq_getElem?_getD, List.getD_eq_getElem?_getD, List.getElem?_cons_succ, List.getElem?_append_left (by omega)]
 ·rw [if_neg h1];by_cases h2 : x = p
  ·rw [if_pos h2, if_pos (by simp; omega), h2, Nat.sub_self]; rfl
  ·rw [if_neg h2];simp only;by_cases h3 : p + a.length + 1 <= x ∧ x < p + a.length + 1 + b.length
   ·rw [if_pos h3, if_pos (by simp; omega), show x - p = (a.length + (x - (p + a.length + 1))) + 1 by omega];unfold nd;rw [List.getD_eq_getElem?_getD, List.getD_eq_getElem?_getD, List.getElem?_cons_succ, List.getElem?_append_right (by omega), show a.length + (x - (p + a.length + 1)) - a.length = x - (p + a.length + 1) by omega]
   ·rw [if_neg h3, if_neg (by simp; omega)]
theorem Vx (l : List Nd) (n : Nat) (F : Fo) : ∀ (o : Nat) (st junk : List Nat), (∀ i, i < F.cnt -> nd l (o + i) = nd F.post i) -> (∀ x ∈ st, x <= o) -> (∀ x ∈ junk, o + F.cnt <= x) -> o + F.cnt + st.length <= n ->
  ∃ junk' : List Nat, (∀ x ∈ junk', o <= x) ∧ (∀ row, Ko l (o + F.cnt) (junk ++ st) row = Ko l o (junk' ++ st) (Kc row (o + st.length) F.pre)) ∧ (okG l n o (junk' ++ st) -> okG l n (o + F.cnt) (junk ++ st)) := by
 induction F with
 | nil => exact fun o st junk _ _ hj _ => ⟨junk, hj, fun row => by rw [Fo.pre, a3x]; rfl, id⟩
 | cons i k r ihk ihr =>
  intro o st junk hl hs hj hn;have hc : (Fo.cons i k r).cnt = k.cnt + 1 + r.cnt := rfl;rw [hc] at hl hj hn ⊢;have hpk := Ao k
  have lk : ∀ x, x < k.cnt -> nd l (o + x) = nd k.post x := fun x hx => by
   rw [hl x (by omega), Fo.post, Xb (by omega)]
  have lm : nd l (o + k.cnt) = i.nd k.cnt := by
   rw [hl k.cnt (by omega), Fo.post, <- hpk];exact Ny (i := 0)
  have lr : ∀ x, x < r.cnt -> nd l (o + k.cnt + 1 + x) = nd r.post x := fun x hx => by
   rw [show o + k.cnt + 1 + x = o + (k.cnt + (1 + x)) by omega, hl _ (by omega), Fo.post, <- hpk, Ny, show 1 + x = x + 1 by omega];rfl
  obtain ⟨j1, h1, h2, h3⟩ := ihr (o + k.cnt + 1) st junk lr (fun x hx => by have := hs x hx; omega) (fun x hx => by have := hj x hx; omega) (by omega)
  obtain ⟨j2, h4, h5, h6⟩ := ihk o (o :: st) [] lk (fun x hx => by
   rcases List.mem_cons.1 hx with rfl | hx
   ·exact Nat.le_refl _
   ·exact hs x hx) (fun x hx => by cases hx) (by simp; omega)
  have hp : M0 (o + k.cnt) (j1 ++ st) = st := a8t (fun x hx => by have := h1 x hx; omega) (fun x hx => by have := hs x hx; omega);have hz : szN l (o + k.cnt) = k.cnt := by unfold szN; rw [lm]; simp [Inf.nd]
  refine ⟨j2 ++ [o], fun x hx => ?_, fun row => ?_, fun hok => ?_⟩
  ·rcases List.mem_append.1 hx with hx | hx
   ·exact h4 x hx
   ·simp at hx; omega
  ·rw [show o + (k.cnt + 1 + r.cnt) = o + k.cnt + 1 + r.cnt by omega, h2];show Ko l (o + k.cnt) ((o + k.cnt - szN l (o + k.cnt)) :: M0 (o + k.cnt) (j1 ++ st)) (a16 _ (o + k.cnt - szN l (o + k.cnt) + (M0 (o + k.cnt) (j1 ++ st)).length) (nd l (o + k.cnt))) = _;rw [hp, hz, lm, show o + k.cnt - k.cnt = o by omega];have := h5 (a16 (Kc row (o + k.cnt + 1 + st.length) r.pre) (o + st.length) (i.nd k.cnt));rw [List.nil_append] at this;rw [this, List.append_assoc];have hq := a0v row (o + st.length) (i.nd k.cnt) k.pre r.pre;rw [Cz] at hq;rw [show o + (o :: st).length = o + st.length + 1 by simp; omega, show o + k.cnt + 1 + st.length = o + st.length + k.cnt + 1 by omega, hq];rfl
  ·rw [show o + (k.cnt + 1 + r.cnt) = o + k.cnt + 1 + r.cnt by omega];refine h3 ⟨by rw [hz, lm]; rfl, by rw [hz]; omega, by rw [hp, hz]; omega, ?_⟩;rw [hp, hz, show o + k.cnt - k.cnt = o by omega];have := h6 (by rw [List.append_assoc] at hok; exact hok);rw [List.nil_append] at this;exact this
theorem a6w (F : Fo) (row : Nat -> Nd) : Ko F.post F.cnt [] row = Kc row 0 F.pre ∧ okG F.post F.cnt F.cnt [] := by
 obtain ⟨j, h1, h2, h3⟩ := Vx F.post F.cnt F 0 [] [] (fun i hi => by rw [Nat.zero_add]) (fun x hx => by cases hx) (fun x hx => by cases hx) (by simp);simp only [Nat.zero_add, List.append_nil, List.length_nil] at h2 h3;exact ⟨h2 row, h3 trivial⟩
end
end
section
section
open Go.RowKit Go.Sort
abbrev itv (k : Nat) : Value := .int .i64 (k : Nat)
theorem Tryz.info3 : (Tryz.prog.info? 3).map (fun i => (i.zero, i.size, i.bytes)) = some (some (.int .i64 0), 1, 8) := by kernel_rfl
def Qk (w : World) (B : Nat) (v : Value) (l : List Nat) : Prop := w.ownsRow B 3 1 v l.length (l.map itv)
theorem Oi (w : World) (B : Nat) : Qk w B (.slice none 0 0) [] := World.ownsRow_nil w B 3 1
theorem a0y {w w' : World} {B : Nat} {v : Value} {l : List Nat} (h : Qk w B v l) (hb : Below w.heap.size w w') : Qk w' B v l :=
 World.ownsRow.kept h (row := none) ⟨hb.os, hb.tape, hb.output, hb.size, fun k hk _ => hb.block k hk⟩ (by cases hv : v.ownBlock <;> simp)
theorem a35 {w : World} {B : Nat} {v : Value} {l : List Nat} (h : Qk w B v l) : (v = .slice none 0 0 ∧ l = []) ∨ ∃ g cap, v = .slice (some ⟨g, 0, none⟩) l.length cap ∧ l.length <= cap ∧ ∀ i, i < l.length -> w.cell? ⟨g, i, none⟩ = some (itv (l.getD i 0)) := by
 rcases h.2 with ⟨rfl, hn⟩ | ⟨g, cap, cur, rfl, h2, h3, h4, h5⟩
 ·exact .inl ⟨rfl, List.eq_nil_of_length_eq_zero hn⟩
 ·have hown : w.ownsRow B 3 1 (.slice (some ⟨g, 0, none⟩) l.length cap) l.length (l.map itv) := h;refine .inr ⟨g, cap, rfl, h4, fun i hi => ?_⟩;rw [hown.cellAt i (by omega)];simp [List.getD, hi]
theorem a8y {w : World} {B : Nat} {g cap : Nat} {l : List Nat} {x : Nat} {m : Nat} (hm : l.length = m) (h : Qk w B (.slice (some ⟨g, 0, none⟩) (m + 1) cap) (l ++ [x])) : Qk w B (.slice (some ⟨g, 0, none⟩) m cap) l := by
 subst hm;unfold Qk at *;rw [List.length_append, List.map_append] at h;exact ownsRow_pop (by simp) h
theorem Fg {ops : Array Oper} {rest : List Oper} {o : Oper} {a : Act} {Q : Exit -> Act -> World -> Prop} {w : World} {news : Array Value} (hgd : o.guard = none) (s x : Operand)
  (ho : o.op = .call { callee := .builtin .append, args := #[s, x], argTypes := #[41, 41] }) (B : Nat) (v : Value) (l : List Nat) (t : Nat) (b : Nat) (hbw : w.heap.size = b) (hs : a.eval s = v)
  (hx : a.eval x = .slice (some ⟨b, 0, none⟩) 1 1) (hm : news.toList = [itv t]) (hown : Qk w B v l) (hB : B <= w.heap.size) (hl : l.length + 1 <= 100000000)
  (h : ∀ v' w', Qk w' B v' (l ++ [t]) -> Below B w w' -> wpList prog ops Q rest (a.put o.dst v') w') : wpList prog ops Q (o :: rest) a (w.alloc (.cells news 3)) := by
 subst hbw;obtain ⟨i0, hi0, hz0, hz1, hz2⟩ := info_parts Tryz.info3;have hown' : (w.alloc (.cells news 3)).ownsRow B 3 1 v l.length (l.map itv) := a0y hown (Aa w _)
 have hcell : ∀ j u, [itv t][j]? = some u -> (w.alloc (.cells news 3)).cell? ((⟨w.heap.size, 0, none⟩ : Addr).add j) = some u := by
  intro j u hj;rw [<- hm] at hj;rw [D7];simp at hj;simp [go_sem, hj]
 refine wpList_append_own _ hgd s x 41 ho B 3 i0 _ 1 8 underlying41 hi0 hz0 hz1 hz2 rfl (by decide) v l.length (l.map itv) hs hown' ⟨w.heap.size, 0, none⟩ 1 1 [itv t] hx (by simp) hcell ?_ ?_ ?_ ?_ ?_
 ·intro u hu;obtain rfl : u = itv t := by simpa using hu
  rfl
 ·unfold maxLen; omega
 ·omega
 ·simp; omega
 ·intro v' w' h1 h2 _;refine h v' w' ?_ (((Aa w _).mono hB).trans ((Below.refl B _).grown h2 (by simp; omega) fun r hr => (hown'.lt r hr).1));unfold Qk;rw [List.length_append, List.map_append];exact h1
def b0l (F : Nat -> Nd) (j : Nat) : Value := (Bn (F (j / 6))).getD (j % 6) (.bool false)
theorem S6 {w : World} {g m : Nat} {F : Nat -> Nd} (h : w.rowIs g 37 (m * 6) (b0l F)) {i : Nat} (hi : i < m) : At w g (i * 6) (F i) := by
 have key : ∀ j, j < 6 -> w.cell? ⟨g, i * 6 + j, none⟩ = some ((Bn (F i)).getD j (.bool false)) := fun j hj => by
  have := h.cell (i := i * 6 + j) (by omega);rw [this, b0l, show (i * 6 + j) / 6 = i by omega, show (i * 6 + j) % 6 = j by omega]
 exact ⟨key 0 (by omega), key 1 (by omega), key 2 (by omega), key 3 (by omega), key 4 (by omega), key 5 (by omega)⟩
theorem a5l (j : Nat) : b0l (fun _ => nd0) j = (#[.int .u8 0, .int .i64 0, .int .i64 0, .int .i64 0, .int .i64 0, .string { data := #[] }] : Array Value)[j % 6]! := by
 have hj : j % 6 < 6 := Nat.mod_lt _ (by omega);unfold b0l;generalize j % 6 = r at *
 match r, hj with
 | 0, _ => rfl
 | 1, _ => rfl
 | 2, _ => rfl
 | 3, _ => rfl
 | 4, _ => rfl
 | 5, _ => rfl
theorem S5 {w : World} {g m : Nat} {F : Nat -> Nd} (h : w.rowIs g 37 (m * 6) (b0l F)) (i : Nat) (n : Nd) (G : Nat -> Nd) (hG : ∀ x, x < m -> G x = if x = i then n else F x) :
  ((((((w.setCell ⟨g, i * 6, none⟩ (.int .u8 (n.kind : Nat))).setCell ⟨g, i * 6 + 1, none⟩ (.int .i64 n.line)).setCell ⟨g, i * 6 + 2, none⟩ (.int .i64 n.col)).setCell ⟨g, i * 6 + 3, none⟩ (.int .i64 n.size)).setCell ⟨g, i * 6 + 4, none⟩ (.int .i64 n.num)).setCell ⟨g, i * 6 + 5, none⟩ (.string n.text)).rowIs g 37 (m * 6) (b0l G) := by
 refine ((((((h.set _ _).set _ _).set _ _).set _ _).set _ _).set _ _).congr fun j hj => ?_
 have hd : j / 6 < m := by omega
 unfold b0l;rw [hG _ hd];by_cases e : j / 6 = i
 ·rw [if_pos e];have hr : j % 6 < 6 := Nat.mod_lt _ (by omega);have hj2 : j = i * 6 + j % 6 := by omega
  generalize j % 6 = r at *;subst hj2
  match r, hr with
  | 0, _ => simp [Bn]
  | 1, _ => simp [Bn]
  | 2, _ => simp [Bn]
  | 3, _ => simp [Bn]
  | 4, _ => simp [Bn]
  | 5, _ => simp [Bn]
 ·rw [if_neg e, if_neg (by omega), if_neg (by omega), if_neg (by omega), if_neg (by omega), if_neg (by omega), if_neg (by omega)]
theorem Qq (m : Nat) (hm : m <= 1000000) (w : World) : (Instr.makeSlice 22 (.int .i64 (m : Int)) (.int .i64 (m : Int))).run prog w = .ok (.slice (some ⟨w.heap.size, 0, none⟩) m m) (w.alloc (.cells (madeCells #[.int .u8 0, .int .i64 0, .int .i64 0, .int .i64 0, .int .i64 0, .string { data := #[] }] (m * 6)) 37)) := by
 obtain ⟨i0, hi0, hz0, hz1, hz2⟩ := info_parts Tryz.info37;have := run_make (P := prog) w 22 37 i0 _ underlying22 hi0 hz0 .i64 .i64 m m (by omega) (Int.le_refl _) (by rw [hz2]; omega) (by omega);rw [hz1] at this;simpa [Value.cells] using this
def c3b (v : Value) : Nat := match v with
 | .slice _ n _ => n
 | _ => 0
def c27 (w : World) (l : List Nd) (n : Nat) (F : Nat -> Nd) (v j : Value) (wr : World) : Prop :=
 ∃ (k : Nat) (st : List Nat) (row : Nat -> Nd), k <= n ∧ j = .int .i64 ((k : Int) - 1) ∧ Ko l k st row = F ∧ okG l n k st ∧ st.length + k <= n ∧ wr.rowIs w.heap.size 37 (n * 6) (b0l row) ∧ Qk wr (w.heap.size + 1) v st.reverse ∧ Below w.heap.size w wr
theorem W3 (k : Nat) (st : List Nat) : (M0 k st).length <= st.length := by
 induction st with
 | nil => exact Nat.le_refl _
 | cons x l ih => unfold M0; split <;> simp; omega
theorem a6v {w : World} {a : Option Addr} {n cap : Nat} {l : List Nd} (hn : Hid (l.length = n)) (hl : n <= 600000) (hr : Hid (a6y w a l)) (hok : Hid (okG l n n [])) :
  Calls prog 64 #[.slice a n cap] w fun e w' => ∃ g, e = .returned (.slice (some ⟨g, 0, none⟩) n n) ∧ w.heap.size <= g ∧ (∀ i, i < n -> At w' g (i * 6) (Ko l n [] (fun _ => nd0) i)) ∧ Below w.heap.size w w' := by
 have hmk := Qq n (by omega);obtain ⟨F, hF⟩ : ∃ F, Ko l n [] (fun _ => nd0) = F := ⟨_, rfl⟩;rw [hF];replace hF := zz hF;go_enter func64, ntmps64;go_wp2_with fail
 go_loopw [4, 5] (fun v j wr => c27 w l n F v j wr) (fun _ j _ => (intOf j + 1).toNat)
 case atStart =>
  refine ⟨n, [], fun _ => nd0, Nat.le_refl _, rfl, hF.out, hok.out, by simp, ?_, Oi _ _, Aa _ _⟩
  have := World.rowIs_alloc w (madeCells #[.int .u8 0, .int .i64 0, .int .i64 0, .int .i64 0, .int .i64 0, .string { data := #[] }] (n * 6)) 37 (b0l (fun _ => nd0)) (fun i hi => by
   rw [size_madeCells] at hi;rw [a5l]
   simp [madeCells, hi])
  rwa [size_madeCells] at this
 case round =>
  clear hmk hF hok;obtain ⟨k, st, row, hk, rfl, hA, hO, hlen, hrow, hown, hbel⟩ := hrel
  cases k with
  | zero =>
   have HW : Hid (∀ i, i < n -> At wr w.heap.size (i * 6) (F i)) := zz fun i hi => by rw [<- hA]; exact S6 hrow hi
   replace hbel := zz hbel;clear hrow hown hA;go_wp2_with fail;go_ret
   exact ⟨_, rfl, Nat.le_refl _, HW.out, hbel.out⟩
  | succ k =>
   rw [show (((k + 1 : Nat) : Int) - 1) = (k : Int) by omega];obtain ⟨b0, o0, rfl, hat⟩ := (hr.out.carry hbel) k (by rw [hn.out]; omega);obtain ⟨c0, c1, c2, c3, c4, c5⟩ := hat;obtain ⟨kd, ln, cl, sz, num, tx, hND⟩ : ∃ kd ln cl sz num tx, nd l k = ⟨kd, ln, cl, sz, num, tx⟩ := ⟨_, _, _, _, _, _, rfl⟩;have hO1 := hO.1;have hO2 := hO.2.1;obtain ⟨s, hsz⟩ : ∃ s, szN l k = s := ⟨_, rfl⟩;rw [hsz] at hO1 hO2;rw [hND] at c0 c1 c2 c3 c4 c5 hO1;simp only at c0 c1 c2 c3 c4 c5 hO1;rw [hO1] at c3;rw [hO1] at hND;replace hND := zz hND;obtain ⟨bg, hbg⟩ : ∃ bg, k - s = bg := ⟨_, rfl⟩;have hbgi : (k : Int) - (s : Nat) = (bg : Nat) := by omega
   have hnk : (k : Int) < n := by omega
   clear hO1;go_wp2_with fail
   go_loop [4] (fun v => ∃ st' : List Nat, Qk wr (w.heap.size + 1) v st'.reverse ∧ M0 k st' = M0 k st ∧ st'.length <= st.length) (fun v => c3b v)
   case atStart => exact ⟨st, hown, rfl, Nat.le_refl _⟩
   case round =>
    clear hown;obtain ⟨st', hown, hpop, hle⟩ := hrel;rcases a35 hown with ⟨rfl, hnil⟩ | ⟨g1, cap1, rfl, hcap, hcells⟩
    ·obtain rfl : st' = [] := by simpa using hnil
     have HQ : M0 k st = [] := by rw [<- hpop]; rfl
     have hO4 := zz hO.2.2.2;have hp3 := hO.2.2.1;have HA2 : Hid (Ko l k ((k - szN l k) :: M0 k st) (a16 row (k - szN l k + (M0 k st).length) (nd l k)) = F) := zz (by rw [<- hA]; rfl);have hqle := W3 k st;rw [HQ] at hp3 HA2 hO4 hqle;rw [hsz, hbg] at hp3 HA2 hO4;rw [show ([] : List Nat).length = 0 by simp] at hp3 HA2 hqle;obtain ⟨p, hp⟩ : ∃ p, bg + (0) = p := ⟨_, rfl⟩;rw [hp] at hp3 HA2;obtain rfl : bg = p := by omega
     have hpn : (bg : Int) < n := by omega
     obtain ⟨d0, d1, d2, d3, d4, d5⟩ := S6 hrow hp3;have f0 := hrow.frozen;have HR := zz (S5 hrow bg ⟨kd, ln, cl, (s : Nat), num, tx⟩ (a16 row bg (nd l k)) (fun x _ => by rw [hND.out]; rfl));have hul := hrow.lt;have HOW : Hid (Qk ((((((wr.setCell ⟨w.heap.size, bg * 6, none⟩ (.int .u8 (kd : Nat))).setCell ⟨w.heap.size, bg * 6 + 1, none⟩ (.int .i64 ln)).setCell ⟨w.heap.size, bg * 6 + 2, none⟩ (.int .i64 cl)).setCell ⟨w.heap.size, bg * 6 + 3, none⟩ (.int .i64 (s : Nat))).setCell ⟨w.heap.size, bg * 6 + 4, none⟩ (.int .i64 num)).setCell ⟨w.heap.size, bg * 6 + 5, none⟩ (.string tx)) (w.heap.size + 1) (.slice none 0 0) ([] : List Nat).reverse) := zz (ownsRow_setCell_below (ownsRow_setCell_below (ownsRow_setCell_below (ownsRow_setCell_below (ownsRow_setCell_below (ownsRow_setCell_below hown (by simp) _) (by simp) _) (by simp) _) (by simp) _) (by simp) _) (by simp) _);have HBW : Hid (Below w.heap.size w ((((((wr.setCell ⟨w.heap.size, bg * 6, none⟩ (.int .u8 (kd : Nat))).setCell ⟨w.heap.size, bg * 6 + 1, none⟩ (.int .i64 ln)).setCell ⟨w.heap.size, bg * 6 + 2, none⟩ (.int .i64 cl)).setCell ⟨w.heap.size, bg * 6 + 3, none⟩ (.int .i64 (s : Nat))).setCell ⟨w.heap.size, bg * 6 + 4, none⟩ (.int .i64 num)).setCell ⟨w.heap.size, bg * 6 + 5, none⟩ (.string tx))) := zz ((((((hbel.setCell (Nat.le_refl _) _).setCell (Nat.le_refl _) _).setCell (Nat.le_refl _) _).setCell (Nat.le_refl _) _).setCell (Nat.le_refl _) _).setCell (Nat.le_refl _) _);clear HQ hrow;replace hbel := zz hbel;replace hown := zz hown;go_wp2_with (at_builtin; go_loud (refine Fg rfl _ _ rfl (w.heap.size + 1) _ ([] : List Nat).reverse bg wr.heap.size (by simp) rfl rfl rfl HOW.out (by simp; try omega) (by simp; try omega) ?_; intro v2 w2 ho2 hb2; replace ho2 := zz ho2; replace hb2 := zz hb2))
     go_roundw
     case rel =>
      refine ⟨k, bg :: [], _, by omega, by go_num, HA2.out, hO4.out, (by simp; try omega), ?_, by rw [List.reverse_cons]; exact ho2.out, HBW.out.trans (hb2.out.mono (by omega))⟩;exact HR.out.of_block (hb2.out.block _ (by omega))
     case measure => simp [intOf]; try omega
    ·cases st' with
     | nil =>
      simp only [List.reverse_nil, List.length_nil] at hown hcap ⊢;have HQ : M0 k st = [] := by rw [<- hpop]; rfl
      have hO4 := zz hO.2.2.2;have hp3 := hO.2.2.1;have HA2 : Hid (Ko l k ((k - szN l k) :: M0 k st) (a16 row (k - szN l k + (M0 k st).length) (nd l k)) = F) := zz (by rw [<- hA]; rfl);have hqle := W3 k st;rw [HQ] at hp3 HA2 hO4 hqle;rw [hsz, hbg] at hp3 HA2 hO4;rw [show ([] : List Nat).length = 0 by simp] at hp3 HA2 hqle;obtain ⟨p, hp⟩ : ∃ p, bg + (0) = p := ⟨_, rfl⟩;rw [hp] at hp3 HA2;obtain rfl : bg = p := by omega
      have hpn : (bg : Int) < n := by omega
      obtain ⟨d0, d1, d2, d3, d4, d5⟩ := S6 hrow hp3;have f0 := hrow.frozen;have HR := zz (S5 hrow bg ⟨kd, ln, cl, (s : Nat), num, tx⟩ (a16 row bg (nd l k)) (fun x _ => by rw [hND.out]; rfl));have hul := hrow.lt;have HOW : Hid (Qk ((((((wr.setCell ⟨w.heap.size, bg * 6, none⟩ (.int .u8 (kd : Nat))).setCell ⟨w.heap.size, bg * 6 + 1, none⟩ (.int .i64 ln)).setCell ⟨w.heap.size, bg * 6 + 2, none⟩ (.int .i64 cl)).setCell ⟨w.heap.size, bg * 6 + 3, none⟩ (.int .i64 (s : Nat))).setCell ⟨w.heap.size, bg * 6 + 4, none⟩ (.int .i64 num)).setCell ⟨w.heap.size, bg * 6 + 5, none⟩ (.string tx)) (w.heap.size + 1) (.slice (some ⟨g1, 0, none⟩) 0 cap1) ([] : List Nat).reverse) := zz (ownsRow_setCell_below (ownsRow_setCell_below (ownsRow_setCell_below (ownsRow_setCell_below (ownsRow_setCell_below (ownsRow_setCell_below hown (by simp) _) (by simp) _) (by simp) _) (by simp) _) (by simp) _) (by simp) _);have HBW : Hid (Below w.heap.size w ((((((wr.setCell ⟨w.heap.size, bg * 6, none⟩ (.int .u8 (kd : Nat))).setCell ⟨w.heap.size, bg * 6 + 1, none⟩ (.int .i64 ln)).setCell ⟨w.heap.size, bg * 6 + 2, none⟩ (.int .i64 cl)).setCell ⟨w.heap.size, bg * 6 + 3, none⟩ (.int .i64 (s : Nat))).setCell ⟨w.heap.size, bg * 6 + 4, none⟩ (.int .i64 num)).setCell ⟨w.heap.size, bg * 6 + 5, none⟩ (.string tx))) := zz ((((((hbel.setCell (Nat.le_refl _) _).setCell (Nat.le_refl _) _).setCell (Nat.le_refl _) _).setCell (Nat.le_refl _) _).setCell (Nat.le_refl _) _).setCell (Nat.le_refl _) _);clear HQ hrow;replace hbel := zz hbel;replace hown := zz hown;go_wp2_with (at_builtin; go_loud (refine Fg rfl _ _ rfl (w.heap.size + 1) _ ([] : List Nat).reverse bg wr.heap.size (by simp) rfl rfl rfl HOW.out (by simp; try omega) (by simp; try omega) ?_; intro v2 w2 ho2 hb2; replace ho2 := zz ho2; replace hb2 := zz hb2))
      go_roundw
      case rel =>
       refine ⟨k, bg :: [], _, by omega, by go_num, HA2.out, hO4.out, (by simp; try omega), ?_, by rw [List.reverse_cons]; exact ho2.out, HBW.out.trans (hb2.out.mono (by omega))⟩;exact HR.out.of_block (hb2.out.block _ (by omega))
      case measure => simp [intOf]; try omega
     | cons x rest =>
      obtain ⟨m, hm⟩ : ∃ m, rest.length = m := ⟨_, rfl⟩;have hrl : (x :: rest).reverse.length = m + 1 := by simp [hm]
      rw [hrl] at hown hcap hcells ⊢;have hlast := hcells m (by omega);rw [show (x :: rest).reverse.getD m 0 = x by rw [List.reverse_cons, List.getD_eq_getElem?_getD, List.getElem?_append_right (by simp [hm])]; simp [hm]] at hlast;have hm1 : ((m + 1 : Nat) : Int) - 1 = (m : Int) := by omega
      have hmlen : rest.length + 1 <= st.length := by simpa using hle
      clear hcells hrl;by_cases hx : k < x
      ·have hxi : (k : Int) < x := by omega
       have hsl : ∀ w : World, (Instr.slice 41 (.slice (some ⟨g1, 0, none⟩) (m + 1) cap1) none (some (.int .i64 (m : Int))) none).run prog w = .ok (.slice (some ⟨g1, 0, none⟩) m cap1) w := fun w => by
        rw [run_slice_h w 41 _ _ cap1 underlying41 .i64 m (by omega) (by omega), show prog.elem 41 = 3 by kernel_rfl, show (sizeOf 3).run prog w = .ok 1 w by kernel_rfl];simp [Result.andThen, sliced, Addr.add]
       have HP := zz (a8y (by simp [hm]) (by rw [List.reverse_cons] at hown; exact hown) : Qk wr (w.heap.size + 1) (.slice (some ⟨g1, 0, none⟩) m cap1) rest.reverse);have HQ : Hid (M0 k rest = M0 k st) := zz (by rw [<- hpop]; conv => rhs; rw [M0, if_pos hx]);replace hown := zz hown;clear hpop;go_wp2_with fail
       go_round
       case rel => exact ⟨rest, HP.out, HQ.out, by omega⟩
       case measure => simp [c3b]
      ·have hxi : ¬ (k : Int) < x := by omega
       have HQ : M0 k st = x :: rest := by rw [<- hpop, M0, if_neg hx]
       have hO4 := zz hO.2.2.2;have hp3 := hO.2.2.1;have HA2 : Hid (Ko l k ((k - szN l k) :: M0 k st) (a16 row (k - szN l k + (M0 k st).length) (nd l k)) = F) := zz (by rw [<- hA]; rfl);have hqle := W3 k st;rw [HQ] at hp3 HA2 hO4 hqle;rw [hsz, hbg] at hp3 HA2 hO4;rw [show (x :: rest : List Nat).length = m + 1 by simp; omega] at hp3 HA2 hqle;obtain ⟨p, hp⟩ : ∃ p, bg + (m + 1) = p := ⟨_, rfl⟩;rw [hp] at hp3 HA2;have hpi : ((bg : Nat) : Int) + (m : Nat) + 1 = (p : Nat) := by omega
       have hpi2 : ((bg : Nat) : Int) + ((m : Nat) + 1) = (p : Nat) := by omega
       have hpi3 : ((bg : Nat) : Int) + ((m + 1 : Nat) : Int) = (p : Nat) := by omega
       have hpn : (p : Int) < n := by omega
       obtain ⟨d0, d1, d2, d3, d4, d5⟩ := S6 hrow hp3;have f0 := hrow.frozen;have HR := zz (S5 hrow p ⟨kd, ln, cl, (s : Nat), num, tx⟩ (a16 row p (nd l k)) (fun x _ => by rw [hND.out]; rfl));have hul := hrow.lt;have HOW : Hid (Qk ((((((wr.setCell ⟨w.heap.size, p * 6, none⟩ (.int .u8 (kd : Nat))).setCell ⟨w.heap.size, p * 6 + 1, none⟩ (.int .i64 ln)).setCell ⟨w.heap.size, p * 6 + 2, none⟩ (.int .i64 cl)).setCell ⟨w.heap.size, p * 6 + 3, none⟩ (.int .i64 (s : Nat))).setCell ⟨w.heap.size, p * 6 + 4, none⟩ (.int .i64 num)).setCell ⟨w.heap.size, p * 6 + 5, none⟩ (.string tx)) (w.heap.size + 1) (.slice (some ⟨g1, 0, none⟩) (m + 1) cap1) (x :: rest : List Nat).reverse) := zz (ownsRow_setCell_below (ownsRow_setCell_below (ownsRow_setCell_below (ownsRow_setCell_below (ownsRow_setCell_below (ownsRow_setCell_below hown (by simp) _) (by simp) _) (by simp) _) (by simp) _) (by simp) _) (by simp) _);have HBW : Hid (Below w.heap.size w ((((((wr.setCell ⟨w.heap.size, p * 6, none⟩ (.int .u8 (kd : Nat))).setCell ⟨w.heap.size, p * 6 + 1, none⟩ (.int .i64 ln)).setCell ⟨w.heap.size, p * 6 + 2, none⟩ (.int .i64 cl)).setCell ⟨w.heap.size, p * 6 + 3, none⟩ (.int .i64 (s : Nat))).setCell ⟨w.heap.size, p * 6 + 4, none⟩ (.int .i64 num)).setCell ⟨w.heap.size, p * 6 + 5, none⟩ (.string tx))) := zz ((((((hbel.setCell (Nat.le_refl _) _).setCell (Nat.le_refl _) _).setCell (Nat.le_refl _) _).setCell (Nat.le_refl _) _).setCell (Nat.le_refl _) _).setCell (Nat.le_refl _) _);clear HQ hrow hp;replace hbel := zz hbel;replace hown := zz hown;go_wp2_with (at_builtin; go_loud (refine Fg rfl _ _ rfl (w.heap.size + 1) _ (x :: rest : List Nat).reverse bg wr.heap.size (by simp) rfl rfl rfl HOW.out (by simp; try omega) (by simp; try omega) ?_; intro v2 w2 ho2 hb2; replace ho2 := zz ho2; replace hb2 := zz hb2))
       go_roundw
       case rel =>
        refine ⟨k, bg :: x :: rest, _, by omega, by go_num, HA2.out, hO4.out, (by simp; try omega), ?_, by rw [List.reverse_cons]; exact ho2.out, HBW.out.trans (hb2.out.mono (by omega))⟩;exact HR.out.of_block (hb2.out.block _ (by omega))
       case measure => simp [intOf]; try omega
end
end
end Go.Proofs.YtoaplbljflhheaaGreat
