/-
  Contract of parse.aheadOfChildren: a tree's nodes, each ahead of its children. Conditions: as said (at most 600000 nodes).
-/
import Derived.Test.YtbknflaooemigaaAhp
import Derived.Test.YtbknflaooemigaaRef
import Derived.Deep.OwnRows
import Derived.WalkSmall
namespace Go.Proofs.Ytbknflaooemigaa
open Go.RowKit Go.Sort
set_option linter.unusedVariables false
set_option linter.unusedSimpArgs false

/-- An int as the program holds it. -/
abbrev itv (k : Nat) : Value := .int .i64 (k : Nat)
theorem Try.info3 : (Try.prog.info? 3).map (fun i => (i.zero, i.size, i.bytes)) = some (some (.int .i64 0), 1, 8) := by kernel_rfl
/-- A row of ints that the call owns. -/
def OwnI (w : World) (B : Nat) (v : Value) (l : List Nat) : Prop := w.ownsRow B 3 1 v l.length (l.map itv)
theorem ownI_nil (w : World) (B : Nat) : OwnI w B (.slice none 0 0) [] := World.ownsRow_nil w B 3 1
theorem ownI_carry {w w' : World} {B : Nat} {v : Value} {l : List Nat} (h : OwnI w B v l) (hb : Below w.heap.size w w') : OwnI w' B v l :=
  World.ownsRow.kept h (row := none) ⟨hb.os, hb.tape, hb.output, hb.size, fun k hk _ => hb.block k hk⟩ (by cases hv : v.ownBlock <;> simp)
theorem ownI_form {w : World} {B : Nat} {v : Value} {l : List Nat} (h : OwnI w B v l) : (v = .slice none 0 0 ∧ l = []) ∨ ∃ g cap, v = .slice (some ⟨g, 0, none⟩) l.length cap ∧ l.length ≤ cap ∧ ∀ i, i < l.length → w.cell? ⟨g, i, none⟩ = some (itv (l.getD i 0)) := by
  rcases h.2 with ⟨rfl, hn⟩ | ⟨g, cap, cur, rfl, h2, h3, h4, h5⟩
  · exact .inl ⟨rfl, List.eq_nil_of_length_eq_zero hn⟩
  · have hown : w.ownsRow B 3 1 (.slice (some ⟨g, 0, none⟩) l.length cap) l.length (l.map itv) := h
    refine .inr ⟨g, cap, rfl, h4, fun i hi => ?_⟩
    rw [hown.cellAt i (by omega)]
    simp [List.getD, hi]
theorem ownI_pop {w : World} {B : Nat} {g cap : Nat} {l : List Nat} {x : Nat} {m : Nat} (hm : l.length = m) (h : OwnI w B (.slice (some ⟨g, 0, none⟩) (m + 1) cap) (l ++ [x])) : OwnI w B (.slice (some ⟨g, 0, none⟩) m cap) l := by
  subst hm
  unfold OwnI at *
  rw [List.length_append, List.map_append] at h
  exact ownsRow_pop (by simp) h
theorem wpList_appI {ops : Array Oper} {rest : List Oper} {o : Oper} {a : Act} {Q : Exit → Act → World → Prop} {w : World} {news : Array Value} (hgd : o.guard = none) (s x : Operand)
    (ho : o.op = .call { callee := .builtin .append, args := #[s, x], argTypes := #[55, 55] }) (B : Nat) (v : Value) (l : List Nat) (t : Nat) (b : Nat) (hbw : w.heap.size = b) (hs : a.eval s = v)
    (hx : a.eval x = .slice (some ⟨b, 0, none⟩) 1 1) (hm : news.toList = [itv t]) (hown : OwnI w B v l) (hB : B ≤ w.heap.size) (hl : l.length + 1 ≤ 100000000)
    (h : ∀ v' w', OwnI w' B v' (l ++ [t]) → Below B w w' → wpList Try.prog ops Q rest (a.put o.dst v') w') : wpList Try.prog ops Q (o :: rest) a (w.alloc (.cells news 3)) := by
  subst hbw
  obtain ⟨i0, hi0, hz0, hz1, hz2⟩ := info_parts Try.info3
  have hown' : (w.alloc (.cells news 3)).ownsRow B 3 1 v l.length (l.map itv) := ownI_carry hown (below_alloc w _)
  have hcell : ∀ j u, [itv t][j]? = some u → (w.alloc (.cells news 3)).cell? ((⟨w.heap.size, 0, none⟩ : Addr).add j) = some u := by
    intro j u hj
    rw [← hm] at hj
    rw [plain_add]
    simp at hj
    simp [go_sem, hj]
  refine wpList_append_own _ hgd s x 55 ho B 3 i0 _ 1 8 Try.underlying55 hi0 hz0 hz1 hz2 rfl (by decide) v l.length (l.map itv) hs hown' ⟨w.heap.size, 0, none⟩ 1 1 [itv t] hx (by simp) hcell ?_ ?_ ?_ ?_ ?_
  · intro u hu
    obtain rfl : u = itv t := by simpa using hu
    rfl
  · unfold maxLen; omega
  · omega
  · simp; omega
  · intro v' w' h1 h2 _
    refine h v' w' ?_ (((below_alloc w _).mono hB).trans ((Below.refl B _).grown h2 (by simp; omega) fun r hr => (hown'.lt r hr).1))
    unfold OwnI
    rw [List.length_append, List.map_append]
    exact h1

/-- Nodes laid flat. -/
def flat (F : Nat → Nd) (j : Nat) : Value := (ndCells (F (j / 6))).getD (j % 6) (.bool false)
theorem flat_at {w : World} {g m : Nat} {F : Nat → Nd} (h : w.rowIs g 32 (m * 6) (flat F)) {i : Nat} (hi : i < m) : At w g (i * 6) (F i) := by
  have key : ∀ j, j < 6 → w.cell? ⟨g, i * 6 + j, none⟩ = some ((ndCells (F i)).getD j (.bool false)) := fun j hj => by
    have := h.cell (i := i * 6 + j) (by omega)
    rw [this, flat, show (i * 6 + j) / 6 = i by omega, show (i * 6 + j) % 6 = j by omega]
  exact ⟨key 0 (by omega), key 1 (by omega), key 2 (by omega), key 3 (by omega), key 4 (by omega), key 5 (by omega)⟩
theorem flat_zero (j : Nat) : flat (fun _ => nd0) j = (#[.int .u8 0, .int .i64 0, .int .i64 0, .int .i64 0, .int .i64 0, .string { data := #[] }] : Array Value)[j % 6]! := by
  have hj : j % 6 < 6 := Nat.mod_lt _ (by omega)
  unfold flat
  generalize j % 6 = r at *
  match r, hj with
  | 0, _ => rfl
  | 1, _ => rfl
  | 2, _ => rfl
  | 3, _ => rfl
  | 4, _ => rfl
  | 5, _ => rfl
theorem flat_set {w : World} {g m : Nat} {F : Nat → Nd} (h : w.rowIs g 32 (m * 6) (flat F)) (i : Nat) (n : Nd) (G : Nat → Nd) (hG : ∀ x, x < m → G x = if x = i then n else F x) :
    ((((((w.setCell ⟨g, i * 6, none⟩ (.int .u8 (n.kind : Nat))).setCell ⟨g, i * 6 + 1, none⟩ (.int .i64 n.line)).setCell ⟨g, i * 6 + 2, none⟩ (.int .i64 n.col)).setCell ⟨g, i * 6 + 3, none⟩ (.int .i64 n.size)).setCell ⟨g, i * 6 + 4, none⟩ (.int .i64 n.num)).setCell ⟨g, i * 6 + 5, none⟩ (.string n.text)).rowIs g 32 (m * 6) (flat G) := by
  refine ((((((h.set _ _).set _ _).set _ _).set _ _).set _ _).set _ _).congr fun j hj => ?_
  have hd : j / 6 < m := by omega
  unfold flat
  rw [hG _ hd]
  by_cases e : j / 6 = i
  · rw [if_pos e]
    have hr : j % 6 < 6 := Nat.mod_lt _ (by omega)
    have hj2 : j = i * 6 + j % 6 := by omega
    generalize j % 6 = r at *
    subst hj2
    match r, hr with
    | 0, _ => simp [ndCells]
    | 1, _ => simp [ndCells]
    | 2, _ => simp [ndCells]
    | 3, _ => simp [ndCells]
    | 4, _ => simp [ndCells]
    | 5, _ => simp [ndCells]
  · rw [if_neg e, if_neg (by omega), if_neg (by omega), if_neg (by omega), if_neg (by omega), if_neg (by omega), if_neg (by omega)]
theorem run_make_nodes (m : Nat) (hm : m ≤ 1000000) (w : World) : (Instr.makeSlice 23 (.int .i64 (m : Int)) (.int .i64 (m : Int))).run Try.prog w = .ok (.slice (some ⟨w.heap.size, 0, none⟩) m m) (w.alloc (.cells (madeCells #[.int .u8 0, .int .i64 0, .int .i64 0, .int .i64 0, .int .i64 0, .string { data := #[] }] (m * 6)) 32)) := by
  obtain ⟨i0, hi0, hz0, hz1, hz2⟩ := info_parts Try.info32
  have := run_make (P := Try.prog) w 23 32 i0 _ Try.underlying23 hi0 hz0 .i64 .i64 m m (by omega) (Int.le_refl _) (by rw [hz2]; omega) (by omega)
  rw [hz1] at this
  simpa [Value.cells] using this

def lenV (v : Value) : Nat := match v with
  | .slice _ n _ => n
  | _ => 0
def ARel (w : World) (l : List Nd) (n : Nat) (F : Nat → Nd) (v j : Value) (wr : World) : Prop :=
  ∃ (k : Nat) (st : List Nat) (row : Nat → Nd), k ≤ n ∧ j = .int .i64 ((k : Int) - 1) ∧ aheadG l k st row = F ∧ okG l n k st ∧ st.length + k ≤ n ∧ wr.rowIs w.heap.size 32 (n * 6) (flat row) ∧ OwnI wr (w.heap.size + 1) v st.reverse ∧ Below w.heap.size w wr

theorem pop_len (k : Nat) (st : List Nat) : (popB k st).length ≤ st.length := by
  induction st with
  | nil => exact Nat.le_refl _
  | cons x l ih => unfold popB; split <;> simp; omega

set_option maxHeartbeats 4000000 in
theorem ahead_any {w : World} {a : Option Addr} {n cap : Nat} {l : List Nd} (hn : Hid (l.length = n)) (hl : n ≤ 600000) (hr : Hid (NRow w a l)) (hok : Hid (okG l n n [])) :
    Calls Try.prog 14 #[.slice a n cap] w fun e w' => ∃ g, e = .returned (.slice (some ⟨g, 0, none⟩) n n) ∧ w.heap.size ≤ g ∧ (∀ i, i < n → At w' g (i * 6) (aheadG l n [] (fun _ => nd0) i)) ∧ Below w.heap.size w w' := by
  have hmk := run_make_nodes n (by omega)
  obtain ⟨F, hF⟩ : ∃ F, aheadG l n [] (fun _ => nd0) = F := ⟨_, rfl⟩
  rw [hF]
  replace hF := Lib.hid hF
  go_enter Try.func14, Try.ntmps14
  go_wp2_with fail
  go_loopw [4, 5] (fun v j wr => ARel w l n F v j wr) (fun _ j _ => (intOf j + 1).toNat)
  case atStart =>
    refine ⟨n, [], fun _ => nd0, Nat.le_refl _, rfl, hF.out, hok.out, by simp, ?_, ownI_nil _ _, below_alloc _ _⟩
    have := World.rowIs_alloc w (madeCells #[.int .u8 0, .int .i64 0, .int .i64 0, .int .i64 0, .int .i64 0, .string { data := #[] }] (n * 6)) 32 (flat (fun _ => nd0)) (fun i hi => by
      rw [size_madeCells] at hi
      rw [flat_zero]
      simp [madeCells, hi])
    rwa [size_madeCells] at this
  case round =>
    clear hmk hF hok
    obtain ⟨k, st, row, hk, rfl, hA, hO, hlen, hrow, hown, hbel⟩ := hrel
    cases k with
    | zero =>
      have HW : Hid (∀ i, i < n → At wr w.heap.size (i * 6) (F i)) := Lib.hid fun i hi => by rw [← hA]; exact flat_at hrow hi
      replace hbel := Lib.hid hbel
      clear hrow hown hA
      go_wp2_with fail
      go_ret
      exact ⟨_, rfl, Nat.le_refl _, HW.out, hbel.out⟩
    | succ k =>
      rw [show (((k + 1 : Nat) : Int) - 1) = (k : Int) by omega]
      obtain ⟨b0, o0, rfl, hat⟩ := (hr.out.carry hbel) k (by rw [hn.out]; omega)
      obtain ⟨c0, c1, c2, c3, c4, c5⟩ := hat
      obtain ⟨kd, ln, cl, sz, num, tx, hND⟩ : ∃ kd ln cl sz num tx, nd l k = ⟨kd, ln, cl, sz, num, tx⟩ := ⟨_, _, _, _, _, _, rfl⟩
      have hO1 := hO.1
      have hO2 := hO.2.1
      obtain ⟨s, hsz⟩ : ∃ s, szN l k = s := ⟨_, rfl⟩
      rw [hsz] at hO1 hO2
      rw [hND] at c0 c1 c2 c3 c4 c5 hO1
      simp only at c0 c1 c2 c3 c4 c5 hO1
      rw [hO1] at c3
      rw [hO1] at hND
      replace hND := Lib.hid hND
      obtain ⟨bg, hbg⟩ : ∃ bg, k - s = bg := ⟨_, rfl⟩
      have hbgi : (k : Int) - (s : Nat) = (bg : Nat) := by omega
      have hnk : (k : Int) < n := by omega
      clear hO1
      go_wp2_with fail
      go_loop [4] (fun v => ∃ st' : List Nat, OwnI wr (w.heap.size + 1) v st'.reverse ∧ popB k st' = popB k st ∧ st'.length ≤ st.length) (fun v => lenV v)
      case atStart => exact ⟨st, hown, rfl, Nat.le_refl _⟩
      case round =>
        clear hown
        obtain ⟨st', hown, hpop, hle⟩ := hrel
        rcases ownI_form hown with ⟨rfl, hnil⟩ | ⟨g1, cap1, rfl, hcap, hcells⟩
        · obtain rfl : st' = [] := by simpa using hnil
          have HQ : popB k st = [] := by rw [← hpop]; rfl
          have hO4 := Lib.hid hO.2.2.2
          have hp3 := hO.2.2.1
          have HA2 : Hid (aheadG l k ((k - szN l k) :: popB k st) (updN row (k - szN l k + (popB k st).length) (nd l k)) = F) := Lib.hid (by rw [← hA]; rfl)
          have hqle := pop_len k st
          rw [HQ] at hp3 HA2 hO4 hqle
          rw [hsz, hbg] at hp3 HA2 hO4
          rw [show ([] : List Nat).length = 0 by simp] at hp3 HA2 hqle
          obtain ⟨p, hp⟩ : ∃ p, bg + (0) = p := ⟨_, rfl⟩
          rw [hp] at hp3 HA2
          obtain rfl : bg = p := by omega
          have hpn : (bg : Int) < n := by omega
          obtain ⟨d0, d1, d2, d3, d4, d5⟩ := flat_at hrow hp3
          have f0 := hrow.frozen
          have HR := Lib.hid (flat_set hrow bg ⟨kd, ln, cl, (s : Nat), num, tx⟩ (updN row bg (nd l k)) (fun x _ => by rw [hND.out]; rfl))
          have hul := hrow.lt
          have HOW : Hid (OwnI ((((((wr.setCell ⟨w.heap.size, bg * 6, none⟩ (.int .u8 (kd : Nat))).setCell ⟨w.heap.size, bg * 6 + 1, none⟩ (.int .i64 ln)).setCell ⟨w.heap.size, bg * 6 + 2, none⟩ (.int .i64 cl)).setCell ⟨w.heap.size, bg * 6 + 3, none⟩ (.int .i64 (s : Nat))).setCell ⟨w.heap.size, bg * 6 + 4, none⟩ (.int .i64 num)).setCell ⟨w.heap.size, bg * 6 + 5, none⟩ (.string tx)) (w.heap.size + 1) (.slice none 0 0) ([] : List Nat).reverse) := Lib.hid (ownsRow_setCell_below (ownsRow_setCell_below (ownsRow_setCell_below (ownsRow_setCell_below (ownsRow_setCell_below (ownsRow_setCell_below hown (by simp) _) (by simp) _) (by simp) _) (by simp) _) (by simp) _) (by simp) _)
          have HBW : Hid (Below w.heap.size w ((((((wr.setCell ⟨w.heap.size, bg * 6, none⟩ (.int .u8 (kd : Nat))).setCell ⟨w.heap.size, bg * 6 + 1, none⟩ (.int .i64 ln)).setCell ⟨w.heap.size, bg * 6 + 2, none⟩ (.int .i64 cl)).setCell ⟨w.heap.size, bg * 6 + 3, none⟩ (.int .i64 (s : Nat))).setCell ⟨w.heap.size, bg * 6 + 4, none⟩ (.int .i64 num)).setCell ⟨w.heap.size, bg * 6 + 5, none⟩ (.string tx))) := Lib.hid ((((((hbel.setCell (Nat.le_refl _) _).setCell (Nat.le_refl _) _).setCell (Nat.le_refl _) _).setCell (Nat.le_refl _) _).setCell (Nat.le_refl _) _).setCell (Nat.le_refl _) _)
          clear HQ hrow
          replace hbel := Lib.hid hbel
          replace hown := Lib.hid hown
          go_wp2_with (at_builtin; go_loud (refine wpList_appI rfl _ _ rfl (w.heap.size + 1) _ ([] : List Nat).reverse bg wr.heap.size (by simp) rfl rfl rfl HOW.out (by simp; try omega) (by simp; try omega) ?_; intro v2 w2 ho2 hb2; replace ho2 := Lib.hid ho2; replace hb2 := Lib.hid hb2))
          go_roundw
          case rel =>
            refine ⟨k, bg :: [], _, by omega, by go_num, HA2.out, hO4.out, (by simp; try omega), ?_, by rw [List.reverse_cons]; exact ho2.out, HBW.out.trans (hb2.out.mono (by omega))⟩
            exact HR.out.of_block (hb2.out.block _ (by omega))
          case measure => simp [intOf]; try omega
        · cases st' with
          | nil =>
            simp only [List.reverse_nil, List.length_nil] at hown hcap ⊢
            have HQ : popB k st = [] := by rw [← hpop]; rfl
            have hO4 := Lib.hid hO.2.2.2
            have hp3 := hO.2.2.1
            have HA2 : Hid (aheadG l k ((k - szN l k) :: popB k st) (updN row (k - szN l k + (popB k st).length) (nd l k)) = F) := Lib.hid (by rw [← hA]; rfl)
            have hqle := pop_len k st
            rw [HQ] at hp3 HA2 hO4 hqle
            rw [hsz, hbg] at hp3 HA2 hO4
            rw [show ([] : List Nat).length = 0 by simp] at hp3 HA2 hqle
            obtain ⟨p, hp⟩ : ∃ p, bg + (0) = p := ⟨_, rfl⟩
            rw [hp] at hp3 HA2
            obtain rfl : bg = p := by omega
            have hpn : (bg : Int) < n := by omega
            obtain ⟨d0, d1, d2, d3, d4, d5⟩ := flat_at hrow hp3
            have f0 := hrow.frozen
            have HR := Lib.hid (flat_set hrow bg ⟨kd, ln, cl, (s : Nat), num, tx⟩ (updN row bg (nd l k)) (fun x _ => by rw [hND.out]; rfl))
            have hul := hrow.lt
            have HOW : Hid (OwnI ((((((wr.setCell ⟨w.heap.size, bg * 6, none⟩ (.int .u8 (kd : Nat))).setCell ⟨w.heap.size, bg * 6 + 1, none⟩ (.int .i64 ln)).setCell ⟨w.heap.size, bg * 6 + 2, none⟩ (.int .i64 cl)).setCell ⟨w.heap.size, bg * 6 + 3, none⟩ (.int .i64 (s : Nat))).setCell ⟨w.heap.size, bg * 6 + 4, none⟩ (.int .i64 num)).setCell ⟨w.heap.size, bg * 6 + 5, none⟩ (.string tx)) (w.heap.size + 1) (.slice (some ⟨g1, 0, none⟩) 0 cap1) ([] : List Nat).reverse) := Lib.hid (ownsRow_setCell_below (ownsRow_setCell_below (ownsRow_setCell_below (ownsRow_setCell_below (ownsRow_setCell_below (ownsRow_setCell_below hown (by simp) _) (by simp) _) (by simp) _) (by simp) _) (by simp) _) (by simp) _)
            have HBW : Hid (Below w.heap.size w ((((((wr.setCell ⟨w.heap.size, bg * 6, none⟩ (.int .u8 (kd : Nat))).setCell ⟨w.heap.size, bg * 6 + 1, none⟩ (.int .i64 ln)).setCell ⟨w.heap.size, bg * 6 + 2, none⟩ (.int .i64 cl)).setCell ⟨w.heap.size, bg * 6 + 3, none⟩ (.int .i64 (s : Nat))).setCell ⟨w.heap.size, bg * 6 + 4, none⟩ (.int .i64 num)).setCell ⟨w.heap.size, bg * 6 + 5, none⟩ (.string tx))) := Lib.hid ((((((hbel.setCell (Nat.le_refl _) _).setCell (Nat.le_refl _) _).setCell (Nat.le_refl _) _).setCell (Nat.le_refl _) _).setCell (Nat.le_refl _) _).setCell (Nat.le_refl _) _)
            clear HQ hrow
            replace hbel := Lib.hid hbel
            replace hown := Lib.hid hown
            go_wp2_with (at_builtin; go_loud (refine wpList_appI rfl _ _ rfl (w.heap.size + 1) _ ([] : List Nat).reverse bg wr.heap.size (by simp) rfl rfl rfl HOW.out (by simp; try omega) (by simp; try omega) ?_; intro v2 w2 ho2 hb2; replace ho2 := Lib.hid ho2; replace hb2 := Lib.hid hb2))
            go_roundw
            case rel =>
              refine ⟨k, bg :: [], _, by omega, by go_num, HA2.out, hO4.out, (by simp; try omega), ?_, by rw [List.reverse_cons]; exact ho2.out, HBW.out.trans (hb2.out.mono (by omega))⟩
              exact HR.out.of_block (hb2.out.block _ (by omega))
            case measure => simp [intOf]; try omega
          | cons x rest =>
            obtain ⟨m, hm⟩ : ∃ m, rest.length = m := ⟨_, rfl⟩
            have hrl : (x :: rest).reverse.length = m + 1 := by simp [hm]
            rw [hrl] at hown hcap hcells ⊢
            have hlast := hcells m (by omega)
            rw [show (x :: rest).reverse.getD m 0 = x by rw [List.reverse_cons, List.getD_eq_getElem?_getD, List.getElem?_append_right (by simp [hm])]; simp [hm]] at hlast
            have hm1 : ((m + 1 : Nat) : Int) - 1 = (m : Int) := by omega
            have hmlen : rest.length + 1 ≤ st.length := by simpa using hle
            clear hcells hrl
            by_cases hx : k < x
            · have hxi : (k : Int) < x := by omega
              have hsl : ∀ w : World, (Instr.slice 55 (.slice (some ⟨g1, 0, none⟩) (m + 1) cap1) none (some (.int .i64 (m : Int))) none).run Try.prog w = .ok (.slice (some ⟨g1, 0, none⟩) m cap1) w := fun w => by
                rw [run_slice_h w 55 _ _ cap1 Try.underlying55 .i64 m (by omega) (by omega), show Try.prog.elem 55 = 3 by kernel_rfl, show (sizeOf 3).run Try.prog w = .ok 1 w by kernel_rfl]
                simp [Result.andThen, sliced, Addr.add]
              have HP := Lib.hid (ownI_pop (by simp [hm]) (by rw [List.reverse_cons] at hown; exact hown) : OwnI wr (w.heap.size + 1) (.slice (some ⟨g1, 0, none⟩) m cap1) rest.reverse)
              have HQ : Hid (popB k rest = popB k st) := Lib.hid (by rw [← hpop]; conv => rhs; rw [popB, if_pos hx])
              replace hown := Lib.hid hown
              clear hpop
              go_wp2_with fail
              go_round
              case rel => exact ⟨rest, HP.out, HQ.out, by omega⟩
              case measure => simp [lenV]
            · have hxi : ¬ (k : Int) < x := by omega
              have HQ : popB k st = x :: rest := by rw [← hpop, popB, if_neg hx]
              have hO4 := Lib.hid hO.2.2.2
              have hp3 := hO.2.2.1
              have HA2 : Hid (aheadG l k ((k - szN l k) :: popB k st) (updN row (k - szN l k + (popB k st).length) (nd l k)) = F) := Lib.hid (by rw [← hA]; rfl)
              have hqle := pop_len k st
              rw [HQ] at hp3 HA2 hO4 hqle
              rw [hsz, hbg] at hp3 HA2 hO4
              rw [show (x :: rest : List Nat).length = m + 1 by simp; omega] at hp3 HA2 hqle
              obtain ⟨p, hp⟩ : ∃ p, bg + (m + 1) = p := ⟨_, rfl⟩
              rw [hp] at hp3 HA2
              have hpi : ((bg : Nat) : Int) + (m : Nat) + 1 = (p : Nat) := by omega
              have hpi2 : ((bg : Nat) : Int) + ((m : Nat) + 1) = (p : Nat) := by omega
              have hpi3 : ((bg : Nat) : Int) + ((m + 1 : Nat) : Int) = (p : Nat) := by omega
              have hpn : (p : Int) < n := by omega
              obtain ⟨d0, d1, d2, d3, d4, d5⟩ := flat_at hrow hp3
              have f0 := hrow.frozen
              have HR := Lib.hid (flat_set hrow p ⟨kd, ln, cl, (s : Nat), num, tx⟩ (updN row p (nd l k)) (fun x _ => by rw [hND.out]; rfl))
              have hul := hrow.lt
              have HOW : Hid (OwnI ((((((wr.setCell ⟨w.heap.size, p * 6, none⟩ (.int .u8 (kd : Nat))).setCell ⟨w.heap.size, p * 6 + 1, none⟩ (.int .i64 ln)).setCell ⟨w.heap.size, p * 6 + 2, none⟩ (.int .i64 cl)).setCell ⟨w.heap.size, p * 6 + 3, none⟩ (.int .i64 (s : Nat))).setCell ⟨w.heap.size, p * 6 + 4, none⟩ (.int .i64 num)).setCell ⟨w.heap.size, p * 6 + 5, none⟩ (.string tx)) (w.heap.size + 1) (.slice (some ⟨g1, 0, none⟩) (m + 1) cap1) (x :: rest : List Nat).reverse) := Lib.hid (ownsRow_setCell_below (ownsRow_setCell_below (ownsRow_setCell_below (ownsRow_setCell_below (ownsRow_setCell_below (ownsRow_setCell_below hown (by simp) _) (by simp) _) (by simp) _) (by simp) _) (by simp) _) (by simp) _)
              have HBW : Hid (Below w.heap.size w ((((((wr.setCell ⟨w.heap.size, p * 6, none⟩ (.int .u8 (kd : Nat))).setCell ⟨w.heap.size, p * 6 + 1, none⟩ (.int .i64 ln)).setCell ⟨w.heap.size, p * 6 + 2, none⟩ (.int .i64 cl)).setCell ⟨w.heap.size, p * 6 + 3, none⟩ (.int .i64 (s : Nat))).setCell ⟨w.heap.size, p * 6 + 4, none⟩ (.int .i64 num)).setCell ⟨w.heap.size, p * 6 + 5, none⟩ (.string tx))) := Lib.hid ((((((hbel.setCell (Nat.le_refl _) _).setCell (Nat.le_refl _) _).setCell (Nat.le_refl _) _).setCell (Nat.le_refl _) _).setCell (Nat.le_refl _) _).setCell (Nat.le_refl _) _)
              clear HQ hrow hp
              replace hbel := Lib.hid hbel
              replace hown := Lib.hid hown
              go_wp2_with (at_builtin; go_loud (refine wpList_appI rfl _ _ rfl (w.heap.size + 1) _ (x :: rest : List Nat).reverse bg wr.heap.size (by simp) rfl rfl rfl HOW.out (by simp; try omega) (by simp; try omega) ?_; intro v2 w2 ho2 hb2; replace ho2 := Lib.hid ho2; replace hb2 := Lib.hid hb2))
              go_roundw
              case rel =>
                refine ⟨k, bg :: x :: rest, _, by omega, by go_num, HA2.out, hO4.out, (by simp; try omega), ?_, by rw [List.reverse_cons]; exact ho2.out, HBW.out.trans (hb2.out.mono (by omega))⟩
                exact HR.out.of_block (hb2.out.block _ (by omega))
              case measure => simp [intOf]; try omega


end Go.Proofs.Ytbknflaooemigaa
