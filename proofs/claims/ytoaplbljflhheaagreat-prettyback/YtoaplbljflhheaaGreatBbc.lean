/-
 Contracts and plain facts on the way to PrettyBack. Conditions: as each says.
-/
import Derived.Shelf.Spec.SlicesGrow
import Derived.Laws.AppendOwnNone
import Derived.Test.YtoaplbljflhheaaGreatBax
set_option maxHeartbeats 40000000
set_option maxRecDepth 100000
set_option linter.unusedVariables false
set_option linter.unusedSimpArgs false
namespace Go.Proofs.YtoaplbljflhheaaGreat
open _root_.Go.Proofs.Tryz
section
section
open Go.RowKit Go.Sort
def Tryz.growRen : Go.Shelf.Ren := ⟨fun | 4 => 89 | n => n, fun | 25 => 37 | n => n, fun n => n⟩
theorem Tryz.growLays : Go.Proofs.Lays8.n4 Tryz.prog Tryz.growRen := {
 mixed := by kernel_rfl
 f4 := ⟨ "slices.Grow[[]hindcast/api.Node,hindcast/api.Node]", by decide, Tryz.func89.trans (congrArg some (by kernel_rfl))⟩
 t0 := Tryz.underlying0
 a0 := Tryz.isAgg0
 z0 := Tryz.sizeOf0
 v0 := Tryz.zeroValue0
 t3 := Tryz.underlying3
 a3 := Tryz.isAgg3
 z3 := Tryz.sizeOf3
 v3 := Tryz.zeroValue3
 t4 := Tryz.underlying4
 a4 := Tryz.isAgg4
 z4 := Tryz.sizeOf4
 v4 := Tryz.zeroValue4
 t9 := Tryz.underlying9
 a9 := Tryz.isAgg9
 z9 := Tryz.sizeOf9
 v9 := Tryz.zeroValue9
 t20 := Tryz.underlying20
 a20 := Tryz.isAgg20
 z20 := Tryz.sizeOf20
 v20 := Tryz.zeroValue20
 t22 := Tryz.underlying22
 a22 := Tryz.isAgg22
 z22 := Tryz.sizeOf22
 v22 := Tryz.zeroValue22 }
def c20 (w : World) (l : List Nd) (e : Ending) (w' : World) : Prop := ∃ v, e = .returned v ∧ Ov w' w.heap.size v l ∧ Below w.heap.size w w'
theorem b0b (n : Nat) (w : World) (h1 : 1 <= n) (h2 : n <= 2000000) : Calls prog 89 #[.slice none 0 0, .int .i64 n] w (c20 w []) := by
 obtain ⟨i0, hi0, hz0, hz1, hz2⟩ := info_parts Tryz.info37;have H := Any8.slices_Grow_grow Tryz.growLays i0 _ hi0 hz0 (by rw [hz1]; decide) none 0 0 n [] w (Nat.le_refl _) (by omega) (by rw [hz2]; omega) (by omega) (by simp) (fun _ => rfl) (fun a e => by cases e);refine H.mono ?_;rintro e w' ⟨rfl, rfl⟩;have hcm := grownCap_le_maxLen w (0 + n) 0 (Tryz.growRen.t 25) (by unfold maxLen; omega);have hge := grownCap_ge w (0 + n) 0 (Tryz.growRen.t 25);refine ⟨_, rfl, ?_, ?_⟩
 ·have := World.ownsRow_made (base := w.heap.size) (e := 37) (size := 6) w.drew (#[] ++ Builtin.zeroCells (Value.agg #[.int .u8 0, .int .i64 0, .int .i64 0, .int .i64 0, .int .i64 0, .string { data := #[] }]).cells (0 + n - 0) ++ Builtin.zeroCells (Value.agg #[.int .u8 0, .int .i64 0, .int .i64 0, .int .i64 0, .int .i64 0, .string { data := #[] }]).cells (grownCap w (0 + n) 0 (Tryz.growRen.t 25) - (0 + n))) (grownCap w (0 + n) 0 (Tryz.growRen.t 25)) (Nat.le_refl _) hcm (by
    have : ∀ k, (Builtin.zeroCells (Value.agg #[.int .u8 0, .int .i64 0, .int .i64 0, .int .i64 0, .int .i64 0, .string { data := #[] }]).cells k).size = k * 6 := fun k => by
     rw [size_zeroCells]; rfl
    generalize grownCap w (0 + n) 0 (Tryz.growRen.t 25) = G at hge hcm ⊢;simp only [Array.size_append, this, List.size_toArray, List.length_nil]
    omega)
  exact this
 ·go_grown
theorem a27 {w : World} {ad : Addr} {l : List Nd} (h : Row w (some ad) l) : ∀ j u, (Da l)[j]? = some u -> w.cell? (ad.add j) = some u := fun j u hu => by
 have hj : j < l.length * 6 := by
  have := (List.getElem?_eq_some_iff.1 hu).1
  rwa [Dd] at this
 have hi : j / 6 < l.length := by omega
 obtain ⟨g, o, he, hat, -⟩ := h (j / 6) hi;cases he
 have hD : l = l.take (j / 6) ++ nd l (j / 6) :: l.drop (j / 6 + 1) := by
  have : nd l (j / 6) = l[j / 6] := by simp [nd, List.getD_eq_getElem?_getD, List.getElem?_eq_getElem hi]
  rw [this];simp
 have e : (Da l)[j]? = (Bn (nd l (j / 6)))[j % 6]? := by
  conv => lhs; rw [hD]
  rw [G0, List.getElem?_append_right (by rw [Dd, List.length_take]; omega), Dd, List.length_take, show j - min (j / 6) l.length * 6 = j % 6 by rw [Nat.min_eq_left (by omega)]; omega];unfold Da;rw [List.flatMap_cons, List.getElem?_append_left (by simp [Bn]; omega)]
 rw [e] at hu;obtain ⟨c0, c1, c2, c3, c4, c5⟩ := hat
 have ha : (⟨g, o, none⟩ : Addr).add j = ⟨g, o + j / 6 * 6 + j % 6, none⟩ := by
  unfold Addr.add;by_cases h0 : j = 0
  ·subst h0; rfl
  ·rw [if_neg (by simpa using h0)];simp only [Addr.mk.injEq, true_and, and_true];omega
 rw [ha];have h6 : j % 6 = 0 ∨ j % 6 = 1 ∨ j % 6 = 2 ∨ j % 6 = 3 ∨ j % 6 = 4 ∨ j % 6 = 5 := by omega
 generalize j % 6 = r at hu h6 ⊢;rcases h6 with rfl | rfl | rfl | rfl | rfl | rfl <;> simp only [Bn, List.getElem?_cons_succ, List.getElem?_cons_zero, Option.some.injEq] at hu <;> subst hu <;> assumption
theorem a86 (l : List Nd) : ∀ u ∈ Da l, u.oneCell' = true := fun u hu => by
 obtain ⟨t, _, ht⟩ := List.mem_flatMap.1 hu;exact b16 t u ht
theorem Oy {ops : Array Oper} {rest : List Oper} {o : Oper} {a : Act} {Q : Exit -> Act -> World -> Prop} {w : World} (hgd : o.guard = none) (s x : Operand)
  (ho : o.op = .call { callee := .builtin .append, args := #[s, x], argTypes := #[22, 22] }) (B : Nat) (v : Value) (l m : List Nd) (ad : Option Addr) (k c : Nat) (hs : a.eval s = v)
  (hx : a.eval x = .slice ad k c) (hz : ad = none -> k = 0 ∧ c = 0) (hk : m.length = k) (hm : Row w ad m) (hown : Ov w B v l) (hB : B <= w.heap.size) (hl : l.length + k <= 2000000)
  (h : ∀ v' w', Ov w' B v' (l ++ m) -> Below B w w' -> wpList prog ops Q rest (a.put o.dst v') w') : wpList prog ops Q (o :: rest) a w := by
 obtain ⟨i0, hi0, hz0, hz1, hz2⟩ := info_parts Tryz.info37;have hown' : w.ownsRow B 37 6 v l.length (Da l) := hown
 cases ad with
 | none =>
  obtain ⟨rfl, rfl⟩ := hz rfl;obtain rfl : m = [] := List.eq_nil_of_length_eq_zero hk;refine wpList_append_own_none hgd s x 22 ho B 37 i0 6 underlying22 hi0 v l.length (Da l) hs hown' hx ?_
  exact h v w (by simpa using hown) (Below.refl _ _)
 | some ad =>
  refine wpList_append_own _ hgd s x 22 ho B 37 i0 _ 6 56 underlying22 hi0 hz0 hz1 hz2 rfl (by decide) v l.length (Da l) hs hown' ad k c (Da m) hx (by rw [Dd, hk]) (a27 hm) (a86 m) ?_ ?_ hB ?_
  ·unfold maxLen; omega
  ·omega
  ·intro v' w' h1 h2 _;refine h v' w' ?_ ((Below.refl B w).grown h2 hB fun r hr => (hown'.lt r hr).1);unfold Ov;rw [List.length_append, G0, hk];exact h1
def CcR (n1 n2 : Nat) (s i : Value) : Prop := (s = .int .i64 0 ∧ i = .int .i64 0) ∨ (s = .int .i64 n1 ∧ i = .int .i64 1) ∨ (s = .int .i64 ((n1 : Int) + n2) ∧ i = .int .i64 2)
def CcW (w : World) (l1 l2 : List Nd) (v i : Value) (wr : World) : Prop := Below w.heap.size w wr ∧ ((i = .int .i64 0 ∧ Ov wr w.heap.size v []) ∨ (i = .int .i64 1 ∧ Ov wr w.heap.size v l1) ∨ (i = .int .i64 2 ∧ Ov wr w.heap.size v (l1 ++ l2)))
theorem a1k {w : World} {b : Nat} {A1 A2 : Option Addr} {n1 c1 n2 c2 : Nat} {l1 l2 : List Nd} (g0 : w.cell? ⟨b, 0, none⟩ = some (.slice A1 n1 c1)) (g1 : w.cell? ⟨b, 1, none⟩ = some (.slice A2 n2 c2))
  (z1 : Hid (A1 = none -> n1 = 0 ∧ c1 = 0)) (z2 : Hid (A2 = none -> n2 = 0 ∧ c2 = 0)) (h1 : Hid (l1.length = n1)) (h2 : Hid (l2.length = n2)) (hn1 : 1 <= n1) (hb1 : n1 <= 900000) (hb2 : n2 <= 900000) (r1 : Hid (Row w A1 l1)) (r2 : Hid (Row w A2 l2)) :
  Calls prog 58 #[.slice (some ⟨b, 0, none⟩) 2 2] w (c20 w (l1 ++ l2)) := by
 have HG := zz (fun w' (h : Below w.heap.size w w') => And.intro (Ac h g0) (Ac h g1));have hw := zz (b0b (n1 + n2) w (by omega) (by omega));have e1 : ((n1 + n2 : Nat) : Int) = (n1 : Int) + n2 := by omega
 rw [e1] at hw;clear e1;go_enter func58, ntmps58;go_wp2_with fail
 go_loop [3, 11] (fun s i => CcR n1 n2 s i) (fun _ i => 2 - (intOf i).toNat)
 case atStart => exact .inl ⟨rfl, rfl⟩
 case round =>
  rcases hrel with ⟨rfl, rfl⟩ | ⟨rfl, rfl⟩ | ⟨rfl, rfl⟩
  ·go_wp2_with fail
   go_round
   case rel => exact .inr (.inl ⟨by simp, rfl⟩)
   case measure => simp [intOf]
  ·go_wp2_with fail
   go_round
   case rel => exact .inr (.inr ⟨rfl, rfl⟩)
   case measure => simp [intOf]
  ·go_wp2_with fail;refine hw.out.mono ?_;rintro e w1 ⟨v1, rfl, ho1, hB1⟩;have HO : Hid (CcW w l1 l2 v1 (.int .i64 0) w1) := zz ⟨hB1, .inl ⟨rfl, ho1⟩⟩;obtain ⟨d0, d1⟩ := HG.out w1 hB1;clear ho1 hB1 g0 g1 hw;go_wp2_with fail
   go_loopw [6, 27] (fun v i wr => CcW w l1 l2 v i wr) (fun _ i _ => 2 - (intOf i).toNat)
   case atStart => exact HO.out
   case round =>
    clear HO d0 d1;obtain ⟨hB, ⟨rfl, hv⟩ | ⟨rfl, hv⟩ | ⟨rfl, hv⟩⟩ := hrel
    ·obtain ⟨d0, d1⟩ := HG.out _ hB;replace hv := zz hv;replace hB := zz hB;go_wp2_with (at_builtin; refine Oy rfl _ _ rfl w.heap.size _ [] l1 A1 n1 c1 rfl rfl z1.out h1.out (r1.out.carry hB.out) hv.out hB.out.size (by simp; omega) ?_; intro v2 w2 ho2 hB2; replace ho2 := zz ho2; replace hB2 := zz (hB.out.trans hB2))
     go_roundw
     case rel => exact ⟨hB2.out, .inr (.inl ⟨rfl, ho2.out⟩)⟩
     case measure => simp [intOf]
    ·obtain ⟨d0, d1⟩ := HG.out _ hB;replace hv := zz hv;replace hB := zz hB;go_wp2_with (at_builtin; refine Oy rfl _ _ rfl w.heap.size _ l1 l2 A2 n2 c2 rfl rfl z2.out h2.out (r2.out.carry hB.out) hv.out hB.out.size (by rw [h1.out]; omega) ?_; intro v2 w2 ho2 hB2; replace ho2 := zz ho2; replace hB2 := zz (hB.out.trans hB2))
     go_roundw
     case rel => exact ⟨hB2.out, .inr (.inr ⟨rfl, ho2.out⟩)⟩
     case measure => simp [intOf]
    ·replace hv := zz hv;replace hB := zz hB;go_wp2_with fail;exact bodyPost_ret (by simp [results, results58, go_sem]) rfl ⟨_, rfl, hv.out, hB.out⟩
end
end
end Go.Proofs.YtoaplbljflhheaaGreat
