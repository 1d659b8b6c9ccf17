/-
 Contracts and plain facts on the way to PrettyBack. Conditions: as each says.
-/
import Derived.Deep.RegionWith
import Derived.Test.YtoaplbljflhheaaGreatBbx
import Derived.Test.YtoaplbljflhheaaGreatBbw
import Derived.Test.YtoaplbljflhheaaGreatBbt
import Derived.Test.YtoaplbljflhheaaGreatBat
import Derived.Test.YtoaplbljflhheaaGreatBbr
import Derived.Test.YtoaplbljflhheaaGreatBbu
import Derived.Test.YtoaplbljflhheaaGreatBbs
import Derived.Test.YtoaplbljflhheaaGreatBap
set_option maxHeartbeats 40000000
set_option maxRecDepth 100000
set_option linter.unusedVariables false
set_option linter.unusedSimpArgs false
namespace Go.Proofs.YtoaplbljflhheaaGreat
open _root_.Go.Proofs.Tryz
section
open Go.RowKit Go.Sort
theorem Pj {w : World} {B : Nat} {v : Value} {ps : List Nat} (h : Qk w B v ps) {b : Nat} (hb : b < B) : ∃ a cap, v = .slice a ps.length cap ∧ ps.length <= cap ∧ D3 b w a ps := by
 rcases h.2 with ⟨rfl, h0⟩ | ⟨g, cap, cur, rfl, hg, hh, hr⟩
 ·exact ⟨none, 0, by rw [h0], by omega, fun i hi => by omega⟩
 ·refine ⟨some ⟨g, 0, none⟩, cap, rfl, hr.1, fun i hi => ⟨g, 0, cur, (0, 0), rfl, hh, by omega, ?_⟩⟩;have := hr.2.2.2;rw [Nat.zero_add, <- Array.getElem?_toList];have h2 := congrArg (fun l => l[i]?) this;simp only [Nat.mul_one, List.getElem?_take, List.getElem?_map] at h2;rw [if_pos hi] at h2;rw [h2, List.getElem?_eq_getElem hi];simp [List.getD_eq_getElem?_getD, hi]
theorem zbx {w w1 : World} (hb : Below (w.alloc (.cells #[.int .u8 0, .int .i64 0, .int .i64 0, .int .i64 0, .int .i64 0, .string { data := #[] }] 37)).drew.heap.size (w.alloc (.cells #[.int .u8 0, .int .i64 0, .int .i64 0, .int .i64 0, .int .i64 0, .string { data := #[] }] 37)).drew w1) {C : Prop}
  (k : w1.cell? ⟨w.heap.size, 0, none⟩ = some (.int .u8 0) -> w1.cell? ⟨w.heap.size, 1, none⟩ = some (.int .i64 0) -> w1.cell? ⟨w.heap.size, 2, none⟩ = some (.int .i64 0) -> w1.cell? ⟨w.heap.size, 3, none⟩ = some (.int .i64 0) -> w1.cell? ⟨w.heap.size, 4, none⟩ = some (.int .i64 0) -> w1.cell? ⟨w.heap.size, 5, none⟩ = some (.string { data := #[] }) -> (∀ o, w1.frozen? ⟨w.heap.size, o, none⟩ = false) -> w.heap.size < w1.heap.size -> Hid (w1.heap[w.heap.size]? = some (.cells #[.int .u8 0, .int .i64 0, .int .i64 0, .int .i64 0, .int .i64 0, .string { data := #[] }] 37 (0, 0))) -> C) : C := by
 have hs := hb.size;refine k (Ac hb ?_) (Ac hb ?_) (Ac hb ?_) (Ac hb ?_) (Ac hb ?_) (Ac hb ?_) (fun o => C2 hb (o := 0) (v := .int .u8 0) ?_ ?_) (by simp at hs; omega) (zz ((hb.block _ (by simp)).trans (heap_alloc_new w _))) <;> simp [go_sem]
section
variable {w w1 : World} {b : Nat} {E : Env} {X : List Pc} {t : Int} {out : List UInt8} {a : Option Addr} {ps : List Nat} {kd : Nat} {ln cl s num : Int} {tx : ByteArray}
theorem L5 (hbb : Below w.heap.size w w1) (hw : Wr w b E X t out) (hk : D3 b w1 a ps) (kd : Nat) (ln cl s num : Int) (tx : ByteArray) : ∃ U, Hid (w1.alloc (.cells #[.int .u8 (kd : Nat), .int .i64 ln, .int .i64 cl, .int .i64 s, .int .i64 num, .string tx] 37) = U) ∧ Below w.heap.size w U ∧ Wr U b E X t out ∧ D3 b U a ps ∧ U.cell? ⟨w1.heap.size, 0, none⟩ = some (.int .u8 (kd : Nat)) ∧ U.cell? ⟨w1.heap.size, 1, none⟩ = some (.int .i64 ln) ∧ U.cell? ⟨w1.heap.size, 2, none⟩ = some (.int .i64 cl) ∧ U.cell? ⟨w1.heap.size, 3, none⟩ = some (.int .i64 s) ∧ U.cell? ⟨w1.heap.size, 4, none⟩ = some (.int .i64 num) ∧ U.cell? ⟨w1.heap.size, 5, none⟩ = some (.string tx) :=
 ⟨_, zz rfl, Ab hbb (Aa _ _), hw.carry (Ab hbb (Aa _ _)), hk.carry (Aa _ _), by simp [go_sem]⟩
theorem Tp (hbb : Below w.heap.size w w1) (hz : w1.heap[w.heap.size]? = some (.cells #[.int .u8 0, .int .i64 0, .int .i64 0, .int .i64 0, .int .i64 0, .string { data := #[] }] 37 (0, 0))) (hw : Wr w b E X t out) (hk : D3 b w1 a ps) (kd : Nat) (ln cl s num : Int) (tx : ByteArray) : ∃ U, Hid (((((((w1.setCell ⟨w.heap.size, 0, none⟩ (.int .u8 (kd : Nat))).setCell ⟨w.heap.size, 1, none⟩ (.int .i64 ln)).setCell ⟨w.heap.size, 2, none⟩ (.int .i64 cl)).setCell ⟨w.heap.size, 3, none⟩ (.int .i64 s)).setCell ⟨w.heap.size, 4, none⟩ (.int .i64 num)).setCell ⟨w.heap.size, 5, none⟩ (.string tx)) = U) ∧ Below w.heap.size w U ∧ Wr U b E X t out ∧ D3 b U a ps ∧ U.cell? ⟨w.heap.size, 0, none⟩ = some (.int .u8 (kd : Nat)) ∧ U.cell? ⟨w.heap.size, 1, none⟩ = some (.int .i64 ln) ∧ U.cell? ⟨w.heap.size, 2, none⟩ = some (.int .i64 cl) ∧ U.cell? ⟨w.heap.size, 3, none⟩ = some (.int .i64 s) ∧ U.cell? ⟨w.heap.size, 4, none⟩ = some (.int .i64 num) ∧ U.cell? ⟨w.heap.size, 5, none⟩ = some (.string tx) := by
 have hB : Below w.heap.size w ((((((w1.setCell ⟨w.heap.size, 0, none⟩ (.int .u8 (kd : Nat))).setCell ⟨w.heap.size, 1, none⟩ (.int .i64 ln)).setCell ⟨w.heap.size, 2, none⟩ (.int .i64 cl)).setCell ⟨w.heap.size, 3, none⟩ (.int .i64 s)).setCell ⟨w.heap.size, 4, none⟩ (.int .i64 num)).setCell ⟨w.heap.size, 5, none⟩ (.string tx)) := by
  have hz' : w.heap.size <= w.heap.size := Nat.le_refl _;exact (((((hbb.setCell (p := ⟨w.heap.size, 0, none⟩) hz' _).setCell (p := ⟨w.heap.size, 1, none⟩) hz' _).setCell (p := ⟨w.heap.size, 2, none⟩) hz' _).setCell (p := ⟨w.heap.size, 3, none⟩) hz' _).setCell (p := ⟨w.heap.size, 4, none⟩) hz' _).setCell (p := ⟨w.heap.size, 5, none⟩) hz' _
 refine ⟨_, zz rfl, hB, hw.carry hB, fun i hi => ?_, ?_⟩
 ·obtain ⟨g, o, cs, fz, h1, h2, h3, h4⟩ := hk i hi;have hne : ¬ g = w.heap.size := fun e => by rw [e, hz] at h2; cases h2
  refine ⟨g, o, cs, fz, h1, ?_, h3, h4⟩;rw [Below.heap_setCell _ _ _ _ hne, Below.heap_setCell _ _ _ _ hne, Below.heap_setCell _ _ _ _ hne, Below.heap_setCell _ _ _ _ hne, Below.heap_setCell _ _ _ _ hne, Below.heap_setCell _ _ _ _ hne];exact h2
 ·have q : ∀ j, w1.cell? ⟨w.heap.size, j, none⟩ = (#[.int .u8 0, .int .i64 0, .int .i64 0, .int .i64 0, .int .i64 0, .string { data := #[] }] : Array Value)[j]? := fun j => by simp [World.cell?, hz]
  have q0 := q 0; have q1 := q 1; have q2 := q 2; have q3 := q 3; have q4 := q 4; have q5 := q 5;simp at q0 q1 q2 q3 q4 q5;simp [go_sem, q0, q1, q2, q3, q4, q5]
end
theorem b9m {w : World} {b : Nat} {E : Env} {X P : List Pc} {t : Int} {out : List UInt8} (h : Wr w b E X t out) {p : Nat} (hp : p < E.n) {kd : Nat} {ln cl s num : Int} {tx : ByteArray} (hN : nd E.l p = ⟨kd, ln, cl, s, num, tx⟩) (h6 : kd <= 6) {ps : List Nat} (hok : Ok (sz E.l) E.n p) (hxs : A7 (sz E.l) p = ps)
  (HC : Hid (∀ V a cap, Wr V b E X t out -> D3 b V a ps -> ps.length <= cap -> Calls prog 115 #[pR b, .agg #[.int .u8 (kd : Nat), .int .i64 ln, .int .i64 cl, .int .i64 s, .int .i64 num, .string tx], .slice a ps.length cap] V (Put b E X t out P V))) :
  Calls prog 84 #[pR b, .int .i64 p] w (Put b E X t out P w) := by
 have HK := zz (fun V (hb : Below w.heap.size w V) => Mn (h.carry hb) hp hok ps hxs);obtain ⟨g, o, ha, hat, hwf, hgb⟩ := h.node hp;have c0 := h.cells.1;have hbl := h.lt;rw [ha] at c0;rw [hN] at hat;obtain ⟨t0, t1, t2, t3, t4, t5⟩ := hat;simp only at t0 t1 t2 t3 t4 t5;have HW := zz h;clear h hok hxs hN hwf ha;have hk6 : (kd : Int) <= 6 := by omega
 have hgl : g < w.heap.size := by omega
 go_enter func84, ntmps84;go_wp2_with fail
 go_region_with (go_at_call 114; refine (HK.out _ (by go_grown)).mono ?_; rintro e w1 ⟨v1, rfl, hown, hb1⟩; (first | (refine zbx hb1 ?_; intro z0 z1 z2 z3 z4 z5 zf zl zh) | skip); have hbb := Ab (show Below w.heap.size w _ by go_grown) hb1; have d0 := Ac hbb t0; have d1 := Ac hbb t1; have d2 := Ac hbb t2; have d3 := Ac hbb t3; have d4 := Ac hbb t4; have d5 := Ac hbb t5; have d6 := Ac hbb c0; have dl := block_lt_of_cell d0; have dl6 := block_lt_of_cell d6; obtain ⟨a1, cap1, rfl, hcp, hkr⟩ := Pj (b := b) hown (by first | exact hbl | (simp; omega)); replace hbb := zz hbb; replace hkr := zz hkr; clear hb1 hown)
 all_goals (first
  | (obtain ⟨U, hU, hbU, hWU, hKU, x0, x1, x2, x3, x4, x5⟩ := L5 hbb.out HW.out hkr.out kd ln cl s num tx; rw [hU.out])
  | (obtain ⟨U, hU, hbU, hWU, hKU, x0, x1, x2, x3, x4, x5⟩ := Tp hbb.out zh.out HW.out hkr.out kd ln cl s num tx; rw [hU.out]))
 all_goals (clear t0 t1 t2 t3 t4 t5 c0 d0 d1 d2 d3 d4 d5 d6 dl dl6 hU hbb hkr; (try clear z0 z1 z2 z3 z4 z5 zf zl zh); replace hbU := zz hbU; replace hWU := zz hWU; replace hKU := zz hKU)
 all_goals (go_wp2_with (go_at_call 115; refine (HC.out _ _ _ hWU.out hKU.out hcp).mono ?_; rintro e V ⟨rfl, hw, hf⟩; replace hw := zz hw; replace hf := zz hf))
 all_goals (refine bodyPost_end (v := .tuple #[]) (by simp [results, results84]) rfl ?_; exact ⟨rfl, hw.out, (Fw.below hbU.out (Nat.le_of_lt hbl)).trans hf.out⟩)
theorem b9l {w : World} {b : Nat} {E : Env} {X P : List Pc} {t : Int} {out : List UInt8} (h : Wr w b E X t out) {p : Nat} (hp : p < E.n) {kd : Nat} {ln cl s num : Int} {tx : ByteArray} (hN : nd E.l p = ⟨kd, ln, cl, s, num, tx⟩) (h6 : 7 <= kd) (h7 : kd <= 13) {ps : List Nat} (hok : Ok (sz E.l) E.n p) (hxs : A7 (sz E.l) p = ps)
  (HC : Hid (∀ V a cap, Wr V b E X t out -> D3 b V a ps -> ps.length <= cap -> Calls prog 116 #[pR b, .agg #[.int .u8 (kd : Nat), .int .i64 ln, .int .i64 cl, .int .i64 s, .int .i64 num, .string tx], .slice a ps.length cap] V (Put b E X t out P V))) :
  Calls prog 84 #[pR b, .int .i64 p] w (Put b E X t out P w) := by
 have HK := zz (fun V (hb : Below w.heap.size w V) => Mn (h.carry hb) hp hok ps hxs);obtain ⟨g, o, ha, hat, hwf, hgb⟩ := h.node hp;have c0 := h.cells.1;have hbl := h.lt;rw [ha] at c0;rw [hN] at hat;obtain ⟨t0, t1, t2, t3, t4, t5⟩ := hat;simp only at t0 t1 t2 t3 t4 t5;have HW := zz h;clear h hok hxs hN hwf ha;have hk6 : ¬ (kd : Int) <= 6 := by omega
 have hk7 : (kd : Int) <= 13 := by omega
 have hgl : g < w.heap.size := by omega
 go_enter func84, ntmps84;go_wp2_with fail
 go_region_with (go_at_call 114; refine (HK.out _ (by go_grown)).mono ?_; rintro e w1 ⟨v1, rfl, hown, hb1⟩; (first | (refine zbx hb1 ?_; intro z0 z1 z2 z3 z4 z5 zf zl zh) | skip); have hbb := Ab (show Below w.heap.size w _ by go_grown) hb1; have d0 := Ac hbb t0; have d1 := Ac hbb t1; have d2 := Ac hbb t2; have d3 := Ac hbb t3; have d4 := Ac hbb t4; have d5 := Ac hbb t5; have d6 := Ac hbb c0; have dl := block_lt_of_cell d0; have dl6 := block_lt_of_cell d6; obtain ⟨a1, cap1, rfl, hcp, hkr⟩ := Pj (b := b) hown (by first | exact hbl | (simp; omega)); replace hbb := zz hbb; replace hkr := zz hkr; clear hb1 hown)
 all_goals (first
  | (obtain ⟨U, hU, hbU, hWU, hKU, x0, x1, x2, x3, x4, x5⟩ := L5 hbb.out HW.out hkr.out kd ln cl s num tx; rw [hU.out])
  | (obtain ⟨U, hU, hbU, hWU, hKU, x0, x1, x2, x3, x4, x5⟩ := Tp hbb.out zh.out HW.out hkr.out kd ln cl s num tx; rw [hU.out]))
 all_goals (clear t0 t1 t2 t3 t4 t5 c0 d0 d1 d2 d3 d4 d5 d6 dl dl6 hU hbb hkr; (try clear z0 z1 z2 z3 z4 z5 zf zl zh); replace hbU := zz hbU; replace hWU := zz hWU; replace hKU := zz hKU)
 all_goals (go_wp2_with (go_at_call 116; refine (HC.out _ _ _ hWU.out hKU.out hcp).mono ?_; rintro e V ⟨rfl, hw, hf⟩; replace hw := zz hw; replace hf := zz hf))
 all_goals (refine bodyPost_end (v := .tuple #[]) (by simp [results, results84]) rfl ?_; exact ⟨rfl, hw.out, (Fw.below hbU.out (Nat.le_of_lt hbl)).trans hf.out⟩)
theorem b9k {w : World} {b : Nat} {E : Env} {X P : List Pc} {t : Int} {out : List UInt8} (h : Wr w b E X t out) {p : Nat} (hp : p < E.n) {kd : Nat} {ln cl s num : Int} {tx : ByteArray} (hN : nd E.l p = ⟨kd, ln, cl, s, num, tx⟩) (h6 : 14 <= kd) (h7 : kd <= 20) {ps : List Nat} (hok : Ok (sz E.l) E.n p) (hxs : A7 (sz E.l) p = ps)
  (HC : Hid (∀ V a cap, Wr V b E X t out -> D3 b V a ps -> ps.length <= cap -> Calls prog 117 #[pR b, .agg #[.int .u8 (kd : Nat), .int .i64 ln, .int .i64 cl, .int .i64 s, .int .i64 num, .string tx], .slice a ps.length cap] V (Put b E X t out P V))) :
  Calls prog 84 #[pR b, .int .i64 p] w (Put b E X t out P w) := by
 have HK := zz (fun V (hb : Below w.heap.size w V) => Mn (h.carry hb) hp hok ps hxs);obtain ⟨g, o, ha, hat, hwf, hgb⟩ := h.node hp;have c0 := h.cells.1;have hbl := h.lt;rw [ha] at c0;rw [hN] at hat;obtain ⟨t0, t1, t2, t3, t4, t5⟩ := hat;simp only at t0 t1 t2 t3 t4 t5;have HW := zz h;clear h hok hxs hN hwf ha;have hk6 : ¬ (kd : Int) <= 6 := by omega
 have hk5 : ¬ (kd : Int) <= 13 := by omega
 have hk7 : (kd : Int) <= 20 := by omega
 have hgl : g < w.heap.size := by omega
 go_enter func84, ntmps84;go_wp2_with fail
 go_region_with (go_at_call 114; refine (HK.out _ (by go_grown)).mono ?_; rintro e w1 ⟨v1, rfl, hown, hb1⟩; (first | (refine zbx hb1 ?_; intro z0 z1 z2 z3 z4 z5 zf zl zh) | skip); have hbb := Ab (show Below w.heap.size w _ by go_grown) hb1; have d0 := Ac hbb t0; have d1 := Ac hbb t1; have d2 := Ac hbb t2; have d3 := Ac hbb t3; have d4 := Ac hbb t4; have d5 := Ac hbb t5; have d6 := Ac hbb c0; have dl := block_lt_of_cell d0; have dl6 := block_lt_of_cell d6; obtain ⟨a1, cap1, rfl, hcp, hkr⟩ := Pj (b := b) hown (by first | exact hbl | (simp; omega)); replace hbb := zz hbb; replace hkr := zz hkr; clear hb1 hown)
 all_goals (first
  | (obtain ⟨U, hU, hbU, hWU, hKU, x0, x1, x2, x3, x4, x5⟩ := L5 hbb.out HW.out hkr.out kd ln cl s num tx; rw [hU.out])
  | (obtain ⟨U, hU, hbU, hWU, hKU, x0, x1, x2, x3, x4, x5⟩ := Tp hbb.out zh.out HW.out hkr.out kd ln cl s num tx; rw [hU.out]))
 all_goals (clear t0 t1 t2 t3 t4 t5 c0 d0 d1 d2 d3 d4 d5 d6 dl dl6 hU hbb hkr; (try clear z0 z1 z2 z3 z4 z5 zf zl zh); replace hbU := zz hbU; replace hWU := zz hWU; replace hKU := zz hKU)
 all_goals (go_wp2_with (go_at_call 117; refine (HC.out _ _ _ hWU.out hKU.out hcp).mono ?_; rintro e V ⟨rfl, hw, hf⟩; replace hw := zz hw; replace hf := zz hf))
 all_goals (refine bodyPost_end (v := .tuple #[]) (by simp [results, results84]) rfl ?_; exact ⟨rfl, hw.out, (Fw.below hbU.out (Nat.le_of_lt hbl)).trans hf.out⟩)
theorem b9i {w : World} {b : Nat} {E : Env} {X P : List Pc} {t : Int} {out : List UInt8} (h : Wr w b E X t out) {p : Nat} (hp : p < E.n) {kd : Nat} {ln cl s num : Int} {tx : ByteArray} (hN : nd E.l p = ⟨kd, ln, cl, s, num, tx⟩) (h6 : 27 <= kd) {ps : List Nat} (hok : Ok (sz E.l) E.n p) (hxs : A7 (sz E.l) p = ps)
  (HC : Hid (∀ V a cap, Wr V b E X t out -> D3 b V a ps -> ps.length <= cap -> Calls prog 119 #[pR b, .agg #[.int .u8 (kd : Nat), .int .i64 ln, .int .i64 cl, .int .i64 s, .int .i64 num, .string tx], .slice a ps.length cap] V (Put b E X t out P V))) :
  Calls prog 84 #[pR b, .int .i64 p] w (Put b E X t out P w) := by
 have HK := zz (fun V (hb : Below w.heap.size w V) => Mn (h.carry hb) hp hok ps hxs);obtain ⟨g, o, ha, hat, hwf, hgb⟩ := h.node hp;have c0 := h.cells.1;have hbl := h.lt;rw [ha] at c0;rw [hN] at hat;obtain ⟨t0, t1, t2, t3, t4, t5⟩ := hat;simp only at t0 t1 t2 t3 t4 t5;have HW := zz h;clear h hok hxs hN hwf ha;have hk6 : ¬ (kd : Int) <= 6 := by omega
 have hk5 : ¬ (kd : Int) <= 13 := by omega
 have hk7 : ¬ (kd : Int) <= 20 := by omega
 have hk8 : ¬ (kd : Int) <= 26 := by omega
 have hgl : g < w.heap.size := by omega
 go_enter func84, ntmps84;go_wp2_with fail
 go_region_with (go_at_call 114; refine (HK.out _ (by go_grown)).mono ?_; rintro e w1 ⟨v1, rfl, hown, hb1⟩; (first | (refine zbx hb1 ?_; intro z0 z1 z2 z3 z4 z5 zf zl zh) | skip); have hbb := Ab (show Below w.heap.size w _ by go_grown) hb1; have d0 := Ac hbb t0; have d1 := Ac hbb t1; have d2 := Ac hbb t2; have d3 := Ac hbb t3; have d4 := Ac hbb t4; have d5 := Ac hbb t5; have d6 := Ac hbb c0; have dl := block_lt_of_cell d0; have dl6 := block_lt_of_cell d6; obtain ⟨a1, cap1, rfl, hcp, hkr⟩ := Pj (b := b) hown (by first | exact hbl | (simp; omega)); replace hbb := zz hbb; replace hkr := zz hkr; clear hb1 hown)
 all_goals (first
  | (obtain ⟨U, hU, hbU, hWU, hKU, x0, x1, x2, x3, x4, x5⟩ := L5 hbb.out HW.out hkr.out kd ln cl s num tx; rw [hU.out])
  | (obtain ⟨U, hU, hbU, hWU, hKU, x0, x1, x2, x3, x4, x5⟩ := Tp hbb.out zh.out HW.out hkr.out kd ln cl s num tx; rw [hU.out]))
 all_goals (clear t0 t1 t2 t3 t4 t5 c0 d0 d1 d2 d3 d4 d5 d6 dl dl6 hU hbb hkr; (try clear z0 z1 z2 z3 z4 z5 zf zl zh); replace hbU := zz hbU; replace hWU := zz hWU; replace hKU := zz hKU)
 all_goals (go_wp2_with (go_at_call 119; refine (HC.out _ _ _ hWU.out hKU.out hcp).mono ?_; rintro e V ⟨rfl, hw, hf⟩; replace hw := zz hw; replace hf := zz hf))
 all_goals (refine bodyPost_end (v := .tuple #[]) (by simp [results, results84]) rfl ?_; exact ⟨rfl, hw.out, (Fw.below hbU.out (Nat.le_of_lt hbl)).trans hf.out⟩)
theorem b9j {w : World} {b : Nat} {E : Env} {X : List Pc} {t : Int} {out : List UInt8} (h : Wr w b E X t out) {p : Nat} (hp : p < E.n) {kd : Nat} {ln cl s num : Int} {tx : ByteArray} (hN : nd E.l p = ⟨kd, ln, cl, s, num, tx⟩) (h6 : 21 <= kd) (h7 : kd <= 26) {S : ByteArray} {ps : List Nat} (hok : Ok (sz E.l) E.n p) (hxs : A7 (sz E.l) p = ps)
  (HC : Hid (∀ V, Calls prog 118 #[.agg #[.int .u8 (kd : Nat), .int .i64 ln, .int .i64 cl, .int .i64 s, .int .i64 num, .string tx]] V fun e w' => e = .returned (.string S) ∧ Below V.heap.size V w')) {S0 : List UInt8} (hS : Hid (S = bs S0)) (hX : X.length <= 80000000) :
  Calls prog 84 #[pR b, .int .i64 p] w (Put b E X t out [tP S0] w) := by
 have HK := zz (fun V (hb : Below w.heap.size w V) => Mn (h.carry hb) hp hok ps hxs);obtain ⟨g, o, ha, hat, hwf, hgb⟩ := h.node hp;have c0 := h.cells.1;have hbl := h.lt;rw [ha] at c0;rw [hN] at hat;obtain ⟨t0, t1, t2, t3, t4, t5⟩ := hat;simp only at t0 t1 t2 t3 t4 t5;have HW := zz h;clear h hok hxs hN hwf ha;have hk6 : ¬ (kd : Int) <= 6 := by omega
 have hk5 : ¬ (kd : Int) <= 13 := by omega
 have hk7 : ¬ (kd : Int) <= 20 := by omega
 have hk8 : (kd : Int) <= 26 := by omega
 have hgl : g < w.heap.size := by omega
 go_enter func84, ntmps84;go_wp2_with fail
 go_region_with (go_at_call 114; refine (HK.out _ (by go_grown)).mono ?_; rintro e w1 ⟨v1, rfl, hown, hb1⟩; (first | (refine zbx hb1 ?_; intro z0 z1 z2 z3 z4 z5 zf zl zh) | skip); have hbb := Ab (show Below w.heap.size w _ by go_grown) hb1; have d0 := Ac hbb t0; have d1 := Ac hbb t1; have d2 := Ac hbb t2; have d3 := Ac hbb t3; have d4 := Ac hbb t4; have d5 := Ac hbb t5; have d6 := Ac hbb c0; have dl := block_lt_of_cell d0; have dl6 := block_lt_of_cell d6; obtain ⟨a1, cap1, rfl, hcp, hkr⟩ := Pj (b := b) hown (by first | exact hbl | (simp; omega)); replace hbb := zz hbb; replace hkr := zz hkr; clear hb1 hown)
 all_goals (first
  | (obtain ⟨U, hU, hbU, hWU, hKU, x0, x1, x2, x3, x4, x5⟩ := L5 hbb.out HW.out hkr.out kd ln cl s num tx; rw [hU.out])
  | (obtain ⟨U, hU, hbU, hWU, hKU, x0, x1, x2, x3, x4, x5⟩ := Tp hbb.out zh.out HW.out hkr.out kd ln cl s num tx; rw [hU.out]))
 all_goals (clear t0 t1 t2 t3 t4 t5 c0 d0 d1 d2 d3 d4 d5 d6 dl dl6 hU hbb hkr; (try clear z0 z1 z2 z3 z4 z5 zf zl zh); replace hbU := zz hbU; replace hWU := zz hWU; replace hKU := zz hKU)
 all_goals (have hbl2 := hWU.out.lt; go_wp2_with fail; refine (HC.out _).mono ?_; rintro e w5 ⟨rfl, hb5⟩; replace hb5 := zz hb5; go_wp2_with fail; refine (Cy _ _).mono ?_; rintro e w6 ⟨rfl, hb6⟩; replace hb6 := zz (Ab hb5.out hb6); go_wp2_with fail)
 all_goals (refine (Ar (P := [tP S0]) (k := 1) (hWU.out.carry (Ab hb6.out (Aa w6 _))) rfl (LiesP.made (news := #[.string S, .int .i64 0, .int .i64 0, .int .i64 0]) w6 (by rw [hS.out]; rfl)) (by simp; omega)).mono ?_; rintro e V ⟨rfl, hw, hf⟩; replace hw := zz hw; replace hf := zz hf; go_wp2_with fail)
 all_goals (refine bodyPost_end (v := .tuple #[]) (by simp [results, results84]) rfl ?_; exact ⟨rfl, hw.out, (Fw.below (Ab hbU.out (Ab hb6.out (Aa w6 _))) (Nat.le_of_lt hbl)).trans hf.out⟩)
end
section
open Go.RowKit Go.Sort
def pk (ps : List Nat) (j : Nat) : Nat := ps.getD j 0
def Mf (k : Nat) (num : Int) (x : List UInt8) (ps : List Nat) (none : Bool) : List Pc := match k with
 | 1 => Ei ps
 | 2 => [tP [114, 101, 99, 32], tP x, tP [32]] ++ Jo ps
 | 3 => [tP x, tP [58, 32], nP (pk ps 0), tP [59]]
 | 4 => b5c x ps num.toNat (pk ps num.toNat) (pk ps (num.toNat + 1)) none
 | 5 => [tP x, tP [58, 32], nP (pk ps 0)]
 | 6 => Jo ps
 | 7 => [tP [118, 97, 114, 32], tP x, tP [58, 32], nP (pk ps 0), tP [32, 61, 32], nP (pk ps 1), tP [59]]
 | 8 => [nP (pk ps 0), tP [32, 61, 32], nP (pk ps 1), tP [59]]
 | 9 => [tP [105, 102, 32], nP (pk ps 0), tP [32], nP (pk ps 1)] ++ (if ps.length = 3 then [tP [32, 101, 108, 115, 101, 32], nP (pk ps 2)] else [])
 | 10 => [tP [119, 104, 105, 108, 101, 32], nP (pk ps 0), tP [32], nP (pk ps 1)]
 | 11 => [tP [114, 101, 116, 117, 114, 110]] ++ (if ps.length = 1 then [tP [32], nP (pk ps 0)] else []) ++ [tP [59]]
 | 12 => [tP [112, 114, 105, 110, 116, 32], nP (pk ps 0), tP [59]]
 | 13 => [nP (pk ps 0), tP [59]]
 | 15 => [tP [105, 110, 116]]
 | 16 => [tP [98, 111, 111, 108]]
 | 17 => [tP [115, 116, 114]]
 | 18 => [tP [99, 111, 109, 112]]
 | 19 => [tP x]
 | 20 => [tP [91], nP (pk ps 0), tP [93]]
 | 27 => [tP x, tP [40]] ++ Aw ps ++ [tP [41]]
 | 28 => [oP (pk ps 0) 8, tP [91], nP (pk ps 1), tP [93]]
 | 29 => [oP (pk ps 0) 8, tP [46], tP x]
 | 30 => [tP (opS num).1, oP (pk ps 0) 7]
 | 31 => [oP (pk ps 0) (Fh (opS num).2), tP [32], tP (opS num).1, tP [32], oP (pk ps 1) ((opS num).2 + 1)]
 | 32 => [tP [109, 97, 107, 101, 32], nP (pk ps 0), tP [40]] ++ Aw ps.tail ++ [tP [41]]
 | _ => [tP (L3 ⟨k, 0, 0, num, x⟩)]
theorem Aj {p : List (Nat -> Bool)} {ks : List Nat} (h : Ak p ks = true) : ks.length = p.length := by
 rw [Ak, Bool.and_eq_true, decide_eq_true_eq] at h;exact h.1
theorem Va {ps : List Nat} (h : ps.length = 0) : ps = [] := List.eq_nil_of_length_eq_zero h
theorem Tm {ps : List Nat} (h : ps.length = 1) : ps = [pk ps 0] := by
 match ps, h with
 | [a], _ => rfl
theorem Xo {ps : List Nat} (h : ps.length = 2) : ps = [pk ps 0, pk ps 1] := by
 match ps, h with
 | [a, b], _ => rfl
theorem c3c {ps : List Nat} (h : ps.length = 3) : ps = [pk ps 0, pk ps 1, pk ps 2] := by
 match ps, h with
 | [a, b, c], _ => rfl
theorem M6 {a b : Bool} {ks : List Nat} (h : (a || b) = true) : a = true ∨ b = true := by simpa using h
theorem Ww {w : World} {b : Nat} {E : Env} {X : List Pc} {t : Int} {out : List UInt8} (h : Wr w b E X t out) (hX : X.length <= 80000000) {p : Nat} (hp : p < E.n) {kd : Nat} {ln cl s num : Int} {tx : ByteArray} (hN : nd E.l p = ⟨kd, ln, cl, s, num, tx⟩) (hk1 : 1 <= kd) (hk14 : kd ≠ 14) (hk32 : kd <= 32)
  {ps : List Nat} (hok : Ok (sz E.l) E.n p) (hxs : A7 (sz E.l) p = ps) (hlt : ∀ q ∈ ps, q < E.n) (hnm : Bk kd num = true) (hmx : num <= 9223372036854775807) (htx : tx.size <= 100000) {ks : List Nat} (hks : ks.length = ps.length) (hask : Hl kd num ks = true) :
  Calls prog 84 #[pR b, .int .i64 p] w (Put b E X t out (Mf kd num tx.data.toList ps (decide ((nd E.l (pk ps num.toNat)).kind = 14))) w) := by
 have hm : ps.length <= 1000000 := by
  have := Su hok;rw [hxs] at this;have := h.1.few;omega
 have A := fun (h6 : kd <= 6) P HC => b9m (P := P) h hp hN h6 hok hxs HC
 have B := fun (h6 : 7 <= kd) (h7 : kd <= 13) P HC => b9l (P := P) h hp hN h6 h7 hok hxs HC
 have C := fun (h6 : 14 <= kd) (h7 : kd <= 20) P HC => b9k (P := P) h hp hN h6 h7 hok hxs HC
 have F := fun (h6 : 27 <= kd) P HC => b9i (P := P) h hp hN h6 hok hxs HC
 by_cases hat : 21 <= kd ∧ kd <= 26
 ·have e : Mf kd num tx.data.toList ps (decide ((nd E.l (pk ps num.toNat)).kind = 14)) = [tP (L3 ⟨kd, 0, 0, num, tx.data.toList⟩)] := by
   have hc : kd = 21 ∨ kd = 22 ∨ kd = 23 ∨ kd = 24 ∨ kd = 25 ∨ kd = 26 := by omega
   rcases hc with rfl | rfl | rfl | rfl | rfl | rfl <;> rfl
  rw [e];refine b9j h hp hN hat.1 hat.2 hok hxs (S := bs (L3 ⟨kd, 0, 0, num, tx.data.toList⟩)) (zz fun V => ?_) (zz rfl) hX;have := b1j ⟨kd, 0, 0, num, tx.data.toList⟩ hat (fun h2 => ?_) hmx (by rw [<- ByteArray.size_data, Array.length_toList] at *; simpa using htx) ln cl s V
  ·rwa [Ry] at this
  ·rcases h2 with h2 | h2
   ·simp only at h2; subst h2; simpa [Bk] using hnm
   ·simp only at h2; subst h2; simp [Bk] at hnm; exact hnm.1
 ·have hc : kd = 1 ∨ kd = 2 ∨ kd = 3 ∨ kd = 4 ∨ kd = 5 ∨ kd = 6 ∨ kd = 7 ∨ kd = 8 ∨ kd = 9 ∨ kd = 10 ∨ kd = 11 ∨ kd = 12 ∨ kd = 13 ∨ kd = 15 ∨ kd = 16 ∨ kd = 17 ∨ kd = 18 ∨ kd = 19 ∨ kd = 20 ∨ kd = 27 ∨ kd = 28 ∨ kd = 29 ∨ kd = 30 ∨ kd = 31 ∨ kd = 32 := by omega
  rcases hc with rfl | rfl | rfl | rfl | rfl | rfl | rfl | rfl | rfl | rfl | rfl | rfl | rfl | rfl | rfl | rfl | rfl | rfl | rfl | rfl | rfl | rfl | rfl | rfl | rfl
  ·exact A (by decide) _ (zz fun V a cap hw hk hc => c0t hw hX ln cl s num tx (zz rfl) hm hk)
  ·exact A (by decide) _ (zz fun V a cap hw hk hc => c0s hw hX ln cl s num tx (zz rfl) hm hk)
  ·obtain ⟨q0, rfl⟩ : ∃ q0, ps = [q0] := ⟨_, Tm (hks ▸ Aj hask)⟩;exact A (by decide) _ (zz fun V a cap hw hk hc => c0r hw hX ln cl s num tx hk)
  ·obtain ⟨k, hk⟩ : ∃ k : Nat, num = k := by
    have : Hl 4 num ks = Iu num [5].contains (Ak [Fi, [6].contains]) ks := rfl;rw [this, Iu, Bool.and_eq_true, decide_eq_true_eq] at hask;exact ⟨num.toNat, by omega⟩
   subst hk
   have hl2 : ps.length = k + 2 := by
    have e : Hl 4 (k : Int) ks = Iu k [5].contains (Ak [Fi, [6].contains]) ks := rfl;rw [e, Iu, Bool.and_eq_true, Bool.and_eq_true, decide_eq_true_eq] at hask;have := Aj hask.2.2;simp only [List.length_drop, Int.toNat_natCast] at this;have h3 := hask.1.2;simp only [List.length_cons, List.length_nil] at this;omega
   have hpr : pk ps k < E.n := by
    refine hlt _ ?_;unfold pk;rw [List.getD_eq_getElem?_getD, List.getElem?_eq_getElem (by omega)];exact List.getElem_mem _
   refine A (by decide) _ (zz fun V a cap hw hk hc => ?_);exact c0q hw hX ln cl s tx (zz rfl) (zz hl2) hm hc hk (zz rfl) (zz rfl) hpr
  ·obtain ⟨q0, rfl⟩ : ∃ q0, ps = [q0] := ⟨_, Tm (hks ▸ Aj hask)⟩;exact A (by decide) _ (zz fun V a cap hw hk hc => c0p hw hX ln cl s num tx hk)
  ·exact A (by decide) _ (zz fun V a cap hw hk hc => c0o hw hX ln cl s num tx (zz rfl) hm hk)
  ·obtain ⟨q0, q1, rfl⟩ : ∃ q0 q1, ps = [q0, q1] := ⟨_, _, Xo (hks ▸ Aj hask)⟩;exact B (by decide) (by decide) _ (zz fun V a cap hw hk hc => b7l hw hX ln cl s num tx hk)
  ·obtain ⟨q0, q1, rfl⟩ : ∃ q0 q1, ps = [q0, q1] := ⟨_, _, Xo (hks ▸ Aj hask)⟩;exact B (by decide) (by decide) _ (zz fun V a cap hw hk hc => b7k hw hX ln cl s num tx hk)
  ·rcases M6 (ks := ks) hask with h1 | h1
   ·obtain ⟨q0, q1, rfl⟩ : ∃ q0 q1, ps = [q0, q1] := ⟨_, _, Xo (hks ▸ Aj h1)⟩;exact B (by decide) (by decide) _ (zz fun V a cap hw hk hc => b3o hw hX ln cl s num tx hk)
   ·obtain ⟨q0, q1, q2, rfl⟩ : ∃ q0 q1 q2, ps = [q0, q1, q2] := ⟨_, _, _, c3c (hks ▸ Aj h1)⟩;exact B (by decide) (by decide) _ (zz fun V a cap hw hk hc => b3n hw hX ln cl s num tx hk)
  ·obtain ⟨q0, q1, rfl⟩ : ∃ q0 q1, ps = [q0, q1] := ⟨_, _, Xo (hks ▸ Aj hask)⟩;exact B (by decide) (by decide) _ (zz fun V a cap hw hk hc => b3r hw hX ln cl s num tx hk)
  ·rcases M6 (ks := ks) hask with h1 | h1
   ·obtain rfl : ps = [] := Va (hks ▸ Aj h1);exact B (by decide) (by decide) _ (zz fun V a cap hw hk hc => a7z hw hX ln cl s num tx hk)
   ·obtain ⟨q0, rfl⟩ : ∃ q0, ps = [q0] := ⟨_, Tm (hks ▸ Aj h1)⟩;exact B (by decide) (by decide) _ (zz fun V a cap hw hk hc => a7y hw hX ln cl s num tx hk)
  ·obtain ⟨q0, rfl⟩ : ∃ q0, ps = [q0] := ⟨_, Tm (hks ▸ Aj hask)⟩;exact B (by decide) (by decide) _ (zz fun V a cap hw hk hc => b3q hw hX ln cl s num tx hk)
  ·obtain ⟨q0, rfl⟩ : ∃ q0, ps = [q0] := ⟨_, Tm (hks ▸ Aj hask)⟩;exact B (by decide) (by decide) _ (zz fun V a cap hw hk hc => b3p hw hX ln cl s num tx hk)
  ·obtain rfl : ps = [] := Va (hks ▸ Aj hask);exact C (by decide) (by decide) _ (zz fun V a cap hw hk hc => b23 hw hX ln cl s num tx hk)
  ·obtain rfl : ps = [] := Va (hks ▸ Aj hask);exact C (by decide) (by decide) _ (zz fun V a cap hw hk hc => b22 hw hX ln cl s num tx hk)
  ·obtain rfl : ps = [] := Va (hks ▸ Aj hask);exact C (by decide) (by decide) _ (zz fun V a cap hw hk hc => b21 hw hX ln cl s num tx hk)
  ·obtain rfl : ps = [] := Va (hks ▸ Aj hask);exact C (by decide) (by decide) _ (zz fun V a cap hw hk hc => b20 hw hX ln cl s num tx hk)
  ·obtain rfl : ps = [] := Va (hks ▸ Aj hask);exact C (by decide) (by decide) _ (zz fun V a cap hw hk hc => b2z hw hX ln cl s num tx hk)
  ·obtain ⟨q0, rfl⟩ : ∃ q0, ps = [q0] := ⟨_, Tm (hks ▸ Aj hask)⟩;exact C (by decide) (by decide) _ (zz fun V a cap hw hk hc => b2y hw hX ln cl s num tx hk)
  ·exact F (by decide) _ (zz fun V a cap hw hk hc => b5l hw hX ln cl s num tx (zz rfl) hm hk)
  ·obtain ⟨q0, q1, rfl⟩ : ∃ q0 q1, ps = [q0, q1] := ⟨_, _, Xo (hks ▸ Aj hask)⟩;exact F (by decide) _ (zz fun V a cap hw hk hc => b5k hw hX ln cl s num tx hk)
  ·obtain ⟨q0, rfl⟩ : ∃ q0, ps = [q0] := ⟨_, Tm (hks ▸ Aj hask)⟩;exact F (by decide) _ (zz fun V a cap hw hk hc => b5j hw hX ln cl s num tx hk)
  ·obtain ⟨q0, rfl⟩ : ∃ q0, ps = [q0] := ⟨_, Tm (hks ▸ Aj hask)⟩
   have hs : num ∈ sgE.map (·.1) := by
    simp [Bk] at hnm;rcases hnm with rfl | rfl <;> simp [sgE]
   exact F (by decide) _ (zz fun V a cap hw hk hc => b5i hw hX ln cl s num tx hs hk)
  ·obtain ⟨q0, q1, rfl⟩ : ∃ q0 q1, ps = [q0, q1] := ⟨_, _, Xo (hks ▸ Aj hask)⟩
   have hs : num ∈ sgE.map (·.1) := by
    simp [Bk] at hnm;have : num = 1 ∨ num = 2 ∨ num = 3 ∨ num = 4 ∨ num = 5 ∨ num = 6 ∨ num = 7 ∨ num = 8 ∨ num = 9 ∨ num = 10 ∨ num = 11 ∨ num = 14 ∨ num = 15 := by omega
    rcases this with rfl | rfl | rfl | rfl | rfl | rfl | rfl | rfl | rfl | rfl | rfl | rfl | rfl <;> simp [sgE]
   exact F (by decide) _ (zz fun V a cap hw hk hc => b5h hw hX ln cl s num tx hs hk)
  ·rcases M6 (ks := ks) hask with h1 | h1
   ·obtain ⟨q0, rfl⟩ : ∃ q0, ps = [q0] := ⟨_, Tm (hks ▸ Aj h1)⟩;exact F (by decide) _ (zz fun V a cap hw hk hc => b0x hw hX ln cl s num tx hc hk)
   ·obtain ⟨q0, q1, rfl⟩ : ∃ q0 q1, ps = [q0, q1] := ⟨_, _, Xo (hks ▸ Aj h1)⟩;exact F (by decide) _ (zz fun V a cap hw hk hc => b0w hw hX ln cl s num tx hc hk)
end
section
def a8z (F : Fo) (t : Int) (p : Pc) : List UInt8 := if 0 < p.plc then brk p.ask (txt F p.plc t.toNat) else Ow p.text (t + p.tabs).toNat
def Ym (F : Fo) : Int -> List Pc -> List UInt8
 | _, [] => []
 | t, p :: l => a8z F t p ++ Ym F (t + p.tabs) l
def a1g : Int -> List Pc -> Int
 | t, [] => t
 | t, p :: l => a1g (t + p.tabs) l
def wk (F : Fo) (q : Nat) : Nat := 20 * ((Ag F q).2.cnt + 1)
def wtP (F : Fo) (p : Pc) : Nat := if 0 < p.plc then (if p.ask = 0 then wk F p.plc - 5 else wk F p.plc - 2) else 1
def wts (F : Fo) (l : List Pc) : Nat := (l.map (wtP F)).sum
def okT (F : Fo) (B : Nat) : Int -> List Pc -> Prop
 | _, [] => True
 | t, p :: l => (0 < p.plc -> p.plc < F.cnt ∧ (Ag F p.plc).1.kind ≠ 14 ∧ p.tabs = 0 ∧ t + (Ag F p.plc).2.cnt + 1 <= B) ∧ 0 <= t + p.tabs ∧ t + p.tabs <= B ∧ okT F B (t + p.tabs) l
theorem Yl (F : Fo) (P Q : List Pc) : ∀ t, Ym F t (P ++ Q) = Ym F t P ++ Ym F (a1g t P) Q := by
 induction P with
 | nil => intro t; rfl
 | cons p l ih => intro t; simp [Ym, a1g, ih]
theorem b02 (P Q : List Pc) : ∀ t, a1g t (P ++ Q) = a1g (a1g t P) Q := by
 induction P with
 | nil => intro t; rfl
 | cons p l ih => intro t; simp [a1g, ih]
theorem a39 {F : Fo} {B : Nat} {P Q : List Pc} : ∀ {t}, okT F B t P -> okT F B (a1g t P) Q -> okT F B t (P ++ Q) := by
 induction P with
 | nil => intro t _ h; exact h
 | cons p l ih => intro t h k; exact ⟨h.1, h.2.1, h.2.2.1, ih h.2.2.2 k⟩
theorem R0 (F : Fo) (P Q : List Pc) : wts F (P ++ Q) = wts F P + wts F Q := by simp [wts]
structure Pn (F : Fo) (B t : Nat) (P : List Pc) (s : List UInt8) (m : Nat) : Prop where
 out : Ym F t P = s
 tab : a1g t P = t
 wt : wts F P <= m
 ok : okT F B t P
variable {F : Fo} {B t : Nat}
theorem Pn.nil : Pn F B t [] [] 0 := ⟨rfl, rfl, Nat.le_refl _, trivial⟩
theorem Pn.app {P Q : List Pc} {s r : List UInt8} {m n : Nat} (h : Pn F B t P s m) (k : Pn F B t Q r n) : Pn F B t (P ++ Q) (s ++ r) (m + n) :=
 ⟨by rw [Yl, h.tab, h.out, k.out], by rw [b02, h.tab, k.tab], by rw [R0]; exact Nat.add_le_add h.wt k.wt, a39 h.ok (by rw [h.tab]; exact k.ok)⟩
theorem Pn.le {P : List Pc} {s : List UInt8} {m n : Nat} (h : Pn F B t P s m) (e : m <= n) : Pn F B t P s n := ⟨h.out, h.tab, Nat.le_trans h.wt e, h.ok⟩
theorem Pn.text (ht : t <= B) (s : List UInt8) : Pn F B t [tP s] (Ow s t) 1 := by
 refine ⟨by simp [Ym, a8z, tP], by simp [a1g, tP], by simp [wts, wtP, tP], ⟨fun h => absurd h (by simp [tP]), ?_, ?_, trivial⟩⟩ <;> simp [tP] <;> omega
theorem Pn.txt (ht : t <= B) {s : List UInt8} (hs : s ≠ [10]) : Pn F B t [tP s] s 1 := by
 have := Pn.text (F := F) ht s
 rwa [Ow, if_neg hs] at this
theorem Pn.eol (ht : t <= B) : Pn F B t [tP [10]] (nl t) 1 := Pn.text ht [10]
def Kid (F : Fo) (B t q : Nat) : Prop := 0 < q ∧ q < F.cnt ∧ (Ag F q).1.kind ≠ 14 ∧ t + (Ag F q).2.cnt + 1 <= B
theorem Tf (x : Tx) : brk 0 x = x.2 := by simp [brk]
theorem Pn.node {q : Nat} (h : Kid F B t q) : Pn F B t [nP q] (Go.Proofs.YtoaplbljflhheaaGreat.txt F q t).2 (wk F q - 5) := by
 obtain ⟨h0, h1, h2, h3⟩ := h;refine ⟨by simp [Ym, a8z, nP, h0, Tf], by simp [a1g, nP], by simp [wts, wtP, nP, h0], ⟨fun _ => ⟨h1, h2, rfl, by simp [nP]; omega⟩, ?_, ?_, trivial⟩⟩ <;> simp [nP] <;> omega
theorem Pn.opd {q m : Nat} (h : Kid F B t q) : Pn F B t [oP q m] (brk m (Go.Proofs.YtoaplbljflhheaaGreat.txt F q t)) (wk F q - 2) := by
 obtain ⟨h0, h1, h2, h3⟩ := h;refine ⟨by simp [Ym, a8z, oP, h0], by simp [a1g, oP], ?_, ⟨fun _ => ⟨h1, h2, rfl, by simp [oP]; omega⟩, ?_, ?_, trivial⟩⟩
 ·simp only [wts, wtP, oP, h0, if_true, List.map_cons, List.map_nil, List.sum_cons, List.sum_nil, Nat.add_zero];split <;> omega
 all_goals (simp [oP] <;> omega)
theorem Pn.line {q : Nat} (h : Kid F B (t + 1) q) : Pn F B t (Jy q) (nl (t + 1) ++ (Go.Proofs.YtoaplbljflhheaaGreat.txt F q (t + 1)).2) (wk F q) := by
 obtain ⟨h0, h1, h2, h3⟩ := h;have e1 : ((t : Int) + 1).toNat = t + 1 := by omega
 refine ⟨?_, by simp [a1g, Jy, nP] <;> omega, ?_, ?_⟩
 ·simp [Ym, a8z, Jy, nP, h0, Tf, Ow, nl, e1]
 ·simp [wts, wtP, Jy, nP, h0]; unfold wk; omega
 ·refine ⟨fun h => absurd h (by simp), by simp; omega, by simp; omega, ⟨fun _ => ⟨h1, h2, rfl, by simp [nP]; omega⟩, by simp [nP]; omega, by simp [nP]; omega, ⟨fun h => absurd h (by simp), by simp [nP]; omega, by simp [nP]; omega, trivial⟩⟩⟩
def Jk (F : Fo) (ps : List Nat) : Nat := (ps.map (wk F)).sum
abbrev tx (F : Fo) (t : Nat) (q : Nat) : Tx := Go.Proofs.YtoaplbljflhheaaGreat.txt F q t
theorem Pn.lines {ps : List Nat} (ht : t <= B) (h : ∀ q ∈ ps, Kid F B (t + 1) q) : Pn F B t (Jo ps) (Go.Proofs.YtoaplbljflhheaaGreat.lines t (ps.map (tx F (t + 1)))) (Jk F ps + 3) := by
 have A : Pn F B t (ps.flatMap Jy) ((ps.map (tx F (t + 1))).flatMap fun x => nl (t + 1) ++ x.2) (Jk F ps) := by
  induction ps with
  | nil => exact Pn.nil
  | cons q r ih =>
   have := (Pn.line (h q (by simp))).app (ih fun x hx => h x (by simp [hx]));simpa [Jk] using this
 have := (((Pn.txt ht (s := [123]) (by decide)).app A).app (Pn.eol ht)).app (Pn.txt ht (s := [125]) (by decide));refine ⟨?_, ?_, ?_, ?_⟩
 ·have e := this.out;simp only [Go.Proofs.YtoaplbljflhheaaGreat.lines, Jo];rw [<- e]; simp
 ·have e := this.tab;simp only [Jo]; simpa using e
 ·have e := this.wt;simp only [Jo];simp only [List.append_assoc] at e;simp only [List.cons_append, List.nil_append] at e ⊢;omega
 ·have e := this.ok;simp only [Jo];simpa using e
theorem Pn.coms {ps : List Nat} (ht : t <= B) (h : ∀ q ∈ ps, Kid F B t q) : Pn F B t (ps.flatMap b2h) ((ps.map (tx F t)).flatMap fun y => [44, 32] ++ y.2) (Jk F ps) := by
 induction ps with
 | nil => exact Pn.nil
 | cons q r ih =>
  have := (((Pn.txt ht (s := [44, 32]) (by decide)).app (Pn.node (h q (by simp)))).app (ih fun x hx => h x (by simp [hx]))).le (n := Jk F (q :: r)) (by simp [Jk]; unfold wk; omega);simpa [b2h] using this
theorem Pn.listed {ps : List Nat} (ht : t <= B) (h : ∀ q ∈ ps, Kid F B t q) : Pn F B t (Aw ps) (Fz (ps.map (tx F t))) (Jk F ps) := by
 cases ps with
 | nil => exact Pn.nil
 | cons q r =>
  have := ((Pn.node (h q (by simp))).app (Pn.coms (ps := r) ht fun x hx => h x (by simp [hx]))).le (n := Jk F (q :: r)) (by simp [Jk]);simpa [Aw, Fz] using this
theorem Pn.prog {ps : List Nat} (h : ∀ q ∈ ps, Kid F B 0 q) : Pn F B 0 (Ei ps) ((ps.map (tx F 0)).flatMap fun x => x.2 ++ [10]) (Jk F ps) := by
 induction ps with
 | nil => exact Pn.nil
 | cons q r ih =>
  have := (((Pn.node (h q (by simp))).app (Pn.eol (F := F) (B := B) (t := 0) (by omega))).app (ih fun x hx => h x (by simp [hx]))).le (n := Jk F (q :: r)) (by simp [Jk]; unfold wk; omega);simpa [Ei, nl] using this
theorem Q5 {G : Fo} : ∀ {p : Nat}, Seg F p G -> Jk F (D4 G p) = 20 * G.cnt := by
 induction G with
 | nil => intro p _; rfl
 | cons i k r _ ihr =>
  intro p h;obtain ⟨h1, h2, h3⟩ := Od h;have e : Ag F p = (i, k) := by simp [Ag, List.getD_eq_getElem?_getD, h1]
  have := ihr h3;simp only [Jk, D4, List.map_cons, List.sum_cons] at this ⊢;rw [this, wk, e];simp [Fo.cnt]; omega
end
section
variable {F : Fo} {B t : Nat}
theorem a4x (ps : List Nat) (f : Nat -> Tx) {j : Nat} (h : j < ps.length) : kth (ps.map f) j = f (pk ps j) := by
 unfold kth pk;rw [List.getD_eq_getElem?_getD, List.getElem?_map, List.getElem?_eq_getElem h, List.getD_eq_getElem?_getD, List.getElem?_eq_getElem h];rfl
theorem a3y {ps : List Nat} {j : Nat} (h : j < ps.length) : pk ps j ∈ ps := by
 unfold pk;rw [List.getD_eq_getElem?_getD, List.getElem?_eq_getElem h];exact List.getElem_mem h
theorem b8n (n : Int) : (opS n).1 ≠ [10] := by
 by_cases h15 : n = 15
 ·subst h15; decide
 by_cases h14 : n = 14
 ·subst h14; decide
 by_cases h6 : n = 6
 ·subst h6; decide
 by_cases h7 : n = 7
 ·subst h7; decide
 by_cases h8 : n = 8
 ·subst h8; decide
 by_cases h9 : n = 9
 ·subst h9; decide
 by_cases h10 : n = 10
 ·subst h10; decide
 by_cases h11 : n = 11
 ·subst h11; decide
 by_cases h1 : n = 1
 ·subst h1; decide
 by_cases h2 : n = 2
 ·subst h2; decide
 by_cases h3 : n = 3
 ·subst h3; decide
 by_cases h4 : n = 4
 ·subst h4; decide
 by_cases h5 : n = 5
 ·subst h5; decide
 by_cases h12 : n = 12
 ·subst h12; decide
 by_cases h13 : n = 13
 ·subst h13; decide
 simp [opS, h15, h14, h6, h7, h8, h9, h10, h11, h1, h2, h3, h4, h5, h12, h13]
def a60 (F : Fo) (B t : Nat) (i : Inf) (ps : List Nat) : Prop := ∀ j, j < ps.length -> ¬ (i.kind = 4 ∧ j = i.num.toNat ∧ (Ag F (pk ps j)).1.kind = 14) -> Kid F B (E9 t i) (pk ps j)
theorem Kz {i : Inf} {ps : List Nat} (h : a60 F B t i ps) (h4 : i.kind ≠ 4) : ∀ q ∈ ps, Kid F B (E9 t i) q := fun q hq => by
 obtain ⟨j, hj, rfl⟩ := List.getElem_of_mem hq;have := h j hj (fun e => h4 e.1);have e : pk ps j = ps[j] := by unfold pk; rw [List.getD_eq_getElem?_getD, List.getElem?_eq_getElem hj]; rfl
 rwa [e] at this
theorem Ut {i : Inf} {ps : List Nat} (ht : t <= B) (h1 : i.kind = 1 -> t = 0) (hk0 : 1 <= i.kind) (hk32 : i.kind <= 32) (h14 : i.kind ≠ 14) (hx : i.kind ≠ 23 -> i.text ≠ [10]) (hat : L3 i ≠ [10]) {ks : List Nat} (hks : ks.length = ps.length) (hask : Hl i.kind i.num ks = true) (hkid : a60 F B t i ps) {nb : Bool} (hnb : nb = decide ((Ag F (pk ps i.num.toNat)).1.kind = 14)) :
  Pn F B t (Mf i.kind i.num i.text ps nb) (Jw t i (ps.map (tx F (E9 t i)))) (Jk F ps + 12) := by
 obtain ⟨kd, ln, cl, num, x⟩ := i;simp only at *;have T := fun {s : List UInt8} (h : s ≠ [10]) => Pn.txt (F := F) ht h
 by_cases hat2 : 21 <= kd ∧ kd <= 26
 ·have e1 : Mf kd num x ps nb = [tP (L3 ⟨kd, 0, 0, num, x⟩)] := by
   have hc : kd = 21 ∨ kd = 22 ∨ kd = 23 ∨ kd = 24 ∨ kd = 25 ∨ kd = 26 := by omega
   rcases hc with rfl | rfl | rfl | rfl | rfl | rfl <;> rfl
  have e2 : Jw t ⟨kd, ln, cl, num, x⟩ (ps.map (tx F (E9 t ⟨kd, ln, cl, num, x⟩))) = L3 ⟨kd, 0, 0, num, x⟩ := by
   have hc : kd = 21 ∨ kd = 22 ∨ kd = 23 ∨ kd = 24 ∨ kd = 25 ∨ kd = 26 := by omega
   rcases hc with rfl | rfl | rfl | rfl | rfl | rfl <;> rfl
  rw [e1, e2];exact (T hat).le (by omega)
 ·have TX := T (hx (by omega));have hc : kd = 1 ∨ kd = 2 ∨ kd = 3 ∨ kd = 4 ∨ kd = 5 ∨ kd = 6 ∨ kd = 7 ∨ kd = 8 ∨ kd = 9 ∨ kd = 10 ∨ kd = 11 ∨ kd = 12 ∨ kd = 13 ∨ kd = 15 ∨ kd = 16 ∨ kd = 17 ∨ kd = 18 ∨ kd = 19 ∨ kd = 20 ∨ kd = 27 ∨ kd = 28 ∨ kd = 29 ∨ kd = 30 ∨ kd = 31 ∨ kd = 32 := by omega
  rcases hc with rfl | rfl | rfl | rfl | rfl | rfl | rfl | rfl | rfl | rfl | rfl | rfl | rfl | rfl | rfl | rfl | rfl | rfl | rfl | rfl | rfl | rfl | rfl | rfl | rfl
  ·obtain rfl := h1 rfl;exact (Pn.prog (Kz hkid (by simp))).le (by omega)
  ·exact ((((T (s := [114, 101, 99, 32]) (by decide)).app TX).app (T (s := [32]) (by decide))).app (Pn.lines ht (Kz hkid (by simp)))).le (by omega)
  ·obtain ⟨q0, rfl⟩ : ∃ q0, ps = [q0] := ⟨_, Tm (hks ▸ Aj hask)⟩;have K0 : Kid F B t q0 := hkid 0 (by simp) (by simp);exact (((TX.app (T (s := [58, 32]) (by decide))).app (Pn.node K0)).app (T (s := [59]) (by decide))).le (by simp [Jk]; omega)
  ·obtain ⟨k, hk, hl⟩ : ∃ k : Nat, num.toNat = k ∧ ps.length = k + 2 := by
    have e : Hl 4 num ks = Iu num [5].contains (Ak [Fi, [6].contains]) ks := rfl;rw [e, Iu, Bool.and_eq_true, Bool.and_eq_true, decide_eq_true_eq] at hask;have := Aj hask.2.2;simp only [List.length_drop] at this;simp only [List.length_cons, List.length_nil] at this;exact ⟨_, rfl, by omega⟩
   rw [hk] at hnb
   have KJ : ∀ j, j < ps.length -> (j = k -> nb = false) -> Kid F B t (pk ps j) := fun j hj hn => by
    refine hkid j hj fun e => ?_
    have h2 := e.2.1;rw [hk] at h2;have := hn h2;rw [hnb, decide_eq_false_iff_not] at this;exact this (h2 ▸ e.2.2)
   have HT : Pn F B t (Aw (ps.take k)) (Fz ((ps.take k).map (tx F t))) (Jk F (ps.take k)) := Pn.listed ht fun q hq => by
    obtain ⟨j, hj, rfl⟩ := List.getElem_of_mem hq;rw [List.length_take] at hj;have e : pk ps j = (ps.take k)[j] := by unfold pk; rw [List.getD_eq_getElem?_getD, List.getElem?_eq_getElem (by omega), List.getElem_take]; rfl
    rw [<- e];exact KJ j (by omega) (fun e => absurd e (by omega))
   have HB : Pn F B t ([tP [32], nP (pk ps (k + 1))]) ([32] ++ (tx F t (pk ps (k + 1))).2) (wk F (pk ps (k + 1)) - 4) := ((T (s := [32]) (by decide)).app (Pn.node (KJ (k + 1) (by omega) (fun e => absurd e (by omega))))).le (by unfold wk; omega)
   have hw : Jk F ps = Jk F (ps.take k) + wk F (pk ps k) + wk F (pk ps (k + 1)) := by
    have e : ps = ps.take k ++ [pk ps k, pk ps (k + 1)] := by
     have : ps.drop k = [pk ps k, pk ps (k + 1)] := by
      have h2 := Xo (ps := ps.drop k) (by rw [List.length_drop]; omega);rw [h2];simp [pk, List.getD_eq_getElem?_getD]
     rw [<- this, List.take_append_drop]
    conv => lhs; rw [e]
    simp [Jk]; omega
   have k1 : kth (ps.map (tx F t)) k = tx F t (pk ps k) := a4x ps _ (by omega);have k2 : kth (ps.map (tx F t)) (k + 1) = tx F t (pk ps (k + 1)) := a4x ps _ (by omega)
   have eS : Jw t ⟨4, ln, cl, num, x⟩ (ps.map (tx F (E9 t ⟨4, ln, cl, num, x⟩))) = [102, 110, 32] ++ x ++ [40] ++ Fz ((ps.take k).map (tx F t)) ++ [41] ++ (if (Ag F (pk ps k)).1.kind = 14 then [] else [58, 32] ++ (tx F t (pk ps k)).2) ++ ([32] ++ (tx F t (pk ps (k + 1))).2) := by
    have : Jw t ⟨4, ln, cl, num, x⟩ (ps.map (tx F (E9 t ⟨4, ln, cl, num, x⟩))) = [102, 110, 32] ++ x ++ [40] ++ Fz ((ps.map (tx F t)).take num.toNat) ++ [41] ++ (if (kth (ps.map (tx F t)) num.toNat).1.kind = 14 then [] else [58, 32] ++ (kth (ps.map (tx F t)) num.toNat).2) ++ [32] ++ (kth (ps.map (tx F t)) (num.toNat + 1)).2 := rfl;rw [this, hk, k1, k2, <- List.map_take, List.append_assoc _ [32]];rfl
   have eP : Mf 4 num x ps nb = b5c x ps k (pk ps k) (pk ps (k + 1)) nb := by
    show b5c x ps num.toNat (pk ps num.toNat) (pk ps (num.toNat + 1)) nb = _;rw [hk]
   have HH := (((T (s := [102, 110, 32]) (by decide)).app TX).app (T (s := [40]) (by decide))).app HT |>.app (T (s := [41]) (by decide))
   rw [eS, eP];by_cases hq : (Ag F (pk ps k)).1.kind = 14
   ·rw [if_pos hq];obtain rfl : nb = true := by rw [hnb, decide_eq_true_eq]; exact hq
    exact ((HH.app Pn.nil).app HB).le (by omega)
   ·rw [if_neg hq];obtain rfl : nb = false := by rw [hnb, decide_eq_false_iff_not]; exact hq
    exact ((HH.app ((T (s := [58, 32]) (by decide)).app (Pn.node (KJ k (by omega) fun _ => rfl)))).app HB).le (by have : 20 <= wk F (pk ps k) := by unfold wk; omega
                                                                                                                  omega)
  ·obtain ⟨q0, rfl⟩ : ∃ q0, ps = [q0] := ⟨_, Tm (hks ▸ Aj hask)⟩;have K0 : Kid F B t q0 := hkid 0 (by simp) (by simp);exact ((TX.app (T (s := [58, 32]) (by decide))).app (Pn.node K0)).le (by simp [Jk]; omega)
  ·exact (Pn.lines ht (Kz hkid (by simp))).le (by omega)
  ·obtain ⟨q0, q1, rfl⟩ : ∃ q0 q1, ps = [q0, q1] := ⟨_, _, Xo (hks ▸ Aj hask)⟩;have K0 : Kid F B t q0 := hkid 0 (by simp) (by simp);have K1 : Kid F B t q1 := hkid 1 (by simp) (by simp);exact (((((((T (s := [118, 97, 114, 32]) (by decide)).app TX).app (T (s := [58, 32]) (by decide))).app (Pn.node K0)).app (T (s := [32, 61, 32]) (by decide))).app (Pn.node K1)).app (T (s := [59]) (by decide))).le (by simp [Jk]; omega)
  ·obtain ⟨q0, q1, rfl⟩ : ∃ q0 q1, ps = [q0, q1] := ⟨_, _, Xo (hks ▸ Aj hask)⟩;have K0 : Kid F B t q0 := hkid 0 (by simp) (by simp);have K1 : Kid F B t q1 := hkid 1 (by simp) (by simp);exact ((((Pn.node K0).app (T (s := [32, 61, 32]) (by decide))).app (Pn.node K1)).app (T (s := [59]) (by decide))).le (by simp [Jk]; omega)
  ·rcases M6 (ks := ks) hask with h1 | h1
   ·obtain ⟨q0, q1, rfl⟩ : ∃ q0 q1, ps = [q0, q1] := ⟨_, _, Xo (hks ▸ Aj h1)⟩;have K0 : Kid F B t q0 := hkid 0 (by simp) (by simp);have K1 : Kid F B t q1 := hkid 1 (by simp) (by simp);exact (((((T (s := [105, 102, 32]) (by decide)).app (Pn.node K0)).app (T (s := [32]) (by decide))).app (Pn.node K1)).app Pn.nil).le (by simp [Jk]; omega)
   ·obtain ⟨q0, q1, q2, rfl⟩ : ∃ q0 q1 q2, ps = [q0, q1, q2] := ⟨_, _, _, c3c (hks ▸ Aj h1)⟩;have K0 : Kid F B t q0 := hkid 0 (by simp) (by simp);have K1 : Kid F B t q1 := hkid 1 (by simp) (by simp);have K2 : Kid F B t q2 := hkid 2 (by simp) (by simp);exact (((((T (s := [105, 102, 32]) (by decide)).app (Pn.node K0)).app (T (s := [32]) (by decide))).app (Pn.node K1)).app ((T (s := [32, 101, 108, 115, 101, 32]) (by decide)).app (Pn.node K2))).le (by simp [Jk]; omega)
  ·obtain ⟨q0, q1, rfl⟩ : ∃ q0 q1, ps = [q0, q1] := ⟨_, _, Xo (hks ▸ Aj hask)⟩;have K0 : Kid F B t q0 := hkid 0 (by simp) (by simp);have K1 : Kid F B t q1 := hkid 1 (by simp) (by simp);exact ((((T (s := [119, 104, 105, 108, 101, 32]) (by decide)).app (Pn.node K0)).app (T (s := [32]) (by decide))).app (Pn.node K1)).le (by simp [Jk]; omega)
  ·rcases M6 (ks := ks) hask with h1 | h1
   ·obtain rfl : ps = [] := Va (hks ▸ Aj h1);exact (((T (s := [114, 101, 116, 117, 114, 110]) (by decide)).app Pn.nil).app (T (s := [59]) (by decide))).le (by omega)
   ·obtain ⟨q0, rfl⟩ : ∃ q0, ps = [q0] := ⟨_, Tm (hks ▸ Aj h1)⟩;have K0 : Kid F B t q0 := hkid 0 (by simp) (by simp);exact (((T (s := [114, 101, 116, 117, 114, 110]) (by decide)).app ((T (s := [32]) (by decide)).app (Pn.node K0))).app (T (s := [59]) (by decide))).le (by simp [Jk]; omega)
  ·obtain ⟨q0, rfl⟩ : ∃ q0, ps = [q0] := ⟨_, Tm (hks ▸ Aj hask)⟩;have K0 : Kid F B t q0 := hkid 0 (by simp) (by simp);exact (((T (s := [112, 114, 105, 110, 116, 32]) (by decide)).app (Pn.node K0)).app (T (s := [59]) (by decide))).le (by simp [Jk]; omega)
  ·obtain ⟨q0, rfl⟩ : ∃ q0, ps = [q0] := ⟨_, Tm (hks ▸ Aj hask)⟩;have K0 : Kid F B t q0 := hkid 0 (by simp) (by simp);exact ((Pn.node K0).app (T (s := [59]) (by decide))).le (by simp [Jk]; omega)
  ·obtain rfl : ps = [] := Va (hks ▸ Aj hask);exact (T (s := [105, 110, 116]) (by decide)).le (by omega)
  ·obtain rfl : ps = [] := Va (hks ▸ Aj hask);exact (T (s := [98, 111, 111, 108]) (by decide)).le (by omega)
  ·obtain rfl : ps = [] := Va (hks ▸ Aj hask);exact (T (s := [115, 116, 114]) (by decide)).le (by omega)
  ·obtain rfl : ps = [] := Va (hks ▸ Aj hask);exact (T (s := [99, 111, 109, 112]) (by decide)).le (by omega)
  ·obtain rfl : ps = [] := Va (hks ▸ Aj hask);exact TX.le (by omega)
  ·obtain ⟨q0, rfl⟩ : ∃ q0, ps = [q0] := ⟨_, Tm (hks ▸ Aj hask)⟩;have K0 : Kid F B t q0 := hkid 0 (by simp) (by simp);exact (((T (s := [91]) (by decide)).app (Pn.node K0)).app (T (s := [93]) (by decide))).le (by simp [Jk]; omega)
  ·exact (((TX.app (T (s := [40]) (by decide))).app (Pn.listed ht (Kz hkid (by simp)))).app (T (s := [41]) (by decide))).le (by omega)
  ·obtain ⟨q0, q1, rfl⟩ : ∃ q0 q1, ps = [q0, q1] := ⟨_, _, Xo (hks ▸ Aj hask)⟩;have K0 : Kid F B t q0 := hkid 0 (by simp) (by simp);have K1 : Kid F B t q1 := hkid 1 (by simp) (by simp);exact ((((Pn.opd (m := 8) K0).app (T (s := [91]) (by decide))).app (Pn.node K1)).app (T (s := [93]) (by decide))).le (by simp [Jk]; omega)
  ·obtain ⟨q0, rfl⟩ : ∃ q0, ps = [q0] := ⟨_, Tm (hks ▸ Aj hask)⟩;have K0 : Kid F B t q0 := hkid 0 (by simp) (by simp);exact (((Pn.opd (m := 8) K0).app (T (s := [46]) (by decide))).app TX).le (by simp [Jk]; omega)
  ·obtain ⟨q0, rfl⟩ : ∃ q0, ps = [q0] := ⟨_, Tm (hks ▸ Aj hask)⟩;have K0 : Kid F B t q0 := hkid 0 (by simp) (by simp);exact ((T (b8n num)).app (Pn.opd (m := 7) K0)).le (by simp [Jk]; omega)
  ·obtain ⟨q0, q1, rfl⟩ : ∃ q0 q1, ps = [q0, q1] := ⟨_, _, Xo (hks ▸ Aj hask)⟩;have K0 : Kid F B t q0 := hkid 0 (by simp) (by simp);have K1 : Kid F B t q1 := hkid 1 (by simp) (by simp);exact (((((Pn.opd (m := Fh (opS num).2) K0).app (T (s := [32]) (by decide))).app (T (b8n num))).app (T (s := [32]) (by decide))).app (Pn.opd (m := (opS num).2 + 1) K1)).le (by simp [Jk]; omega)
  ·rcases M6 (ks := ks) hask with h1 | h1
   ·obtain ⟨q0, rfl⟩ : ∃ q0, ps = [q0] := ⟨_, Tm (hks ▸ Aj h1)⟩;have K0 : Kid F B t q0 := hkid 0 (by simp) (by simp);exact (((((T (s := [109, 97, 107, 101, 32]) (by decide)).app (Pn.node K0)).app (T (s := [40]) (by decide))).app Pn.nil).app (T (s := [41]) (by decide))).le (by simp [Jk]; omega)
   ·obtain ⟨q0, q1, rfl⟩ : ∃ q0 q1, ps = [q0, q1] := ⟨_, _, Xo (hks ▸ Aj h1)⟩;have K0 : Kid F B t q0 := hkid 0 (by simp) (by simp);have K1 : Kid F B t q1 := hkid 1 (by simp) (by simp);exact (((((T (s := [109, 97, 107, 101, 32]) (by decide)).app (Pn.node K0)).app (T (s := [40]) (by decide))).app (Pn.listed (ps := [q1]) ht (by intro q hq; simp at hq; subst hq; exact K1))).app (T (s := [41]) (by decide))).le (by simp [Jk]; omega)
end
section
open Go.RowKit Go.Sort
structure St (F : Fo) (B : Nat) (S : List UInt8) (X : List Pc) (t : Nat) (out : List UInt8) : Prop where
 out : out ++ Ym F t X.reverse = S
 ok : okT F B t X.reverse
 wt : wts F X <= 20 * F.cnt + 12
 tb : t <= B
theorem a1w (F : Fo) (l : List Pc) : wts F l.reverse = wts F l := by simp [wts, List.sum_reverse]
theorem a1y (F : Fo) (p : Pc) : 1 <= wtP F p := by
 unfold wtP wk;split
 ·split <;> omega
 ·omega
theorem Xn (F : Fo) (l : List Pc) : l.length <= wts F l := by
 induction l with
 | nil => simp
 | cons p l ih =>
  have := a1y F p;simp [wts] at ih ⊢;omega
theorem St.node {F : Fo} {B : Nat} {S : List UInt8} {X Q : List Pc} {pc : Pc} {t : Nat} {out : List UInt8} {m : Nat} (h : St F B S (X ++ [pc]) t out) (hp : 0 < pc.plc) (hq : Pn F B t Q (a8z F t pc) m) (hm : m < wtP F pc) :
  St F B S (X ++ Q.reverse) t out ∧ wts F (X ++ Q.reverse) < wts F (X ++ [pc]) := by
 obtain ⟨h1, h2, h3, h4⟩ := h;simp only [List.reverse_append, List.reverse_cons, List.reverse_nil, List.nil_append, List.singleton_append] at h1 h2;obtain ⟨h5, h6, h7, h8⟩ := h2;obtain ⟨-, -, htab, -⟩ := h5 hp;rw [htab, Int.add_zero] at h8;simp only [Ym, htab, Int.add_zero] at h1
 have hw : wts F (X ++ Q.reverse) < wts F (X ++ [pc]) := by
  rw [R0, R0, a1w];have := hq.wt;have : wts F [pc] = wtP F pc := by simp [wts]
  omega
 refine ⟨⟨?_, ?_, by omega, h4⟩, hw⟩
 ·rw [List.reverse_append, List.reverse_reverse, Yl, hq.tab, hq.out];exact h1
 ·rw [List.reverse_append, List.reverse_reverse];exact a39 hq.ok (by rw [hq.tab]; exact h8)
theorem St.text {F : Fo} {B : Nat} {S : List UInt8} {X : List Pc} {pc : Pc} {t : Nat} {out : List UInt8} (h : St F B S (X ++ [pc]) t out) (hp : pc.plc = 0) :
  ∃ T : Nat, (t : Int) + pc.tabs = T ∧ T <= B ∧ out.length + pc.text.length <= S.length ∧ St F B S X T (out ++ Ow pc.text T) ∧ wts F X < wts F (X ++ [pc]) := by
 obtain ⟨h1, h2, h3, h4⟩ := h;simp only [List.reverse_append, List.reverse_cons, List.reverse_nil, List.nil_append, List.singleton_append] at h1 h2;obtain ⟨-, h6, h7, h8⟩ := h2;obtain ⟨T, hT⟩ : ∃ T : Nat, (t : Int) + pc.tabs = T := ⟨((t : Int) + pc.tabs).toNat, by omega⟩
 have ho : a8z F t pc = Ow pc.text T := by
  unfold a8z;rw [if_neg (by omega), hT];rfl
 simp only [Ym, ho, hT] at h1;rw [hT] at h8 h7
 have hw : wts F X < wts F (X ++ [pc]) := by
  rw [R0];have := a1y F pc;have : wts F [pc] = wtP F pc := by simp [wts]
  omega
 refine ⟨T, hT, by omega, ?_, ⟨?_, h8, by omega, by omega⟩, hw⟩
 ·have e := congrArg List.length h1;simp only [List.length_append] at e
  have : pc.text.length <= (Ow pc.text T).length := by
   unfold Ow;split <;> simp
  omega
 ·rw [List.append_assoc]; exact h1
theorem W4 {p q : Pc} (h : Ev p = Ev q) : p = q := by
 cases p; cases q;simp only [Ev, List.cons.injEq, Value.string.injEq, Value.int.injEq, true_and, and_true] at h;obtain ⟨h1, h2, h3, h4⟩ := h
 have : ∀ {a b : List UInt8}, bs a = bs b -> a = b := fun {a b} e => by
  have := congrArg (fun x : ByteArray => x.data.toList) e;simpa [B9] using this
 rw [this h1, h4, Int.ofNat_inj.1 h2, Int.ofNat_inj.1 h3]
theorem a0w : ∀ {l m : List Pc}, l.length = m.length -> Cm l = Cm m -> l = m := by
 intro l
 induction l with
 | nil => intro m h _; exact (List.eq_nil_of_length_eq_zero h.symm).symm
 | cons p l ih =>
  intro m h e
  cases m with
  | nil => cases h
  | cons q m =>
   have e2 : Ev p ++ Cm l = Ev q ++ Cm m := by simpa [Cm] using e
   obtain ⟨e3, e4⟩ := List.append_inj e2 rfl;rw [W4 e3, ih (by simpa using h) e4]
theorem Wr.inj {w : World} {b : Nat} {E : Env} {X X' : List Pc} {t t' : Int} {out out' : List UInt8} (h : Wr w b E X t out) (k : Wr w b E X' t' out') : X = X' := by
 obtain ⟨_, v, p, u, hb, hv, _⟩ := h;obtain ⟨_, v', p', u', hb', hv', _⟩ := k;rw [hb] at hb'
 have e : v = v' := by
  have := Option.some.inj hb';simp only [Obj.cells.injEq, and_true] at this;have := congrArg (fun x : Array Value => x[2]?) this;simpa using this
 subst e;obtain ⟨a, cap, e1⟩ := M5 hv;obtain ⟨a', cap', e2⟩ := M5 hv';rw [e1] at e2
 have hl : X.length = X'.length := by
  have := e2;simp only [Value.slice.injEq] at this;exact this.2.1
 rcases hv.2 with ⟨rfl, h0⟩ | ⟨g, c, cur, rfl, _, hg, _, _, _, ht⟩
 ·rw [List.eq_nil_of_length_eq_zero h0];exact (List.eq_nil_of_length_eq_zero (hl ▸ h0)).symm
 ·rcases hv'.2 with ⟨h2, _⟩ | ⟨g', c', cur', e3, _, hg', _, _, _, ht'⟩
  ·cases h2
  ·obtain ⟨rfl, rfl⟩ : g = g' ∧ c = c' := by
    simp only [Value.slice.injEq, Option.some.injEq, Addr.mk.injEq] at e3;exact ⟨e3.1.1, e3.2.2⟩
   rw [hg] at hg';cases hg';refine a0w hl ?_;rw [<- ht, <- ht', hl]
noncomputable def mW (F : Fo) (b : Nat) (E : Env) (w : World) : Nat := by
 classical
 exact if h : ∃ X t out, Wr w b E X t out then wts F (Classical.choose h) else 0
theorem b4r {F : Fo} {w : World} {b : Nat} {E : Env} {X : List Pc} {t : Int} {out : List UInt8} (h : Wr w b E X t out) : mW F b E w = wts F X := by
 have hx : ∃ X t out, Wr w b E X t out := ⟨X, t, out, h⟩;unfold mW;rw [dif_pos hx];obtain ⟨t', out', h'⟩ := Classical.choose_spec hx;rw [Wr.inj h' h]
theorem b6u {w : World} {b : Nat} {E : Env} {X : List Pc} {pc : Pc} {t : Int} {out : List UInt8} (h : Wr w b E (X ++ [pc]) t out) :
  ∃ g cap, w.cell? ⟨b, 2, none⟩ = some (.slice (some ⟨g, 0, none⟩) (X.length + 1) cap) ∧ X.length + 1 <= cap ∧ g ≠ b ∧ g < w.heap.size ∧
   w.cell? ⟨g, X.length * 4, none⟩ = some (.string (bs pc.text)) ∧ w.cell? ⟨g, X.length * 4 + 1, none⟩ = some (.int .i64 pc.plc) ∧ w.cell? ⟨g, X.length * 4 + 2, none⟩ = some (.int .i64 pc.ask) ∧ w.cell? ⟨g, X.length * 4 + 3, none⟩ = some (.int .i64 pc.tabs) ∧
   ∀ w', Below w.heap.size w w' -> Wr (w'.setCell ⟨b, 2, none⟩ (.slice (some ⟨g, 0, none⟩) X.length cap)) b E X t out ∧ Fw b w (w'.setCell ⟨b, 2, none⟩ (.slice (some ⟨g, 0, none⟩) X.length cap)) := by
 obtain ⟨he, v, p, u, hb, hv, hu, hp⟩ := h;have hl : (X ++ [pc]).length = X.length + 1 := by simp
 rcases hv.2 with ⟨_, h0⟩ | ⟨g, cap, cur, rfl, hbg, hg, hnc, hcm, hcs, ht⟩
 ·rw [hl] at h0; omega
 ·rw [hl] at hnc
  have C : ∀ c, c < 4 -> cur[X.length * 4 + c]? = (Ev pc)[c]? := fun c hc => by
   have : (cur.toList.take ((X ++ [pc]).length * 4))[X.length * 4 + c]? = cur[X.length * 4 + c]? := by
    rw [List.getElem?_take_of_lt (by omega), Array.getElem?_toList]
   rw [<- this, ht, On _ _ c hc, List.getElem?_append_right (Nat.le_refl _), Nat.sub_self];rfl
  refine ⟨g, cap, by simp [World.cell?, hb], hnc, by omega, Ay hg, ?_, ?_, ?_, ?_, fun w' hB => ?_⟩
  ·rw [Lib.cell_of_heap hg]; exact C 0 (by omega)
  ·rw [Lib.cell_of_heap hg]; exact C 1 (by omega)
  ·rw [Lib.cell_of_heap hg]; exact C 2 (by omega)
  ·rw [Lib.cell_of_heap hg]; exact C 3 (by omega)
  ·have huW : Own w' (b + 1) u out := Fx hu hB
   have hvW : X9 w' (b + 1) (.slice (some ⟨g, 0, none⟩) X.length cap) X := by
    refine ⟨by rw [Gz], .inr ⟨g, cap, cur, rfl, hbg, (hB.block g (Ay hg)).trans hg, by omega, hcm, hcs, ?_⟩⟩;have := congrArg (List.take (X.length * 4)) ht;rw [List.take_take, Rj, List.take_append_of_le_length (by rw [Gz]; exact Nat.le_refl _), Nat.min_eq_left (by rw [hl]; omega)] at this;rw [this, List.take_of_length_le (by rw [Gz]; exact Nat.le_refl _)]
   have hbl := Ay hb;refine ⟨⟨he.of fun k hk => ?_, _, p, u, ?_, ownsRow_setCell_below hvW (by simp) _, ownsRow_setCell_below huW (by simp) _, hp⟩, (Fw.below hB (by omega)).trans (Fs.set b w' 2 _).fw⟩
   ·rw [Below.heap_setCell _ _ _ _ (by simp; omega)];exact hB.block k (by omega)
   ·have := (hB.block b hbl).trans hb;simp [World.setCell, Array.getElem?_modify, this]
end
section
open Go.RowKit Go.Sort
structure MayN (F : Fo) (p : Nat) : Prop where
 k0 : 1 <= (Ag F p).1.kind
 k32 : (Ag F p).1.kind <= 32
 num : Bk (Ag F p).1.kind (Ag F p).1.num = true
 mx : (Ag F p).1.num <= 9223372036854775807
 txl : (Ag F p).1.text.length <= 100000
 ask : ∃ ks : List Nat, ks.length = (D4 (Ag F p).2 (p + 1)).length ∧ Hl (Ag F p).1.kind (Ag F p).1.num ks = true
 x : (Ag F p).1.kind ≠ 23 -> (Ag F p).1.text ≠ [10]
 at_ : L3 (Ag F p).1 ≠ [10]
 k14 : ∀ j, j < (D4 (Ag F p).2 (p + 1)).length -> ¬ ((Ag F p).1.kind = 4 ∧ j = (Ag F p).1.num.toNat ∧ (Ag F (pk (D4 (Ag F p).2 (p + 1)) j)).1.kind = 14) -> (Ag F (pk (D4 (Ag F p).2 (p + 1)) j)).1.kind ≠ 14
 sg : (Ag F p).1.kind = 30 ∨ (Ag F p).1.kind = 31 -> (Ag F p).1.num ∈ sgE.map (·.1)
 one : (Ag F p).1.kind = 1 -> p = 0
structure Fit (E : Env) (F : Fo) : Prop where
 n : E.n = F.cnt
 nd : ∀ p, p < F.cnt -> ∃ ln cl s, nd E.l p = ⟨(Ag F p).1.kind, ln, cl, s, (Ag F p).1.num, bs (Ag F p).1.text⟩
 ok : ∀ p, p < F.cnt -> Ok (sz E.l) E.n p
 kids : ∀ p, p < F.cnt -> A7 (sz E.l) p = D4 (Ag F p).2 (p + 1)
 may : ∀ p, p < F.cnt -> MayN F p
theorem c1m {F : Fo} {ps : List Nat} {q : Nat} (h : q ∈ ps) : wk F q <= Jk F ps := by
 induction ps with
 | nil => cases h
 | cons x r ih =>
  simp only [Jk, List.map_cons, List.sum_cons] at ih ⊢;rcases List.mem_cons.1 h with rfl | h
  ·omega
  ·have := ih h; omega
theorem b4y {F : Fo} {B t p : Nat} (hp : p < F.cnt) (hm : MayN F p) (hb : t + (Ag F p).2.cnt + 1 <= B) : a60 F B t (Ag F p).1 (D4 (Ag F p).2 (p + 1)) := fun j hj hn => by
 have hq := a3y hj;obtain ⟨h1, h2⟩ := kid_lt hp hq;have hw := c1m (F := F) hq;rw [Q5 (I1 hp), wk] at hw;refine ⟨by omega, h2, hm.k14 j hj hn, ?_⟩;have : E9 t (Ag F p).1 <= t + 1 := by unfold E9; split <;> omega
 omega
theorem Q7 {E : Env} {F : Fo} (hF : Fit E F) {B t : Nat} {w : World} {b : Nat} {X : List Pc} {out : List UInt8} (hW : Wr w b E X t out) (hX : X.length <= 80000000) {p : Nat} (hp : p < F.cnt) (hn : F.cnt <= 400000) (h14 : (Ag F p).1.kind ≠ 14) (h1 : p = 0 -> t = 0) (hb : t + (Ag F p).2.cnt + 1 <= B) (s : ByteArray) (k : Nat) (d : Int) (h0 : 0 < p ∨ k = 0) :
  ∃ Q m, Pn F B t Q (brk k (txt F p t)) m ∧ (m < if k = 0 then wk F p - 5 else wk F p - 2) ∧ Calls prog 47 #[pR b, pcV s p k d] w fun e w' => e = .returned (.tuple #[]) ∧ Wr w' b E (X ++ Q.reverse) t out ∧ Fw b w w' := by
 have hM := hF.may p hp;obtain ⟨ln, cl, sz0, hN⟩ := hF.nd p hp;have hpE : p < E.n := by rw [hF.n]; exact hp
 have hlv : b4v (nd E.l p).kind (nd E.l p).num = lvl (txt F p t).1 := by rw [hN]; exact (c2f _).symm
 have hs : (nd E.l p).kind = 30 ∨ (nd E.l p).kind = 31 -> (nd E.l p).num ∈ sgE.map (·.1) := by rw [hN]; exact hM.sg
 by_cases hlt : lvl (txt F p t).1 < k
 ·have hp0 : 0 < p := by rcases h0 with h | h <;> omega
  have hk : Kid F B t p := ⟨hp0, hp, h14, hb⟩;have P := ((Pn.txt (F := F) (B := B) (t := t) (by omega) (s := [40]) (by decide)).app (Pn.node hk)).app (Pn.txt (by omega) (s := [41]) (by decide));refine ⟨_, _, by rw [brk, if_pos hlt]; exact P, ?_, Z5 hW hX hpE s k _ d hlv hs hlt rfl⟩;rw [if_neg (by omega)];unfold wk; omega
 ·obtain ⟨ks, hks, hask⟩ := hM.ask;have hS : F9 (E9 t (Ag F p).1) (Ag F p).2 = (D4 (Ag F p).2 (p + 1)).map (tx F (E9 t (Ag F p).1)) := M9 hp _;have hT : (txt F p t).2 = Jw t (Ag F p).1 ((D4 (Ag F p).2 (p + 1)).map (tx F (E9 t (Ag F p).1))) := by rw [<- hS]; rfl
  have hmp : (D4 (Ag F p).2 (p + 1)).length <= F.cnt := by
   have : ∀ G : Fo, ∀ q, (D4 G q).length <= G.cnt := fun G => by
    induction G with
    | nil => intro q; simp [D4]
    | cons i a r _ ih => intro q; simp [D4, Fo.cnt]; have := ih (q + 1 + a.cnt); omega
   have h2 := this (Ag F p).2 (p + 1);have := J6 hp;omega
  have P := Ut (F := F) (B := B) (t := t) (i := (Ag F p).1) (ps := D4 (Ag F p).2 (p + 1)) (by omega) (fun e => h1 (hM.one e)) hM.k0 hM.k32 h14 hM.x hM.at_ hks hask (b4y hp hM hb) (nb := decide ((nd E.l (pk (D4 (Ag F p).2 (p + 1)) (Ag F p).1.num.toNat)).kind = 14)) (by
   by_cases hj : (Ag F p).1.num.toNat < (D4 (Ag F p).2 (p + 1)).length
   ·obtain ⟨_, _, _, h3⟩ := hF.nd _ (kid_lt hp (a3y hj)).2;rw [h3]
   ·have e : pk (D4 (Ag F p).2 (p + 1)) (Ag F p).1.num.toNat = 0 := by unfold pk; rw [List.getD_eq_getElem?_getD, List.getElem?_eq_none (by omega)]; rfl
    obtain ⟨_, _, _, h3⟩ := hF.nd 0 (by omega)
    rw [e, h3])
  rw [Q5 (I1 hp)] at P;refine ⟨_, _, by rw [brk, if_neg hlt, hT]; exact P, by unfold wk; split <;> omega, ?_⟩;refine Z4 hW hX hpE s k _ d hlv hs hlt (Nat.le_trans (Xn F _) (Nat.le_trans P.wt (by have := J6 hp; omega))) (zz fun V hV => ?_);have := Ww hV hX hpE hN hM.k0 h14 hM.k32 (by have := hF.ok p hp; exact this) (hF.kids p hp) (fun q hq => by rw [hF.n]; exact (kid_lt hp hq).2) hM.num hM.mx (by rw [Ib]; exact hM.txl) hks hask
  rwa [B9] at this
end
section
open Go.RowKit Go.Sort
theorem b6s {x : Nat} (h : x <= 8000012) : wrap64 (x : Int) = x := by unfold wrap64; omega
theorem b6q {x : Nat} (h : x <= 8000012) : IntKind.i64.wrap (x : Int) = x := by rw [IntKind.wrap_i64]; omega
theorem b6r {x : Nat} (h : x <= 8000012) : IntKind.i64.wrap ((x : Int) + 1 - 1) = x := by rw [IntKind.wrap_i64]; omega
theorem b3s {x c : Nat} (h : x + 1 <= 20 * c + 12) (hn : c <= 400000) : x <= 8000012 := by omega
def c1l (E : Env) (F : Fo) (B : Nat) (S : List UInt8) (b : Nat) (V : World) (wr : World) : Prop :=
 ∃ X t out, Wr wr b E X (t : Nat) out ∧ St F B S X t out ∧ Fw b V wr
theorem b40 {w : World} {E : Env} {F : Fo} (hF : Hid (Fit E F)) (hmb : E.mb = w.heap.size) (hrow : Hid (Row w E.a E.l)) (hlen : E.l.length = E.n) (hn : F.cnt <= 400000) (hlow : ∀ g o, E.a = some ⟨g, o, none⟩ -> g < w.heap.size) :
  Wr ((w.alloc (.map sgM 15)).alloc (.cells #[.slice E.a E.n E.cap, .map (some w.heap.size), .slice none 0 0, .int .i64 0, .pointer none, .slice none 0 0] 68)) (w.heap.size + 1) E [] (0 : Nat) [] := by
 refine ⟨⟨fun i hi => ?_, hlen, by rw [hF.out.n]; omega, fun g o e => by have := hlow g o e; omega, by omega, ?_⟩, .slice none 0 0, .pointer none, .slice none 0 0, ?_, World.ownsRow_nil _ _ _ _, World.ownsRow_nil _ _ _ _, .inl rfl⟩
 ·obtain ⟨g, o, h1, h2, h3⟩ := hrow.out i hi;have hg := hlow g o h1;refine ⟨g, o, h1, h2.of_heap ?_, h3⟩;rw [heap_alloc_old _ _ (by simp; omega), heap_alloc_old _ _ hg]
 ·rw [hmb, heap_alloc_old _ _ (by simp)];exact heap_alloc_new w _
 ·rw [hmb];have := heap_alloc_new (w.alloc (.map sgM 15)) (.cells #[.slice E.a E.n E.cap, .map (some w.heap.size), .slice none 0 0, .int .i64 0, .pointer none, .slice none 0 0] 68);simpa using this
theorem b4d {w : World} {b : Nat} {E : Env} {X : List Pc} {t : Int} {out : List UInt8} {v : Value} (h : ∀ w', Below w.heap.size w w' -> Wr (w'.setCell ⟨b, 2, none⟩ v) b E X t out ∧ Fw b w (w'.setCell ⟨b, 2, none⟩ v)) (hb : b < w.heap.size) (O : Obj) :
  Wr ((w.setCell ⟨b, 2, none⟩ v).alloc O) b E X t out ∧ Fw b w ((w.setCell ⟨b, 2, none⟩ v).alloc O) := by
 obtain ⟨h1, h2⟩ := h w (Below.refl _ _);exact ⟨h1.carry (Aa _ _), h2.trans (Fw.below (Aa _ _) (by simp; omega))⟩
theorem a4f {E : Env} {F : Fo} (hF : Fit E F) {B t : Nat} (hn : F.cnt <= 400000) {S : List UInt8} {X : List Pc} {pc : Pc} {out : List UInt8} (hst : St F B S (X ++ [pc]) t out) (hpl : 0 < pc.plc) {W : World} {b : Nat} (hW : Wr W b E X (t : Nat) out) :
  ∃ Q : List Pc, (St F B S (X ++ Q.reverse) t out ∧ wts F (X ++ Q.reverse) < wts F (X ++ [pc])) ∧ Calls prog 47 #[pR b, .agg #[.string (bs pc.text), .int .i64 pc.plc, .int .i64 pc.ask, .int .i64 pc.tabs]] W fun e w' => e = .returned (.tuple #[]) ∧ Wr w' b E (X ++ Q.reverse) t out ∧ Fw b W w' := by
 have hok := hst.ok;simp only [List.reverse_append, List.reverse_cons, List.reverse_nil, List.nil_append, List.singleton_append] at hok;obtain ⟨q1, q2, q3, q4⟩ := hok.1 hpl;have hXl := Xn F (X ++ [pc]);have hwt := hst.wt;rw [List.length_append] at hXl;obtain ⟨Q, m, hP, hm, hC⟩ := Q7 hF (B := B) (t := t) hW (by omega) q1 hn q2 (fun e => absurd e (by omega)) (by omega) (bs pc.text) pc.ask pc.tabs (.inl hpl);refine ⟨Q, hst.node hpl (m := m) ?_ ?_, hC⟩
 ·unfold a8z;rw [if_pos hpl];exact hP
 ·unfold wtP;rw [if_pos hpl];exact hm
theorem W2 {w : World} {E : Env} {F : Fo} {B : Nat} {S : List UInt8} (hF : Hid (Fit E F)) (hmb : E.mb = w.heap.size) (hrow : Hid (Row w E.a E.l)) (hlen : E.l.length = E.n) (hpos : 0 < F.cnt) (hn : F.cnt <= 400000) (hB : F.cnt <= B) (hlow : ∀ g o, E.a = some ⟨g, o, none⟩ -> g < w.heap.size)
  (h14 : (Ag F 0).1.kind ≠ 14) (hS : S = (txt F 0 0).2) (hSl : S.length + B <= 100000000) :
  Calls prog 24 #[.slice E.a E.n E.cap] w fun e w' => e = .returned (.string (bs S)) ∧ Below w.heap.size w w' := by
 go_enter func24, ntmps24;go_wp2_with fail;refine (a2p w).mono ?_;rintro e w1 ⟨rfl, rfl⟩;go_wp2_with fail;have h0 := b40 hF hmb hrow hlen hn hlow;have hV : Fw (w.heap.size + 1) (w.alloc (.map sgM 15)) ((w.alloc (.map sgM 15)).alloc (.cells #[.slice E.a E.n E.cap, .map (some w.heap.size), .slice none 0 0, .int .i64 0, .pointer none, .slice none 0 0] 68)) := Fw.below (Aa _ _) (by simp);obtain ⟨b, hb⟩ : ∃ b, b = w.heap.size + 1 := ⟨_, rfl⟩;rw [<- hb] at h0 hV;rw [<- hb];replace hb := zz hb;generalize ((w.alloc (.map sgM 15)).alloc (.cells #[.slice E.a E.n E.cap, .map (some w.heap.size), .slice none 0 0, .int .i64 0, .pointer none, .slice none 0 0] 68)) = W at *;refine (Lk 0 _).mono ?_;rintro e w1 ⟨rfl, hb1⟩;have h1 := h0.carry hb1;obtain ⟨Q, m, hP, hm, hC⟩ := Q7 hF.out (B := B) (t := 0) h1 (by simp) hpos hn h14 (fun _ => rfl) (by have := J6 hpos; omega) { data := #[] } 0 0 (.inr rfl);have hf1 := hV.trans (Fw.below hb1 (Nat.le_of_lt h0.lt))
 have hL0 : St F B S Q.reverse 0 [] := by
  have e1 : brk 0 (txt F 0 0) = S := by rw [Tf, hS]
  refine ⟨?_, ?_, ?_, Nat.zero_le _⟩
  ·rw [List.reverse_reverse, List.nil_append]; exact hP.out.trans e1
  ·rw [List.reverse_reverse]; exact hP.ok
  ·have := hP.wt;have hk : m < wk F 0 - 5 := by simpa using hm
   rw [a1w];unfold wk at hk;have := J6 hpos;omega
 have HC : Hid (Calls prog 47 #[pR b, pcV { data := #[] } 0 0 0] w1 fun e w' => e = .returned (.tuple #[]) ∧ Wr w' b E ([] ++ Q.reverse) (0 : Nat) [] ∧ Fw b w1 w') := zz hC;have HL0 := zz hL0;have HF1 := zz hf1;replace hS := zz hS;clear hC hL0 hf1 h1 h0 hV hb1 hP hm hrow;go_wp2_with fail;refine HC.out.mono ?_;rintro e w2 ⟨rfl, hw2, hf2⟩;have HR : Hid (c1l E F B S b (w.alloc (.map sgM 15)) w2) := zz ⟨Q.reverse, 0, [], by simpa using hw2, HL0.out, HF1.out.trans hf2⟩;clear hw2 hf2 HC HL0 HF1;clear w1 W Q;go_wp2_with fail;clear m
 go_loopw [4] (fun _ wr => c1l E F B S b (w.alloc (.map sgM 15)) wr) (fun _ wr => mW F b E wr)
 case atStart => exact HR.out
 case round =>
  clear HR;obtain ⟨X, t, out, hw, hst, hf⟩ := hrel;have HF := zz hf;rcases List.eq_nil_or_concat X with rfl | ⟨X', pc, hX⟩
  ·obtain ⟨a, cap, c2, -⟩ := hw.left;simp only [List.length_nil] at c2;have HW := zz hw;have ho : out = S := by simpa [Ym] using hst.out
   subst ho;clear hf hst hw;go_wp2_with fail;refine (b3l HW.out).mono ?_;rintro e w3 ⟨rfl, hb3⟩;go_wp2_with fail;refine bodyPost_ret (v := .string (bs out)) (by simp [results, results24, go_sem]) rfl ⟨rfl, ?_⟩;have hbb := hb.out;have hF1 := HF.out;refine (Ab (Aa w (.map sgM 15)) (show Below (w.alloc (.map sgM 15)).heap.size (w.alloc (.map sgM 15)) wr from ⟨hF1.os, hF1.tape, hF1.output, hF1.size, fun k hk => hF1.low k (by simp at hk; omega)⟩)).trans ?_;exact ⟨hb3.os, hb3.tape, hb3.output, hb3.size, fun k hk => hb3.block k (by omega)⟩
  ·rw [List.concat_eq_append] at hX;subst hX;obtain ⟨g, cap, c2, hcap, hgb, hgl, d0, d1, d2, d3, hpop⟩ := b6u hw;have hMW := b4r (F := F) hw;have hbl := hw.lt;have fz2 := hw.cells.2.2.2;have HST := zz hst;have HPOP := zz hpop;have HMW := zz hMW;have hXp : (0 : Int) < ((X'.length + 1 : Nat) : Int) := by omega
   have hXl : X'.length <= 8000012 := b3s (show X'.length + [pc].length <= _ from List.length_append ▸ Nat.le_trans (Xn F _) hst.wt) hn;have e1 : IntKind.i64.wrap ((X'.length : Int) + 1 - 1) = X'.length := b6r hXl;have e2 : IntKind.i64.wrap (X'.length : Int) = X'.length := b6q hXl;have e3 : wrap64 (X'.length : Int) = X'.length := b6s hXl;clear hXl;have i1 : (X'.length : Int) < (X'.length : Int) + 1 := Int.lt_succ _;have i2 : (X'.length : Int) <= cap := Int.ofNat_le.2 (Nat.le_of_succ_le hcap);obtain ⟨hW2, hF2⟩ := b4d HPOP.out hbl (.cells #[.string (bs pc.text), .int .i64 pc.plc, .int .i64 pc.ask, .int .i64 pc.tabs] 71);by_cases hpl : 0 < pc.plc
   ·have hpl' : (0 : Int) < pc.plc := by omega
    obtain ⟨Q, hst2, hC⟩ := a4f hF.out hn hst hpl hW2;have HC := zz hC;have HST2 := zz hst2;have HF2 := zz (hf.trans hF2);clear hst hpop hMW hw hf hC hst2 hW2 hF2 HST HPOP HF;go_wp2_with fail;refine HC.out.mono ?_;rintro e w3 ⟨rfl, hw3, hf3⟩;have HW3 := zz hw3;have HR : Hid (c1l E F B S b (w.alloc (.map sgM 15)) w3) := zz ⟨_, t, out, hw3, HST2.out.1, HF2.out.trans hf3⟩;clear hw3 hf3 HC HF2 c2 d0 d1 d2 d3 fz2 e1 e2 e3 i1 i2 hXp;go_wp2_with fail
    go_roundw
    case rel => exact HR.out
    case measure =>
     have := HST2.out.2;rw [b4r HW3.out, HMW.out];exact this
   ·have hpl' : ¬ (0 : Int) < pc.plc := by omega
    obtain ⟨T, hT, hTB, hol, hst2, hlt⟩ := hst.text (by omega : pc.plc = 0);have HC := zz (a1z hW2 (bs pc.text) pc.plc pc.ask pc.tabs T hT (by omega) (by rw [Ib]; omega));have HST2 := zz hst2;have HLT := zz hlt;have HF2 := zz (hf.trans hF2);clear hst hpop hMW hw hf hst2 hW2 hF2 HST HPOP HF hT hTB hol hlt;go_wp2_with fail;refine HC.out.mono ?_;rintro e w3 ⟨rfl, hw3, hf3⟩;rw [B9] at hw3;have HW3 := zz hw3;have HR : Hid (c1l E F B S b (w.alloc (.map sgM 15)) w3) := zz ⟨_, T, _, hw3, HST2.out, HF2.out.trans hf3⟩;clear hw3 hf3 HC HF2 HST2 c2 d0 d1 d2 d3 fz2 e1 e2 e3 i1 i2 hXp;go_wp2_with fail
    go_roundw
    case rel => exact HR.out
    case measure =>
     have := HLT.out;rw [b4r HW3.out, HMW.out];exact this
end
section
open Go.RowKit Go.Sort
def a6z (w : World) (a : Option Addr) : Prop := ∀ g o, a = some ⟨g, o, none⟩ -> g < w.heap.size
theorem a6z.carry {w w' : World} {a : Option Addr} (h : a6z w a) (hb : Below w.heap.size w w') : a6z w' a := fun g o e => by
 have := h g o e;have := hb.size;omega
theorem Rh {w : World} {a : Option Addr} {n cap : Nat} {l : List Nd} {F : Fo} {S : List UInt8} (hF : ∀ mb, Fit ⟨a, n, cap, l, mb⟩ F) (hrow : Row w a l) (hlen : l.length = n) (hpos : 0 < F.cnt) (hn : F.cnt <= 400000) (hlow : a6z w a)
  (h14 : (Ag F 0).1.kind ≠ 14) (hS : S = (txt F 0 0).2) (hSl : S.length + F.cnt <= 100000000) :
  Calls prog 24 #[.slice a n cap] w fun e w' => e = .returned (.string (bs S)) ∧ Below w.heap.size w w' :=
 W2 (E := ⟨a, n, cap, l, w.heap.size⟩) (B := F.cnt) (zz (hF _)) rfl (zz hrow) hlen hpos hn (Nat.le_refl _) hlow h14 hS hSl
theorem a0t {w : World} {a : Option Addr} {n cap : Nat} {l : List Nd} (hlen : l.length = n) (hl : n <= 1000000) (hrow : Row w a l) (hm : Rq l = false) :
  Calls prog 10 #[.slice a n cap] w fun e w' => e = .returned (.tuple #[.string (bs []), .int .i64 1]) ∧ Below w.heap.size w w' := by
 have H := zz (Xf a n cap l w hlen hl hrow false hm);clear hlen hrow hm;go_enter func10, ntmps10;go_wp2_with fail;refine H.out.mono ?_;rintro e w1 ⟨rfl, hb1⟩;replace hb1 := zz hb1;go_wp2_with fail;exact bodyPost_ret (v := .tuple #[.string (bs []), .int .i64 1]) (by simp [results, results10, go_sem, bs]) rfl ⟨rfl, hb1.out⟩
theorem Wx {w : World} {a : Option Addr} {n cap : Nat} {l : List Nd} {F : Fo} {S : List UInt8} (hF : ∀ mb, Fit ⟨a, n, cap, l, mb⟩ F) (hrow : Row w a l) (hlen : l.length = n) (hpos : 0 < F.cnt) (hn : F.cnt <= 400000) (hlow : a6z w a) (hl : n <= 1000000)
  (h14 : (Ag F 0).1.kind ≠ 14) (hS : S = (txt F 0 0).2) (hSl : S.length + F.cnt <= 100000000) (hm : Rq l = true) :
  Calls prog 10 #[.slice a n cap] w fun e w' => e = .returned (.tuple #[.string (bs S), .int .i64 0]) ∧ Below w.heap.size w w' := by
 have H := zz (Xf a n cap l w hlen hl hrow true hm);have P : Hid (∀ w', Below w.heap.size w w' -> Calls prog 24 #[.slice a n cap] w' fun e w'' => e = .returned (.string (bs S)) ∧ Below w'.heap.size w' w'') := zz fun w' hb => Rh hF (hrow.carry hb) hlen hpos hn (hlow.carry hb) h14 hS hSl
 clear hlen hrow hm hF hpos hn hlow h14 hS hSl;go_enter func10, ntmps10;go_wp2_with fail;refine H.out.mono ?_;rintro e w1 ⟨rfl, hb1⟩;replace hb1 := zz hb1;go_wp2_with fail;refine (P.out w1 hb1.out).mono ?_;rintro e w2 ⟨rfl, hb2⟩;replace hb2 := zz (Ab hb1.out hb2);go_wp2_with fail;exact bodyPost_ret (v := .tuple #[.string (bs S), .int .i64 0]) (by simp [results, results10, go_sem]) rfl ⟨rfl, hb2.out⟩
end
section
open Go.RowKit Go.Sort
theorem b28 {k : Nat} {t : List UInt8} (h : Bc k t = true) (hk : k ≠ 23) : t ≠ [10] := by
 intro e;subst e;have g : Ew [10] = false := by decide
 have n : Ed [10] = false := by decide
 unfold Bc at h;rw [g, n, if_neg hk] at h;by_cases h1 : k = 2 ∨ k = 19
 ·rw [if_pos h1] at h; cases h
 ·rw [if_neg h1] at h;by_cases h2 : k = 3 ∨ k = 5 ∨ k = 4 ∨ k = 7 ∨ k = 26 ∨ k = 27 ∨ k = 29
  ·rw [if_pos h2] at h; cases h
  ·rw [if_neg h2] at h; cases h
theorem b2f (n : Nat) (r : List UInt8) : Nm.dec n ++ r ≠ [10] := fun e => by
 have h1 := Nm.dec_all n;have h2 := Nm.dec_ne n
 cases hd : Nm.dec n with
 | nil => exact h2 hd
 | cons c l =>
  rw [hd] at h1 e;rw [List.all_cons, Bool.and_eq_true] at h1;have : c = 10 := by simpa using congrArg (fun x => x.headD 0) e
  subst this;exact absurd h1.1 (by decide)
theorem b58 {i : Inf} (h : i.kind ≠ 23 -> i.text ≠ [10]) : L3 i ≠ [10] := by
 unfold L3;by_cases h1 : i.kind = 21
 ·rw [if_pos h1]; simpa using b2f i.num.toNat []
 ·rw [if_neg h1];by_cases h2 : i.kind = 22
  ·rw [if_pos h2]; exact b2f _ _
  ·rw [if_neg h2];by_cases h3 : i.kind = 23
   ·rw [if_pos h3]; intro e; cases e
   ·rw [if_neg h3];by_cases h4 : i.kind = 24
    ·rw [if_pos h4]; split <;> decide
    ·rw [if_neg h4];by_cases h5 : i.kind = 25
     ·rw [if_pos h5]; decide
     ·rw [if_neg h5]; exact h h3
theorem b9z {S : Nat -> Int} {n : Nat} (h : Right S n) {p : Nat} (h0 : 0 < p) (hp : p < n) : ∃ q, q < n ∧ p ∈ A7 S q := by
 have H : ∀ d j, p - j <= d -> j < p -> (p : Int) <= j + S j -> ∃ q, q < n ∧ p ∈ A7 S q := by
  intro d
  induction d with
  | zero => intro j h1 h2; omega
  | succ d ih =>
   intro j h1 h2 h3;have hk := Db (h.ok j (by omega));have hl := (h.ok j (by omega)).low;obtain ⟨x, hx, hx1, hx2⟩ := Hi (Nat.le_refl _) hk p (by omega) (by omega);by_cases e : x = p
   ·subst e; exact ⟨j, by omega, hx⟩
   ·have := F7 (Nat.le_refl _) hk x hx;exact ih x (by omega) (by omega) hx2
 exact H p 0 (by omega) h0 (by have := h.all; omega)
def a69 (l : List Nd) (p : Nat) : Prop := Bc (nd l p).kind (nd l p).text.data.toList = true ∧ Bk (nd l p).kind (nd l p).num = true ∧ Hl (nd l p).kind (nd l p).num ((A7 (sz l) p).map (Ai l)) = true
theorem Pq {l : List Nd} (hm : Rq l = true) : Right (sz l) l.length ∧ (nd l 0).kind = 1 ∧ ∀ p, p < l.length -> a69 l p := by
 unfold Rq at hm;rw [Bool.and_eq_true, Bool.and_eq_true, decide_eq_true_eq] at hm;obtain ⟨⟨hr, h1⟩, hall⟩ := hm;refine ⟨Kt.1 hr, h1, fun p hp => ?_⟩;have := List.all_eq_true.1 hall p (List.mem_range.2 hp);rw [Bool.and_eq_true, C3, Bool.and_eq_true, Kg] at this;exact ⟨this.1.1, this.1.2, this.2⟩
theorem a90 {l : List Nd} (A : ∀ p, p < l.length -> a69 l p) {p : Nat} (hp : p < l.length) {j : Nat} (hj : j < (A7 (sz l) p).length) : Qy (nd l p).kind (nd l p).num j (nd l ((A7 (sz l) p).getD j 0)).kind := by
 have := b1n (A p hp).2.2 (j := j) (by simpa using hj);rw [List.getD_eq_getElem?_getD, List.getElem?_map, List.getElem?_eq_getElem hj] at this;rw [List.getD_eq_getElem?_getD, List.getElem?_eq_getElem hj];exact this
theorem a5m {l : List Nd} (hR : Right (sz l) l.length) (h0 : 1 <= (nd l 0).kind ∧ (nd l 0).kind <= 32) (A : ∀ p, p < l.length -> a69 l p) (hwf : ∀ i, i < l.length -> (nd l i).wf) (ht : ∀ i, i < l.length -> (nd l i).text.size <= 100000) (a : Option Addr) (cap mb : Nat) : Fit ⟨a, l.length, cap, l, mb⟩ (Ie l) := by
 obtain ⟨hc, hall2⟩ := Gu hR;have K := fun p hp j hj => a90 A (p := p) hp (j := j) hj
 have KD : ∀ p, 0 < p -> p < l.length -> 2 <= (nd l p).kind ∧ (nd l p).kind <= 32 := fun p h0 hp => by
  obtain ⟨q, hq, hk⟩ := b9z hR h0 hp;obtain ⟨j, hj, e⟩ := List.getElem_of_mem hk;have := K q hq j hj;rw [List.getD_eq_getElem?_getD, List.getElem?_eq_getElem hj] at this;have this : Qy (nd l q).kind (nd l q).num j (nd l (A7 (sz l) q)[j]).kind := this;rw [e] at this;exact ⟨this.1, this.2.1⟩
 refine ⟨hc.symm, fun p hp => ?_, fun p hp => hR.ok p (hc ▸ hp), fun p hp => (hall2 p (hc ▸ hp)).2.2, fun p hp => ?_⟩
 ·have hp' : p < l.length := hc ▸ hp;rw [(hall2 p hp').1];exact ⟨_, _, _, by simp only [Gf]; rw [Ry]⟩
 ·have hp' : p < l.length := hc ▸ hp;obtain ⟨e1, e2, e3⟩ := hall2 p hp';obtain ⟨a1, a2, a3⟩ := A p hp';have hx : (Gf (nd l p)).kind ≠ 23 -> (Gf (nd l p)).text ≠ [10] := b28 a1
  have hk : 1 <= (nd l p).kind ∧ (nd l p).kind <= 32 := by
   by_cases h00 : p = 0
   ·subst h00;exact h0
   ·have := KD p (by omega) hp'; omega
  constructor
  ·rw [e1]; exact hk.1
  ·rw [e1]; exact hk.2
  ·rw [e1]; exact a2
  ·rw [e1]; exact (hwf p hp').num.2
  ·rw [e1];have := ht p hp';rw [<- ByteArray.size_data, <- Array.length_toList] at this;exact this
  ·rw [e1, <- e3];exact ⟨_, by simp, a3⟩
  ·rw [e1]; exact hx
  ·rw [e1]; exact b58 hx
  ·rw [e1, <- e3];intro j hj hn
   have hq : pk (A7 (sz l) p) j < l.length := by
    have := kid_lt (F := Ie l) hp (q := pk (A7 (sz l) p) j) (by rw [<- e3]; exact a3y hj);omega
   have e4 := (hall2 _ hq).1;rw [e4] at hn ⊢;exact (K p hp' j hj).2.2 hn
  ·rw [e1];intro hkd;have hkd : (nd l p).kind = 30 ∨ (nd l p).kind = 31 := hkd;show (nd l p).num ∈ _;rcases hkd with hkd | hkd
   ·rw [hkd] at a2;simp [Bk] at a2;rcases a2 with e | e <;> rw [e] <;> simp [sgE]
   ·rw [hkd] at a2;simp [Bk] at a2;generalize (nd l p).num = num at a2;have : num = 1 ∨ num = 2 ∨ num = 3 ∨ num = 4 ∨ num = 5 ∨ num = 6 ∨ num = 7 ∨ num = 8 ∨ num = 9 ∨ num = 10 ∨ num = 11 ∨ num = 14 ∨ num = 15 := by omega
    rcases this with rfl | rfl | rfl | rfl | rfl | rfl | rfl | rfl | rfl | rfl | rfl | rfl | rfl <;> simp [sgE]
  ·rw [e1];intro hkd;have hkd : (nd l p).kind = 1 := hkd;by_cases h0 : p = 0
   ·exact h0
   ·have := KD p (by omega) hp'; omega
theorem b5e {l : List Nd} (hm : Rq l = true) (hwf : ∀ i, i < l.length -> (nd l i).wf) (ht : ∀ i, i < l.length -> (nd l i).text.size <= 100000) (a : Option Addr) (cap mb : Nat) : Fit ⟨a, l.length, cap, l, mb⟩ (Ie l) := by
 obtain ⟨hR, h1, A⟩ := Pq hm;exact a5m hR (by omega) A hwf ht a cap mb
end
section
def Qm (ks : List Tx) : Nat := (ks.map fun x => x.2.length).sum
theorem Cf (x : Tx) (ks : List Tx) : Qm (x :: ks) = x.2.length + Qm ks := by simp [Qm]
theorem I9 (x : Tx) (ks : List Tx) : kth (x :: ks) 0 = x := rfl
theorem Fq (x : Tx) (ks : List Tx) (j : Nat) : kth (x :: ks) (j + 1) = kth ks j := by simp [kth]
theorem M8 (j : Nat) : (kth [] j).2 = [] := rfl
theorem c2g (ks : List Tx) : (kth ks 0).2.length + (kth ks 1).2.length + (kth ks 2).2.length <= Qm ks := by
 match ks with
 | [] => simp [M8]
 | [a] => rw [I9, Fq, Fq, M8, M8, Cf]; simp
 | [a, b] => rw [I9, Fq, Fq, Fq, I9, M8, Cf, Cf]; simp <;> omega
 | a :: b :: c :: r => rw [I9, Fq, Fq, Fq, I9, I9, Cf, Cf, Cf]; omega
theorem a9y (k : Nat) : ∀ ks : List Tx, Qm (ks.take k) + (kth ks k).2.length + (kth ks (k + 1)).2.length <= Qm ks := by
 induction k with
 | zero =>
  intro ks;have := c2g ks;simp [Qm] at this ⊢
  omega
 | succ k ih =>
  intro ks
  cases ks with
  | nil => simp [M8, Qm]
  | cons x r =>
   have := ih r;rw [List.take_succ_cons, Cf, Cf, Fq, Fq];omega
theorem Nj (ks : List Tx) : (Fz ks).length <= Qm ks + ks.length * 2 := by
 cases ks with
 | nil => simp [Fz]
 | cons x r =>
  have : ∀ l : List Tx, (l.flatMap fun y => [44, 32] ++ y.2).length = Qm l + l.length * 2 := fun l => by
   induction l with
   | nil => rfl
   | cons y l ih => rw [List.flatMap_cons, List.length_append, ih, Cf]; simp; omega
  rw [Fz, List.length_append, this, Cf];simp;omega
theorem b19 (n : Nat) : (nl n).length = n + 1 := by simp [nl]
theorem a4s (n : Nat) (ks : List Tx) : (lines n ks).length = Qm ks + ks.length * (n + 2) + n + 3 := by
 have : ∀ l : List Tx, (l.flatMap fun x => nl (n + 1) ++ x.2).length = Qm l + l.length * (n + 2) := fun l => by
  induction l with
  | nil => simp [Qm]
  | cons y l ih => rw [List.flatMap_cons, List.length_append, ih, Cf, List.length_append, b19, List.length_cons, Nat.succ_mul]; omega
 rw [lines, List.length_append, List.length_append, List.length_append, this, b19];simp;omega
theorem a6b (m : Nat) (x : Tx) : (brk m x).length <= x.2.length + 2 := by
 unfold brk;split
 ·simp
 ·omega
theorem b8q (n : Int) : (opS n).1.length <= 2 := by
 unfold opS;simp only [apply_ite Prod.fst, apply_ite List.length];have H : ∀ (p : Prop) [Decidable p] (a b : Nat), a <= 2 -> b <= 2 -> (if p then a else b) <= 2 := fun p _ a b h1 h2 => by split <;> assumption
 repeat (refine H _ _ _ (by decide) ?_)
 decide
theorem b1i (i : Inf) (h : i.num <= 9223372036854775807) : (L3 i).length <= 4 * i.text.length + 30 := by
 have h1 := Nm.dec_len_le i.num.toNat (by omega);have h2 := Th i.text;have h3 := Xl i.text;unfold L3;split
 ·omega
 ·split
  ·rw [List.length_append]; simp; omega
  ·split
   ·omega
   ·split
    ·split <;> simp <;> omega
    ·split
     ·simp <;> omega
     ·omega
theorem a7j (i : Inf) (ks : List Tx) : (b24 i ks).length <= i.text.length + 10 + Qm ks := by
 have := c2g ks;unfold b24;split
 ·simp; omega
 ·split
  ·simp; omega
  ·split
   ·simp; omega
   ·split
    ·simp; omega
    ·split
     ·omega
     ·simp; omega
theorem b0j (ks : List Tx) : (ks.flatMap fun x => x.2 ++ [10]).length = Qm ks + ks.length := by
 induction ks with
 | nil => rfl
 | cons y l ih => rw [List.flatMap_cons, List.length_append, ih, Cf]; simp; omega
theorem a7r (ks : List Tx) : (kth ks 0).2.length + Qm ks.tail <= Qm ks := by
 cases ks with
 | nil => simp [M8, Qm]
 | cons x r => rw [I9, Cf]; simp
theorem a9j (n : Nat) (i : Inf) (ks : List Tx) (h : i.num <= 9223372036854775807) : (Jw n i ks).length <= 4 * i.text.length + 64 + n + Qm ks + ks.length * (n + 4) := by
 have k3 := c2g ks;have kt := a9y i.num.toNat ks;have c1 := Nj ks;have c2 := Nj (ks.take i.num.toNat);have c3 := Nj ks.tail;have cl : (ks.take i.num.toNat).length <= ks.length := by rw [List.length_take]; omega
 have ct : ks.tail.length <= ks.length := by rw [List.length_tail]; omega
 have m1 : ks.length * 2 <= ks.length * (n + 4) := Nat.mul_le_mul_left _ (by omega);have m2 : ks.length * (n + 2) <= ks.length * (n + 4) := Nat.mul_le_mul_left _ (by omega);have m3 : ks.length <= ks.length * (n + 4) := Nat.le_mul_of_pos_right _ (by omega);have hl := a4s n ks;have b0 := fun m => a6b m (kth ks 0)
 have b1 := fun m => a6b m (kth ks 1)
 have o := b8q i.num;have a := b1i i h;have ty := a7j i ks;have ts := a7r ks;have fl := b0j ks;unfold Jw;split
 case h_28 => have := b0 8; simp only [List.length_append, List.length_cons, List.length_nil]; omega
 case h_29 => have := b0 8; simp only [List.length_append, List.length_cons, List.length_nil]; omega
 case h_30 => have := b0 7; simp only [List.length_append, List.length_cons, List.length_nil]; omega
 case h_31 => have := b0 (Fh (opS i.num).2); have := b1 ((opS i.num).2 + 1); simp only [List.length_append, List.length_cons, List.length_nil]; omega
 all_goals first
  | omega
  | (simp only [List.length_append, List.length_cons, List.length_nil]; omega)
  | (simp only [List.length_append, List.length_cons, List.length_nil]; split <;> simp only [List.length_append, List.length_cons, List.length_nil] <;> omega)
def a31 (F : Fo) : Nat := ((Dh F).map fun x => 4 * x.1.text.length + 68).sum
def Nu (F : Fo) : Prop := ∀ x ∈ Dh F, x.1.num <= 9223372036854775807
theorem Tv (F : Fo) : ∀ n, Nu F -> Qm (F9 n F) + (F9 n F).length * (n + 4) <= a31 F + F.cnt * (3 * (n + F.cnt)) := by
 induction F with
 | nil => intro n _; simp [F9, Qm]
 | cons i k r ihk ihr =>
  intro n h;have hi : i.num <= 9223372036854775807 := h (i, k) (by simp [Dh]);have h1 := ihk (E9 n i) (fun x hx => h x (by simp [Dh, hx]));have h2 := ihr n (fun x hx => h x (by simp [Dh, hx]));have h3 := a9j n i (F9 (E9 n i) k) hi;have hd : n <= E9 n i ∧ E9 n i <= n + 1 := by unfold E9; split <;> omega
  have h4 : (F9 (E9 n i) k).length * (n + 4) <= (F9 (E9 n i) k).length * (E9 n i + 4) := Nat.mul_le_mul_left _ (by omega);have e1 : a31 (.cons i k r) = 4 * i.text.length + 68 + (a31 k + a31 r) := by simp [a31, Dh]
  have e2 : k.cnt * (3 * (E9 n i + k.cnt)) <= k.cnt * (3 * (n + (k.cnt + 1 + r.cnt))) := Nat.mul_le_mul_left _ (by omega);have e3 : r.cnt * (3 * (n + r.cnt)) <= r.cnt * (3 * (n + (k.cnt + 1 + r.cnt))) := Nat.mul_le_mul_left _ (by omega);have e4 : (k.cnt + 1 + r.cnt) * (3 * (n + (k.cnt + 1 + r.cnt))) = k.cnt * (3 * (n + (k.cnt + 1 + r.cnt))) + 3 * (n + (k.cnt + 1 + r.cnt)) + r.cnt * (3 * (n + (k.cnt + 1 + r.cnt))) := by rw [Nat.add_mul, Nat.add_mul, Nat.one_mul]
  rw [F9, Cf, List.length_cons, Nat.succ_mul, e1, Fo.cnt, e4];simp only;omega
theorem b25 {F : Fo} (hp : 0 < F.cnt) (h : Nu F) : (txt F 0 0).2.length <= a31 F + F.cnt * (3 * F.cnt) := by
 cases F with
 | nil => simp [Fo.cnt] at hp
 | cons i k r =>
  have := Tv (.cons i k r) 0 h;rw [F9, Cf] at this;simp only [Nat.zero_add] at this;have e : txt (.cons i k r) 0 0 = (i, Jw 0 i (F9 (E9 0 i) k)) := by simp [txt, Ag, Dh]
  rw [e];simp only at this ⊢;omega
end
section
open Go.RowKit Go.Sort
abbrev c3w (g o n cap : Nat) : Value := .slice (some ⟨g, o, none⟩) n cap
def c25 (w : World) (a : Option Addr) (ps : List Nat) : Prop := ∀ i, i < ps.length -> ∃ g o, a = some ⟨g, o, none⟩ ∧ w.cell? ⟨g, o + i, none⟩ = some (.int .i64 (ps.getD i 0 : Nat))
theorem c25.carry {w w' : World} {a : Option Addr} {ps : List Nat} (h : c25 w a ps) (hb : Below w.heap.size w w') : c25 w' a ps := fun i hi => by
 obtain ⟨g, o, h1, h2⟩ := h i hi;exact ⟨g, o, h1, Ac hb h2⟩
end
section
open Go.RowKit Go.Sort
def c22 (w : World) (g o n cap p : Nat) (xs : List Nat) : Prop := ∀ w', Below w.heap.size w w' -> Calls prog 28 #[c3w g o n cap, .int .i64 p] w' (c1k w' xs)
end
section
open Go.RowKit Go.Sort
end
end Go.Proofs.YtoaplbljflhheaaGreat
