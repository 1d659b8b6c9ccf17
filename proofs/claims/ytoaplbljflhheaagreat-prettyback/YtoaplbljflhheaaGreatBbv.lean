/-
 Contracts and plain facts on the way to PrettyBack. Conditions: as each says.
-/
import Derived.Test.YtoaplbljflhheaaGreatBbt
import Derived.Test.YtoaplbljflhheaaGreatBbe
set_option maxHeartbeats 40000000
set_option maxRecDepth 100000
set_option linter.unusedVariables false
set_option linter.unusedSimpArgs false
namespace Go.Proofs.YtoaplbljflhheaaGreat
open _root_.Go.Proofs.Tryz
section
open Go.RowKit Go.Sort
theorem D3.take {b : Nat} {w : World} {a : Option Addr} {ps : List Nat} (h : D3 b w a ps) (k : Nat) : D3 b w a (ps.take k) := fun i hi => by
 simp only [List.length_take] at hi;obtain ⟨g', o', cs, fz, h1, h2, h3, h4⟩ := h i (by omega);exact ⟨g', o', cs, fz, h1, h2, h3, by rw [h4]; simp [List.getD_eq_getElem?_getD, show i < k by omega]⟩
theorem b5b {w : World} {b : Nat} {E : Env} {X : List Pc} {t : Int} {out : List UInt8} (h : Wr w b E X t out) (hX : X.length <= 80000000) (ln cl sz : Int) (tx : ByteArray) {a : Option Addr} {m cap k : Nat} {ps : List Nat} (hm : Hid (ps.length = m)) (hk2 : m = k + 2) (hm2 : m <= 1000000) (hc : m <= cap) (hk : D3 b w a ps)
  {pr pb : Nat} (hpr : Hid (ps.getD k 0 = pr)) (hpb : Hid (ps.getD (k + 1) 0 = pb)) (hpn : pr < E.n) (hkd : (nd E.l pr).kind = 14) :
  Calls prog 152 #[pR b, .agg #[.int .u8 4, .int .i64 ln, .int .i64 cl, .int .i64 sz, .int .i64 (k : Nat), .string tx], .slice a m cap] w (Put b E X t out ([tP [102, 110, 32], tP tx.data.toList, tP [40]] ++ Aw (ps.take k) ++ [tP [41]] ++ [tP [32], nP pb]) w) := by
 have HL := zz (Lv.start h hk #[.int .u8 4, .int .i64 ln, .int .i64 cl, .int .i64 sz, .int .i64 (k : Nat), .string tx] 37 ⟨by decide, by decide⟩);obtain ⟨g0, o0, rfl⟩ := hk.addr (by rw [hm.out]; omega);have hkw : IntKind.i64.wrap ((k : Int) + 1) = ((k + 1 : Nat) : Int) := by rw [IntKind.wrap_i64]; omega
 have hi1 : (k : Int) < m := by omega
 have hi2 : ((k + 1 : Nat) : Int) < m := by omega
 have q0 : _ = some (itv (ps.getD k 0)) := HL.out.kd.cell (i := k) (by rw [hm.out]; omega);have q1 : _ = some (itv (ps.getD (k + 1) 0)) := HL.out.kd.cell (i := k + 1) (by rw [hm.out]; omega);rw [hpr.out] at q0;rw [hpb.out] at q1;clear h hk;go_enter func152, ntmps152;go_wp2_with fail
 go_quiet (fail)
 replace HL := zz (HL.out.more (An _ nq));generalize (w.alloc (.cells #[.int .u8 4, .int .i64 ln, .int .i64 cl, .int .i64 sz, .int .i64 (k : Nat), .string tx] 37)).drewN nq = V0 at *;clear q0 q1;go_wp2_with fail;have e5 := fun D os => cell_regrown (HL.out.cell 5 (v := .string tx) rfl) D os
 refine A5 6 3 [20, 23, 24] [pcV { data := #[102, 110, 32] } 0 0 0, pcV tx 0 0 0, pcV { data := #[40] } 0 0 0] #[.string { data := #[102, 110, 32] }, .int .i64 0, .int .i64 0, .int .i64 0, .string tx, .int .i64 0, .int .i64 0, .int .i64 0, .string { data := #[40] }, .int .i64 0, .int .i64 0, .int .i64 0] [tP [102, 110, 32], tP tx.data.toList, tP [40]] _ (by rfl) (by kernel_rfl) (by kernel_rfl) (by rfl) ?al ?go
 case al =>
  intro a w K hA h;refine Bw rfl rfl ?_;simp [Ca, go_sem] at hA;go_simp;exact h
 case go =>
  simp only [List.take_succ_cons, List.take_zero, List.drop_succ_cons, List.drop_zero]
  repeat (refine Be (fun K hK => ?_); go_simp; first | (refine hK _ ?_; clear hK K) | (apply Exists.intro; refine ⟨fun _ => ?_, hK _ ?_⟩; (first | with_reducible exact Dn _ _ | with_reducible exact Dp _ _ | exact A3 _ _ _ rfl _); clear hK K))
  refine B8 ⟨by simp [Ca, go_sem], ?_⟩;intro g W hbW hl;replace hbW := zz hbW;go_wp2_with (go_at_call 82; refine (Ar (HL.out.wr.carry hbW.out) (k := 3) rfl hl (by simp; omega)).mono ?_; rintro e V1 ⟨rfl, hw2, hf2⟩; replace HL := zz (HL.out.put hbW.out hw2 hf2); clear hw2 hf2 hl hbW; have b4 := HL.out.cell 4 (v := .int .i64 (k : Nat)) rfl; have hi3 : (k : Int) <= cap := by omega);clear e5;go_wp2_with fail;refine (It HL.out.wr (by simp; omega) (m := k) (ps := ps.take k) (zz (by rw [List.length_take, hm.out]; omega)) (by omega) (HL.out.kd.take k)).mono ?_;rintro e V2 ⟨rfl, hw2, hf2⟩;replace HL := zz (HL.out.put (Below.refl _ _) hw2 hf2);clear hw2 hf2;have HT := zz (show (Aw (ps.take k)).length <= 2000000 by have := Hr (ps.take k); simp only [List.length_take] at this; omega);clear b4;have hbW := zz (Below.refl V2.heap.size V2);go_wp2_with fail;refine (Cy _ _).mono ?_;rintro e w1 ⟨rfl, hb1⟩;replace hbW := zz (Ab hbW.out hb1);go_wp2_with fail;refine (Ar (P := [tP [41]]) (k := 1) (HL.out.wr.carry (Ab hbW.out (Aa w1 _))) rfl (LiesP.made (news := #[.string { data := #[41] }, .int .i64 0, .int .i64 0, .int .i64 0]) w1 rfl) (by have := HT.out; simp; omega)).mono ?_;rintro e V3 ⟨rfl, hw2, hf2⟩;replace HL := zz (HL.out.put (Ab hbW.out (Aa w1 _)) hw2 hf2);clear hw2 hf2 hb1 hbW;obtain ⟨g, o, ha, hat, -, -⟩ := HL.out.wr.node hpn;have hc0 := hat.c0;have hw0 := HL.out.wr.cells.1;rw [ha] at hw0;obtain ⟨kr, hkr⟩ : ∃ kr, (nd E.l pr).kind = kr := ⟨_, rfl⟩;rw [hkr] at hc0 hkd;subst hkd;clear ha hat hkr;have hbW := zz (Below.refl V3.heap.size V3);go_wp2_with fail;refine (Cy _ _).mono ?_;rintro e w1 ⟨rfl, hb1⟩;replace hbW := zz (Ab hbW.out hb1);go_wp2_with fail;refine (Lk _ _).mono ?_;rintro e w1 ⟨rfl, hb1⟩;replace hbW := zz (Ab hbW.out hb1);go_wp2_with fail;refine (Ar (P := [tP [32], nP pb]) (k := 2) (HL.out.wr.carry (Ab hbW.out (Aa w1 _))) rfl (LiesP.made (news := #[.string { data := #[32] }, .int .i64 0, .int .i64 0, .int .i64 0, .string { data := #[] }, .int .i64 pb, .int .i64 0, .int .i64 0]) w1 rfl) (by have := HT.out; simp; omega)).mono ?_;rintro e V4 ⟨rfl, hw2, hf2⟩;replace HL := zz (HL.out.put (Ab hbW.out (Aa w1 _)) hw2 hf2);clear hw2 hf2 hb1 hbW;go_wp2_with fail;refine bodyPost_end (v := .tuple #[]) (by simp [results, results152]) rfl ?_;exact HL.out.done (by first | rfl | simp)
theorem b5a {w : World} {b : Nat} {E : Env} {X : List Pc} {t : Int} {out : List UInt8} (h : Wr w b E X t out) (hX : X.length <= 80000000) (ln cl sz : Int) (tx : ByteArray) {a : Option Addr} {m cap k : Nat} {ps : List Nat} (hm : Hid (ps.length = m)) (hk2 : m = k + 2) (hm2 : m <= 1000000) (hc : m <= cap) (hk : D3 b w a ps)
  {pr pb : Nat} (hpr : Hid (ps.getD k 0 = pr)) (hpb : Hid (ps.getD (k + 1) 0 = pb)) (hpn : pr < E.n) (hkd : (nd E.l pr).kind ≠ 14) :
  Calls prog 152 #[pR b, .agg #[.int .u8 4, .int .i64 ln, .int .i64 cl, .int .i64 sz, .int .i64 (k : Nat), .string tx], .slice a m cap] w (Put b E X t out ([tP [102, 110, 32], tP tx.data.toList, tP [40]] ++ Aw (ps.take k) ++ [tP [41]] ++ [tP [58, 32], nP pr] ++ [tP [32], nP pb]) w) := by
 have HL := zz (Lv.start h hk #[.int .u8 4, .int .i64 ln, .int .i64 cl, .int .i64 sz, .int .i64 (k : Nat), .string tx] 37 ⟨by decide, by decide⟩);obtain ⟨g0, o0, rfl⟩ := hk.addr (by rw [hm.out]; omega);have hkw : IntKind.i64.wrap ((k : Int) + 1) = ((k + 1 : Nat) : Int) := by rw [IntKind.wrap_i64]; omega
 have hi1 : (k : Int) < m := by omega
 have hi2 : ((k + 1 : Nat) : Int) < m := by omega
 have q0 : _ = some (itv (ps.getD k 0)) := HL.out.kd.cell (i := k) (by rw [hm.out]; omega);have q1 : _ = some (itv (ps.getD (k + 1) 0)) := HL.out.kd.cell (i := k + 1) (by rw [hm.out]; omega);rw [hpr.out] at q0;rw [hpb.out] at q1;clear h hk;go_enter func152, ntmps152;go_wp2_with fail
 go_quiet (fail)
 replace HL := zz (HL.out.more (An _ nq));generalize (w.alloc (.cells #[.int .u8 4, .int .i64 ln, .int .i64 cl, .int .i64 sz, .int .i64 (k : Nat), .string tx] 37)).drewN nq = V0 at *;clear q0 q1;go_wp2_with fail;have e5 := fun D os => cell_regrown (HL.out.cell 5 (v := .string tx) rfl) D os
 refine A5 6 3 [20, 23, 24] [pcV { data := #[102, 110, 32] } 0 0 0, pcV tx 0 0 0, pcV { data := #[40] } 0 0 0] #[.string { data := #[102, 110, 32] }, .int .i64 0, .int .i64 0, .int .i64 0, .string tx, .int .i64 0, .int .i64 0, .int .i64 0, .string { data := #[40] }, .int .i64 0, .int .i64 0, .int .i64 0] [tP [102, 110, 32], tP tx.data.toList, tP [40]] _ (by rfl) (by kernel_rfl) (by kernel_rfl) (by rfl) ?al ?go
 case al =>
  intro a w K hA h;refine Bw rfl rfl ?_;simp [Ca, go_sem] at hA;go_simp;exact h
 case go =>
  simp only [List.take_succ_cons, List.take_zero, List.drop_succ_cons, List.drop_zero]
  repeat (refine Be (fun K hK => ?_); go_simp; first | (refine hK _ ?_; clear hK K) | (apply Exists.intro; refine ⟨fun _ => ?_, hK _ ?_⟩; (first | with_reducible exact Dn _ _ | with_reducible exact Dp _ _ | exact A3 _ _ _ rfl _); clear hK K))
  refine B8 ⟨by simp [Ca, go_sem], ?_⟩;intro g W hbW hl;replace hbW := zz hbW;go_wp2_with (go_at_call 82; refine (Ar (HL.out.wr.carry hbW.out) (k := 3) rfl hl (by simp; omega)).mono ?_; rintro e V1 ⟨rfl, hw2, hf2⟩; replace HL := zz (HL.out.put hbW.out hw2 hf2); clear hw2 hf2 hl hbW; have b4 := HL.out.cell 4 (v := .int .i64 (k : Nat)) rfl; have hi3 : (k : Int) <= cap := by omega);clear e5;go_wp2_with fail;refine (It HL.out.wr (by simp; omega) (m := k) (ps := ps.take k) (zz (by rw [List.length_take, hm.out]; omega)) (by omega) (HL.out.kd.take k)).mono ?_;rintro e V2 ⟨rfl, hw2, hf2⟩;replace HL := zz (HL.out.put (Below.refl _ _) hw2 hf2);clear hw2 hf2;have HT := zz (show (Aw (ps.take k)).length <= 2000000 by have := Hr (ps.take k); simp only [List.length_take] at this; omega);clear b4;have hbW := zz (Below.refl V2.heap.size V2);go_wp2_with fail;refine (Cy _ _).mono ?_;rintro e w1 ⟨rfl, hb1⟩;replace hbW := zz (Ab hbW.out hb1);go_wp2_with fail;refine (Ar (P := [tP [41]]) (k := 1) (HL.out.wr.carry (Ab hbW.out (Aa w1 _))) rfl (LiesP.made (news := #[.string { data := #[41] }, .int .i64 0, .int .i64 0, .int .i64 0]) w1 rfl) (by have := HT.out; simp; omega)).mono ?_;rintro e V3 ⟨rfl, hw2, hf2⟩;replace HL := zz (HL.out.put (Ab hbW.out (Aa w1 _)) hw2 hf2);clear hw2 hf2 hb1 hbW;obtain ⟨g, o, ha, hat, -, -⟩ := HL.out.wr.node hpn;have hc0 := hat.c0;have hw0 := HL.out.wr.cells.1;rw [ha] at hw0;obtain ⟨kr, hkr⟩ : ∃ kr, (nd E.l pr).kind = kr := ⟨_, rfl⟩;rw [hkr] at hc0 hkd;have hk14 : ((kr : Int) != 14) = true := by rw [bne_iff_ne]; omega
  clear ha hat hkr;have hbW := zz (Below.refl V3.heap.size V3);go_wp2_with fail;refine (Cy _ _).mono ?_;rintro e w1 ⟨rfl, hb1⟩;replace hbW := zz (Ab hbW.out hb1);go_wp2_with fail;refine (Lk _ _).mono ?_;rintro e w1 ⟨rfl, hb1⟩;replace hbW := zz (Ab hbW.out hb1);go_wp2_with fail;refine (Ar (P := [tP [58, 32], nP pr]) (k := 2) (HL.out.wr.carry (Ab hbW.out (Aa w1 _))) rfl (LiesP.made (news := #[.string { data := #[58, 32] }, .int .i64 0, .int .i64 0, .int .i64 0, .string { data := #[] }, .int .i64 pr, .int .i64 0, .int .i64 0]) w1 rfl) (by have := HT.out; simp; omega)).mono ?_;rintro e V4 ⟨rfl, hw2, hf2⟩;replace HL := zz (HL.out.put (Ab hbW.out (Aa w1 _)) hw2 hf2);clear hw2 hf2 hb1 hbW;have hbW := zz (Below.refl V4.heap.size V4);go_wp2_with fail;refine (Cy _ _).mono ?_;rintro e w1 ⟨rfl, hb1⟩;replace hbW := zz (Ab hbW.out hb1);go_wp2_with fail;refine (Lk _ _).mono ?_;rintro e w1 ⟨rfl, hb1⟩;replace hbW := zz (Ab hbW.out hb1);go_wp2_with fail;refine (Ar (P := [tP [32], nP pb]) (k := 2) (HL.out.wr.carry (Ab hbW.out (Aa w1 _))) rfl (LiesP.made (news := #[.string { data := #[32] }, .int .i64 0, .int .i64 0, .int .i64 0, .string { data := #[] }, .int .i64 pb, .int .i64 0, .int .i64 0]) w1 rfl) (by have := HT.out; simp; omega)).mono ?_;rintro e V5 ⟨rfl, hw2, hf2⟩;replace HL := zz (HL.out.put (Ab hbW.out (Aa w1 _)) hw2 hf2);clear hw2 hf2 hb1 hbW;go_wp2_with fail;refine bodyPost_end (v := .tuple #[]) (by simp [results, results152]) rfl ?_;exact HL.out.done (by first | rfl | simp)
end
section
open Go.RowKit Go.Sort
theorem c0r {w : World} {b : Nat} {E : Env} {X : List Pc} {t : Int} {out : List UInt8} (h : Wr w b E X t out) (hX : X.length <= 80000000) (ln cl sz num : Int) (tx : ByteArray) {a : Option Addr} {cap : Nat} {p0 : Nat} (hk : D3 b w a [p0]) :
  Calls prog 115 #[pR b, .agg #[.int .u8 3, .int .i64 ln, .int .i64 cl, .int .i64 sz, .int .i64 num, .string tx], .slice a 1 cap] w (Put b E X t out [tP tx.data.toList, tP [58, 32], nP p0, tP [59]] w) := by
 have HL := zz (Lv.start h hk #[.int .u8 3, .int .i64 ln, .int .i64 cl, .int .i64 sz, .int .i64 num, .string tx] 37 ⟨by decide, by decide⟩);obtain ⟨g0, o0, rfl⟩ := hk.addr (by simp);clear h hk;go_enter func115, ntmps115;go_wp2_with fail;have e5 := fun D os => cell_regrown (HL.out.cell 5 (v := .string tx) rfl) D os
 have k0 := fun D os => cell_regrown (show _ = some (itv p0) from HL.out.kd.cell (i := 0) (by simp)) D os
 simp only [Nat.add_zero] at k0;refine A5 10 4 [43, 44, 48, 49] [pcV tx 0 0 0, pcV { data := #[58, 32] } 0 0 0, pcV { data := #[] } p0 0 0, pcV { data := #[59] } 0 0 0] #[.string tx, .int .i64 0, .int .i64 0, .int .i64 0, .string { data := #[58, 32] }, .int .i64 0, .int .i64 0, .int .i64 0, .string { data := #[] }, .int .i64 p0, .int .i64 0, .int .i64 0, .string { data := #[59] }, .int .i64 0, .int .i64 0, .int .i64 0] [tP tx.data.toList, tP [58, 32], nP p0, tP [59]] _ (by rfl) (by kernel_rfl) (by kernel_rfl) (by rfl) ?al ?go
 case al =>
  intro a w K hA h;refine Bw rfl rfl ?_;simp [Ca, go_sem] at hA;go_simp;exact h
 case go =>
  simp only [List.take_succ_cons, List.take_zero, List.drop_succ_cons, List.drop_zero]
  repeat (refine Be (fun K hK => ?_); go_simp; first | (refine hK _ ?_; clear hK K) | (apply Exists.intro; refine ⟨fun _ => ?_, hK _ ?_⟩; (first | with_reducible exact Dn _ _ | with_reducible exact Dp _ _ | exact A3 _ _ _ rfl _); clear hK K))
  refine B8 ⟨by simp [Ca, go_sem], ?_⟩;intro g W hbW hl;replace hbW := zz hbW;go_wp2_with (go_at_call 82; refine (Ar (HL.out.wr.carry hbW.out) (k := 4) rfl hl (by simp; omega)).mono ?_; rintro e V1 ⟨rfl, hw2, hf2⟩; replace HL := zz (HL.out.put hbW.out hw2 hf2); clear hw2 hf2 hl hbW);go_wp2_with fail;refine bodyPost_end (v := .tuple #[]) (by simp [results, results115]) rfl ?_;exact HL.out.done (by first | rfl | simp)
theorem c0p {w : World} {b : Nat} {E : Env} {X : List Pc} {t : Int} {out : List UInt8} (h : Wr w b E X t out) (hX : X.length <= 80000000) (ln cl sz num : Int) (tx : ByteArray) {a : Option Addr} {cap : Nat} {p0 : Nat} (hk : D3 b w a [p0]) :
  Calls prog 115 #[pR b, .agg #[.int .u8 5, .int .i64 ln, .int .i64 cl, .int .i64 sz, .int .i64 num, .string tx], .slice a 1 cap] w (Put b E X t out [tP tx.data.toList, tP [58, 32], nP p0] w) := by
 have HL := zz (Lv.start h hk #[.int .u8 5, .int .i64 ln, .int .i64 cl, .int .i64 sz, .int .i64 num, .string tx] 37 ⟨by decide, by decide⟩);obtain ⟨g0, o0, rfl⟩ := hk.addr (by simp);clear h hk;go_enter func115, ntmps115;go_wp2_with fail;have e5 := fun D os => cell_regrown (HL.out.cell 5 (v := .string tx) rfl) D os
 have k0 := fun D os => cell_regrown (show _ = some (itv p0) from HL.out.kd.cell (i := 0) (by simp)) D os
 simp only [Nat.add_zero] at k0;refine A5 9 3 [57, 58, 62] [pcV tx 0 0 0, pcV { data := #[58, 32] } 0 0 0, pcV { data := #[] } p0 0 0] #[.string tx, .int .i64 0, .int .i64 0, .int .i64 0, .string { data := #[58, 32] }, .int .i64 0, .int .i64 0, .int .i64 0, .string { data := #[] }, .int .i64 p0, .int .i64 0, .int .i64 0] [tP tx.data.toList, tP [58, 32], nP p0] _ (by rfl) (by kernel_rfl) (by kernel_rfl) (by rfl) ?al ?go
 case al =>
  intro a w K hA h;refine Bw rfl rfl ?_;simp [Ca, go_sem] at hA;go_simp;exact h
 case go =>
  simp only [List.take_succ_cons, List.take_zero, List.drop_succ_cons, List.drop_zero]
  repeat (refine Be (fun K hK => ?_); go_simp; first | (refine hK _ ?_; clear hK K) | (apply Exists.intro; refine ⟨fun _ => ?_, hK _ ?_⟩; (first | with_reducible exact Dn _ _ | with_reducible exact Dp _ _ | exact A3 _ _ _ rfl _); clear hK K))
  refine B8 ⟨by simp [Ca, go_sem], ?_⟩;intro g W hbW hl;replace hbW := zz hbW;go_wp2_with (go_at_call 82; refine (Ar (HL.out.wr.carry hbW.out) (k := 3) rfl hl (by simp; omega)).mono ?_; rintro e V1 ⟨rfl, hw2, hf2⟩; replace HL := zz (HL.out.put hbW.out hw2 hf2); clear hw2 hf2 hl hbW);go_wp2_with fail;refine bodyPost_end (v := .tuple #[]) (by simp [results, results115]) rfl ?_;exact HL.out.done (by first | rfl | simp)
theorem c0o {w : World} {b : Nat} {E : Env} {X : List Pc} {t : Int} {out : List UInt8} (h : Wr w b E X t out) (hX : X.length <= 80000000) (ln cl sz num : Int) (tx : ByteArray) {a : Option Addr} {cap : Nat} {m : Nat} {ps : List Nat} (hm : Hid (ps.length = m)) (hm2 : m <= 1000000) (hk : D3 b w a ps) :
  Calls prog 115 #[pR b, .agg #[.int .u8 6, .int .i64 ln, .int .i64 cl, .int .i64 sz, .int .i64 num, .string tx], .slice a m cap] w (Put b E X t out (Jo ps) w) := by
 have HL := zz (Lv.start h hk #[.int .u8 6, .int .i64 ln, .int .i64 cl, .int .i64 sz, .int .i64 num, .string tx] 37 ⟨by decide, by decide⟩);clear h hk;go_enter func115, ntmps115;go_wp2_with fail;refine (U6 HL.out.wr (by omega) hm hm2 HL.out.kd).mono ?_;rintro e V1 ⟨rfl, hw2, hf2⟩;replace HL := zz (HL.out.put (Below.refl _ _) hw2 hf2);clear hw2 hf2;go_wp2_with fail;refine bodyPost_end (v := .tuple #[]) (by simp [results, results115]) rfl ?_;exact HL.out.done (by first | rfl | simp)
theorem c0s {w : World} {b : Nat} {E : Env} {X : List Pc} {t : Int} {out : List UInt8} (h : Wr w b E X t out) (hX : X.length <= 80000000) (ln cl sz num : Int) (tx : ByteArray) {a : Option Addr} {cap : Nat} {m : Nat} {ps : List Nat} (hm : Hid (ps.length = m)) (hm2 : m <= 1000000) (hk : D3 b w a ps) :
  Calls prog 115 #[pR b, .agg #[.int .u8 2, .int .i64 ln, .int .i64 cl, .int .i64 sz, .int .i64 num, .string tx], .slice a m cap] w (Put b E X t out ([tP [114, 101, 99, 32], tP tx.data.toList, tP [32]] ++ (Jo ps)) w) := by
 have HL := zz (Lv.start h hk #[.int .u8 2, .int .i64 ln, .int .i64 cl, .int .i64 sz, .int .i64 num, .string tx] 37 ⟨by decide, by decide⟩);clear h hk;go_enter func115, ntmps115;go_wp2_with fail;have e5 := fun D os => cell_regrown (HL.out.cell 5 (v := .string tx) rfl) D os
 refine A5 6 3 [28, 31, 32] [pcV { data := #[114, 101, 99, 32] } 0 0 0, pcV tx 0 0 0, pcV { data := #[32] } 0 0 0] #[.string { data := #[114, 101, 99, 32] }, .int .i64 0, .int .i64 0, .int .i64 0, .string tx, .int .i64 0, .int .i64 0, .int .i64 0, .string { data := #[32] }, .int .i64 0, .int .i64 0, .int .i64 0] [tP [114, 101, 99, 32], tP tx.data.toList, tP [32]] _ (by rfl) (by kernel_rfl) (by kernel_rfl) (by rfl) ?al ?go
 case al =>
  intro a w K hA h;refine Bw rfl rfl ?_;simp [Ca, go_sem] at hA;go_simp;exact h
 case go =>
  simp only [List.take_succ_cons, List.take_zero, List.drop_succ_cons, List.drop_zero]
  repeat (refine Be (fun K hK => ?_); go_simp; first | (refine hK _ ?_; clear hK K) | (apply Exists.intro; refine ⟨fun _ => ?_, hK _ ?_⟩; (first | with_reducible exact Dn _ _ | with_reducible exact Dp _ _ | exact A3 _ _ _ rfl _); clear hK K))
  refine B8 ⟨by simp [Ca, go_sem], ?_⟩;intro g W hbW hl;replace hbW := zz hbW;go_wp2_with (go_at_call 82; refine (Ar (HL.out.wr.carry hbW.out) (k := 3) rfl hl (by simp; omega)).mono ?_; rintro e V1 ⟨rfl, hw2, hf2⟩; replace HL := zz (HL.out.put hbW.out hw2 hf2); clear hw2 hf2 hl hbW);go_wp2_with fail;refine (U6 HL.out.wr (by simp; omega) hm hm2 HL.out.kd).mono ?_;rintro e V2 ⟨rfl, hw2, hf2⟩;replace HL := zz (HL.out.put (Below.refl _ _) hw2 hf2);clear hw2 hf2;go_wp2_with fail;refine bodyPost_end (v := .tuple #[]) (by simp [results, results115]) rfl ?_;exact HL.out.done (by first | rfl | simp)
theorem b7l {w : World} {b : Nat} {E : Env} {X : List Pc} {t : Int} {out : List UInt8} (h : Wr w b E X t out) (hX : X.length <= 80000000) (ln cl sz num : Int) (tx : ByteArray) {a : Option Addr} {cap : Nat} {p0 p1 : Nat} (hk : D3 b w a [p0, p1]) :
  Calls prog 116 #[pR b, .agg #[.int .u8 7, .int .i64 ln, .int .i64 cl, .int .i64 sz, .int .i64 num, .string tx], .slice a 2 cap] w (Put b E X t out [tP [118, 97, 114, 32], tP tx.data.toList, tP [58, 32], nP p0, tP [32, 61, 32], nP p1, tP [59]] w) := by
 have HL := zz (Lv.start h hk #[.int .u8 7, .int .i64 ln, .int .i64 cl, .int .i64 sz, .int .i64 num, .string tx] 37 ⟨by decide, by decide⟩);obtain ⟨g0, o0, rfl⟩ := hk.addr (by simp);clear h hk;go_enter func116, ntmps116;go_wp2_with fail;have e5 := fun D os => cell_regrown (HL.out.cell 5 (v := .string tx) rfl) D os
 have k0 := fun D os => cell_regrown (show _ = some (itv p0) from HL.out.kd.cell (i := 0) (by simp)) D os
 have k1 := fun D os => cell_regrown (show _ = some (itv p1) from HL.out.kd.cell (i := 1) (by simp)) D os
 simp only [Nat.add_zero] at k0;refine A5 16 7 [11, 14, 15, 19, 20, 24, 25] [pcV { data := #[118, 97, 114, 32] } 0 0 0, pcV tx 0 0 0, pcV { data := #[58, 32] } 0 0 0, pcV { data := #[] } p0 0 0, pcV { data := #[32, 61, 32] } 0 0 0, pcV { data := #[] } p1 0 0, pcV { data := #[59] } 0 0 0] #[.string { data := #[118, 97, 114, 32] }, .int .i64 0, .int .i64 0, .int .i64 0, .string tx, .int .i64 0, .int .i64 0, .int .i64 0, .string { data := #[58, 32] }, .int .i64 0, .int .i64 0, .int .i64 0, .string { data := #[] }, .int .i64 p0, .int .i64 0, .int .i64 0, .string { data := #[32, 61, 32] }, .int .i64 0, .int .i64 0, .int .i64 0, .string { data := #[] }, .int .i64 p1, .int .i64 0, .int .i64 0, .string { data := #[59] }, .int .i64 0, .int .i64 0, .int .i64 0] [tP [118, 97, 114, 32], tP tx.data.toList, tP [58, 32], nP p0, tP [32, 61, 32], nP p1, tP [59]] _ (by rfl) (by kernel_rfl) (by kernel_rfl) (by rfl) ?al ?go
 case al =>
  intro a w K hA h;refine Bw rfl rfl ?_;simp [Ca, go_sem] at hA;go_simp;exact h
 case go =>
  simp only [List.take_succ_cons, List.take_zero, List.drop_succ_cons, List.drop_zero]
  repeat (refine Be (fun K hK => ?_); go_simp; first | (refine hK _ ?_; clear hK K) | (apply Exists.intro; refine ⟨fun _ => ?_, hK _ ?_⟩; (first | with_reducible exact Dn _ _ | with_reducible exact Dp _ _ | exact A3 _ _ _ rfl _); clear hK K))
  refine B8 ⟨by simp [Ca, go_sem], ?_⟩;intro g W hbW hl;replace hbW := zz hbW;go_wp2_with (go_at_call 82; refine (Ar (HL.out.wr.carry hbW.out) (k := 7) rfl hl (by simp; omega)).mono ?_; rintro e V1 ⟨rfl, hw2, hf2⟩; replace HL := zz (HL.out.put hbW.out hw2 hf2); clear hw2 hf2 hl hbW);go_wp2_with fail;refine bodyPost_end (v := .tuple #[]) (by simp [results, results116]) rfl ?_;exact HL.out.done (by first | rfl | simp)
theorem b7k {w : World} {b : Nat} {E : Env} {X : List Pc} {t : Int} {out : List UInt8} (h : Wr w b E X t out) (hX : X.length <= 80000000) (ln cl sz num : Int) (tx : ByteArray) {a : Option Addr} {cap : Nat} {p0 p1 : Nat} (hk : D3 b w a [p0, p1]) :
  Calls prog 116 #[pR b, .agg #[.int .u8 8, .int .i64 ln, .int .i64 cl, .int .i64 sz, .int .i64 num, .string tx], .slice a 2 cap] w (Put b E X t out [nP p0, tP [32, 61, 32], nP p1, tP [59]] w) := by
 have HL := zz (Lv.start h hk #[.int .u8 8, .int .i64 ln, .int .i64 cl, .int .i64 sz, .int .i64 num, .string tx] 37 ⟨by decide, by decide⟩);obtain ⟨g0, o0, rfl⟩ := hk.addr (by simp);clear h hk;go_enter func116, ntmps116;go_wp2_with fail;have k0 := fun D os => cell_regrown (show _ = some (itv p0) from HL.out.kd.cell (i := 0) (by simp)) D os
 have k1 := fun D os => cell_regrown (show _ = some (itv p1) from HL.out.kd.cell (i := 1) (by simp)) D os
 simp only [Nat.add_zero] at k0;refine A5 11 4 [34, 35, 39, 40] [pcV { data := #[] } p0 0 0, pcV { data := #[32, 61, 32] } 0 0 0, pcV { data := #[] } p1 0 0, pcV { data := #[59] } 0 0 0] #[.string { data := #[] }, .int .i64 p0, .int .i64 0, .int .i64 0, .string { data := #[32, 61, 32] }, .int .i64 0, .int .i64 0, .int .i64 0, .string { data := #[] }, .int .i64 p1, .int .i64 0, .int .i64 0, .string { data := #[59] }, .int .i64 0, .int .i64 0, .int .i64 0] [nP p0, tP [32, 61, 32], nP p1, tP [59]] _ (by rfl) (by kernel_rfl) (by kernel_rfl) (by rfl) ?al ?go
 case al =>
  intro a w K hA h;refine Bw rfl rfl ?_;simp [Ca, go_sem] at hA;go_simp;exact h
 case go =>
  simp only [List.take_succ_cons, List.take_zero, List.drop_succ_cons, List.drop_zero]
  repeat (refine Be (fun K hK => ?_); go_simp; first | (refine hK _ ?_; clear hK K) | (apply Exists.intro; refine ⟨fun _ => ?_, hK _ ?_⟩; (first | with_reducible exact Dn _ _ | with_reducible exact Dp _ _ | exact A3 _ _ _ rfl _); clear hK K))
  refine B8 ⟨by simp [Ca, go_sem], ?_⟩;intro g W hbW hl;replace hbW := zz hbW;go_wp2_with (go_at_call 82; refine (Ar (HL.out.wr.carry hbW.out) (k := 4) rfl hl (by simp; omega)).mono ?_; rintro e V1 ⟨rfl, hw2, hf2⟩; replace HL := zz (HL.out.put hbW.out hw2 hf2); clear hw2 hf2 hl hbW);go_wp2_with fail;refine bodyPost_end (v := .tuple #[]) (by simp [results, results116]) rfl ?_;exact HL.out.done (by first | rfl | simp)
theorem b3o {w : World} {b : Nat} {E : Env} {X : List Pc} {t : Int} {out : List UInt8} (h : Wr w b E X t out) (hX : X.length <= 80000000) (ln cl sz num : Int) (tx : ByteArray) {a : Option Addr} {cap : Nat} {p0 p1 : Nat} (hk : D3 b w a [p0, p1]) :
  Calls prog 116 #[pR b, .agg #[.int .u8 9, .int .i64 ln, .int .i64 cl, .int .i64 sz, .int .i64 num, .string tx], .slice a 2 cap] w (Put b E X t out [tP [105, 102, 32], nP p0, tP [32], nP p1] w) := by
 have HL := zz (Lv.start h hk #[.int .u8 9, .int .i64 ln, .int .i64 cl, .int .i64 sz, .int .i64 num, .string tx] 37 ⟨by decide, by decide⟩);obtain ⟨g0, o0, rfl⟩ := hk.addr (by simp);clear h hk;go_enter func116, ntmps116;go_wp2_with fail;have k0 := fun D os => cell_regrown (show _ = some (itv p0) from HL.out.kd.cell (i := 0) (by simp)) D os
 have k1 := fun D os => cell_regrown (show _ = some (itv p1) from HL.out.kd.cell (i := 1) (by simp)) D os
 simp only [Nat.add_zero] at k0;refine A5 11 4 [46, 50, 51, 55] [pcV { data := #[105, 102, 32] } 0 0 0, pcV { data := #[] } p0 0 0, pcV { data := #[32] } 0 0 0, pcV { data := #[] } p1 0 0] #[.string { data := #[105, 102, 32] }, .int .i64 0, .int .i64 0, .int .i64 0, .string { data := #[] }, .int .i64 p0, .int .i64 0, .int .i64 0, .string { data := #[32] }, .int .i64 0, .int .i64 0, .int .i64 0, .string { data := #[] }, .int .i64 p1, .int .i64 0, .int .i64 0] [tP [105, 102, 32], nP p0, tP [32], nP p1] _ (by rfl) (by kernel_rfl) (by kernel_rfl) (by rfl) ?al ?go
 case al =>
  intro a w K hA h;refine Bw rfl rfl ?_;simp [Ca, go_sem] at hA;go_simp;exact h
 case go =>
  simp only [List.take_succ_cons, List.take_zero, List.drop_succ_cons, List.drop_zero]
  repeat (refine Be (fun K hK => ?_); go_simp; first | (refine hK _ ?_; clear hK K) | (apply Exists.intro; refine ⟨fun _ => ?_, hK _ ?_⟩; (first | with_reducible exact Dn _ _ | with_reducible exact Dp _ _ | exact A3 _ _ _ rfl _); clear hK K))
  refine B8 ⟨by simp [Ca, go_sem], ?_⟩;intro g W hbW hl;replace hbW := zz hbW;go_wp2_with (go_at_call 82; refine (Ar (HL.out.wr.carry hbW.out) (k := 4) rfl hl (by simp; omega)).mono ?_; rintro e V1 ⟨rfl, hw2, hf2⟩; replace HL := zz (HL.out.put hbW.out hw2 hf2); clear hw2 hf2 hl hbW);go_wp2_with fail;refine bodyPost_end (v := .tuple #[]) (by simp [results, results116]) rfl ?_;exact HL.out.done (by first | rfl | simp)
theorem b3n {w : World} {b : Nat} {E : Env} {X : List Pc} {t : Int} {out : List UInt8} (h : Wr w b E X t out) (hX : X.length <= 80000000) (ln cl sz num : Int) (tx : ByteArray) {a : Option Addr} {cap : Nat} {p0 p1 p2 : Nat} (hk : D3 b w a [p0, p1, p2]) :
  Calls prog 116 #[pR b, .agg #[.int .u8 9, .int .i64 ln, .int .i64 cl, .int .i64 sz, .int .i64 num, .string tx], .slice a 3 cap] w (Put b E X t out ([tP [105, 102, 32], nP p0, tP [32], nP p1] ++ [tP [32, 101, 108, 115, 101, 32], nP p2]) w) := by
 have HL := zz (Lv.start h hk #[.int .u8 9, .int .i64 ln, .int .i64 cl, .int .i64 sz, .int .i64 num, .string tx] 37 ⟨by decide, by decide⟩);obtain ⟨g0, o0, rfl⟩ := hk.addr (by simp);clear h hk;go_enter func116, ntmps116;go_wp2_with fail;have k0 := fun D os => cell_regrown (show _ = some (itv p0) from HL.out.kd.cell (i := 0) (by simp)) D os
 have k1 := fun D os => cell_regrown (show _ = some (itv p1) from HL.out.kd.cell (i := 1) (by simp)) D os
 simp only [Nat.add_zero] at k0;refine A5 11 4 [46, 50, 51, 55] [pcV { data := #[105, 102, 32] } 0 0 0, pcV { data := #[] } p0 0 0, pcV { data := #[32] } 0 0 0, pcV { data := #[] } p1 0 0] #[.string { data := #[105, 102, 32] }, .int .i64 0, .int .i64 0, .int .i64 0, .string { data := #[] }, .int .i64 p0, .int .i64 0, .int .i64 0, .string { data := #[32] }, .int .i64 0, .int .i64 0, .int .i64 0, .string { data := #[] }, .int .i64 p1, .int .i64 0, .int .i64 0] [tP [105, 102, 32], nP p0, tP [32], nP p1] _ (by rfl) (by kernel_rfl) (by kernel_rfl) (by rfl) ?al ?go
 case al =>
  intro a w K hA h;refine Bw rfl rfl ?_;simp [Ca, go_sem] at hA;go_simp;exact h
 case go =>
  simp only [List.take_succ_cons, List.take_zero, List.drop_succ_cons, List.drop_zero]
  repeat (refine Be (fun K hK => ?_); go_simp; first | (refine hK _ ?_; clear hK K) | (apply Exists.intro; refine ⟨fun _ => ?_, hK _ ?_⟩; (first | with_reducible exact Dn _ _ | with_reducible exact Dp _ _ | exact A3 _ _ _ rfl _); clear hK K))
  refine B8 ⟨by simp [Ca, go_sem], ?_⟩;intro g W hbW hl;replace hbW := zz hbW;go_wp2_with (go_at_call 82; refine (Ar (HL.out.wr.carry hbW.out) (k := 4) rfl hl (by simp; omega)).mono ?_; rintro e V1 ⟨rfl, hw2, hf2⟩; replace HL := zz (HL.out.put hbW.out hw2 hf2); clear hw2 hf2 hl hbW);go_wp2_with fail;have k0 := fun D os => cell_regrown (show _ = some (itv p0) from HL.out.kd.cell (i := 0) (by simp)) D os
  have k1 := fun D os => cell_regrown (show _ = some (itv p1) from HL.out.kd.cell (i := 1) (by simp)) D os
  have k2 := fun D os => cell_regrown (show _ = some (itv p2) from HL.out.kd.cell (i := 2) (by simp)) D os
  simp only [Nat.add_zero] at k0;refine A5 6 2 [62, 66] [pcV { data := #[32, 101, 108, 115, 101, 32] } 0 0 0, pcV { data := #[] } p2 0 0] #[.string { data := #[32, 101, 108, 115, 101, 32] }, .int .i64 0, .int .i64 0, .int .i64 0, .string { data := #[] }, .int .i64 p2, .int .i64 0, .int .i64 0] [tP [32, 101, 108, 115, 101, 32], nP p2] _ (by rfl) (by kernel_rfl) (by kernel_rfl) (by rfl) ?al ?go
  case al =>
   intro a w K hA h;refine Bw rfl rfl ?_;simp [Ca, go_sem] at hA;go_simp;exact h
  case go =>
   simp only [List.take_succ_cons, List.take_zero, List.drop_succ_cons, List.drop_zero]
   repeat (refine Be (fun K hK => ?_); go_simp; first | (refine hK _ ?_; clear hK K) | (apply Exists.intro; refine ⟨fun _ => ?_, hK _ ?_⟩; (first | with_reducible exact Dn _ _ | with_reducible exact Dp _ _ | exact A3 _ _ _ rfl _); clear hK K))
   refine B8 ⟨by simp [Ca, go_sem], ?_⟩;intro g W hbW hl;replace hbW := zz hbW;go_wp2_with (go_at_call 82; refine (Ar (HL.out.wr.carry hbW.out) (k := 2) rfl hl (by simp; omega)).mono ?_; rintro e V2 ⟨rfl, hw2, hf2⟩; replace HL := zz (HL.out.put hbW.out hw2 hf2); clear hw2 hf2 hl hbW);go_wp2_with fail;refine bodyPost_end (v := .tuple #[]) (by simp [results, results116]) rfl ?_;exact HL.out.done (by first | rfl | simp)
theorem b3r {w : World} {b : Nat} {E : Env} {X : List Pc} {t : Int} {out : List UInt8} (h : Wr w b E X t out) (hX : X.length <= 80000000) (ln cl sz num : Int) (tx : ByteArray) {a : Option Addr} {cap : Nat} {p0 p1 : Nat} (hk : D3 b w a [p0, p1]) :
  Calls prog 116 #[pR b, .agg #[.int .u8 10, .int .i64 ln, .int .i64 cl, .int .i64 sz, .int .i64 num, .string tx], .slice a 2 cap] w (Put b E X t out [tP [119, 104, 105, 108, 101, 32], nP p0, tP [32], nP p1] w) := by
 have HL := zz (Lv.start h hk #[.int .u8 10, .int .i64 ln, .int .i64 cl, .int .i64 sz, .int .i64 num, .string tx] 37 ⟨by decide, by decide⟩);obtain ⟨g0, o0, rfl⟩ := hk.addr (by simp);clear h hk;go_enter func116, ntmps116;go_wp2_with fail;have k0 := fun D os => cell_regrown (show _ = some (itv p0) from HL.out.kd.cell (i := 0) (by simp)) D os
 have k1 := fun D os => cell_regrown (show _ = some (itv p1) from HL.out.kd.cell (i := 1) (by simp)) D os
 simp only [Nat.add_zero] at k0;refine A5 11 4 [72, 76, 77, 81] [pcV { data := #[119, 104, 105, 108, 101, 32] } 0 0 0, pcV { data := #[] } p0 0 0, pcV { data := #[32] } 0 0 0, pcV { data := #[] } p1 0 0] #[.string { data := #[119, 104, 105, 108, 101, 32] }, .int .i64 0, .int .i64 0, .int .i64 0, .string { data := #[] }, .int .i64 p0, .int .i64 0, .int .i64 0, .string { data := #[32] }, .int .i64 0, .int .i64 0, .int .i64 0, .string { data := #[] }, .int .i64 p1, .int .i64 0, .int .i64 0] [tP [119, 104, 105, 108, 101, 32], nP p0, tP [32], nP p1] _ (by rfl) (by kernel_rfl) (by kernel_rfl) (by rfl) ?al ?go
 case al =>
  intro a w K hA h;refine Bw rfl rfl ?_;simp [Ca, go_sem] at hA;go_simp;exact h
 case go =>
  simp only [List.take_succ_cons, List.take_zero, List.drop_succ_cons, List.drop_zero]
  repeat (refine Be (fun K hK => ?_); go_simp; first | (refine hK _ ?_; clear hK K) | (apply Exists.intro; refine ⟨fun _ => ?_, hK _ ?_⟩; (first | with_reducible exact Dn _ _ | with_reducible exact Dp _ _ | exact A3 _ _ _ rfl _); clear hK K))
  refine B8 ⟨by simp [Ca, go_sem], ?_⟩;intro g W hbW hl;replace hbW := zz hbW;go_wp2_with (go_at_call 82; refine (Ar (HL.out.wr.carry hbW.out) (k := 4) rfl hl (by simp; omega)).mono ?_; rintro e V1 ⟨rfl, hw2, hf2⟩; replace HL := zz (HL.out.put hbW.out hw2 hf2); clear hw2 hf2 hl hbW);go_wp2_with fail;refine bodyPost_end (v := .tuple #[]) (by simp [results, results116]) rfl ?_;exact HL.out.done (by first | rfl | simp)
theorem a7z {w : World} {b : Nat} {E : Env} {X : List Pc} {t : Int} {out : List UInt8} (h : Wr w b E X t out) (hX : X.length <= 80000000) (ln cl sz num : Int) (tx : ByteArray) {a : Option Addr} {cap : Nat} (hk : D3 b w a []) :
  Calls prog 116 #[pR b, .agg #[.int .u8 11, .int .i64 ln, .int .i64 cl, .int .i64 sz, .int .i64 num, .string tx], .slice a 0 cap] w (Put b E X t out ([tP [114, 101, 116, 117, 114, 110]] ++ [tP [59]]) w) := by
 have HL := zz (Lv.start h hk #[.int .u8 11, .int .i64 ln, .int .i64 cl, .int .i64 sz, .int .i64 num, .string tx] 37 ⟨by decide, by decide⟩);clear h hk;go_enter func116, ntmps116;have hbW := zz (Below.refl (w.alloc (.cells #[.int .u8 11, .int .i64 ln, .int .i64 cl, .int .i64 sz, .int .i64 num, .string tx] 37)).heap.size (w.alloc (.cells #[.int .u8 11, .int .i64 ln, .int .i64 cl, .int .i64 sz, .int .i64 num, .string tx] 37)));go_wp2_with fail;refine (Cy _ _).mono ?_;rintro e w1 ⟨rfl, hb1⟩;replace hbW := zz (Ab hbW.out hb1);go_wp2_with fail;refine (Ar (P := [tP [114, 101, 116, 117, 114, 110]]) (k := 1) (HL.out.wr.carry (Ab hbW.out (Aa w1 _))) rfl (LiesP.made (news := #[.string { data := #[114, 101, 116, 117, 114, 110] }, .int .i64 0, .int .i64 0, .int .i64 0]) w1 rfl) (by simp; omega)).mono ?_;rintro e V1 ⟨rfl, hw2, hf2⟩;replace HL := zz (HL.out.put (Ab hbW.out (Aa w1 _)) hw2 hf2);clear hw2 hf2 hb1 hbW;have hbW := zz (Below.refl V1.heap.size V1);go_wp2_with fail;refine (Cy _ _).mono ?_;rintro e w1 ⟨rfl, hb1⟩;replace hbW := zz (Ab hbW.out hb1);go_wp2_with fail;refine (Ar (P := [tP [59]]) (k := 1) (HL.out.wr.carry (Ab hbW.out (Aa w1 _))) rfl (LiesP.made (news := #[.string { data := #[59] }, .int .i64 0, .int .i64 0, .int .i64 0]) w1 rfl) (by simp; omega)).mono ?_;rintro e V2 ⟨rfl, hw2, hf2⟩;replace HL := zz (HL.out.put (Ab hbW.out (Aa w1 _)) hw2 hf2);clear hw2 hf2 hb1 hbW;go_wp2_with fail;refine bodyPost_end (v := .tuple #[]) (by simp [results, results116]) rfl ?_;exact HL.out.done (by first | rfl | simp)
theorem a7y {w : World} {b : Nat} {E : Env} {X : List Pc} {t : Int} {out : List UInt8} (h : Wr w b E X t out) (hX : X.length <= 80000000) (ln cl sz num : Int) (tx : ByteArray) {a : Option Addr} {cap : Nat} {p0 : Nat} (hk : D3 b w a [p0]) :
  Calls prog 116 #[pR b, .agg #[.int .u8 11, .int .i64 ln, .int .i64 cl, .int .i64 sz, .int .i64 num, .string tx], .slice a 1 cap] w (Put b E X t out ([tP [114, 101, 116, 117, 114, 110]] ++ [tP [32], nP p0] ++ [tP [59]]) w) := by
 have HL := zz (Lv.start h hk #[.int .u8 11, .int .i64 ln, .int .i64 cl, .int .i64 sz, .int .i64 num, .string tx] 37 ⟨by decide, by decide⟩);obtain ⟨g0, o0, rfl⟩ := hk.addr (by simp);clear h hk;go_enter func116, ntmps116;have hbW := zz (Below.refl (w.alloc (.cells #[.int .u8 11, .int .i64 ln, .int .i64 cl, .int .i64 sz, .int .i64 num, .string tx] 37)).heap.size (w.alloc (.cells #[.int .u8 11, .int .i64 ln, .int .i64 cl, .int .i64 sz, .int .i64 num, .string tx] 37)));go_wp2_with fail;refine (Cy _ _).mono ?_;rintro e w1 ⟨rfl, hb1⟩;replace hbW := zz (Ab hbW.out hb1);go_wp2_with fail;refine (Ar (P := [tP [114, 101, 116, 117, 114, 110]]) (k := 1) (HL.out.wr.carry (Ab hbW.out (Aa w1 _))) rfl (LiesP.made (news := #[.string { data := #[114, 101, 116, 117, 114, 110] }, .int .i64 0, .int .i64 0, .int .i64 0]) w1 rfl) (by simp; omega)).mono ?_;rintro e V1 ⟨rfl, hw2, hf2⟩;replace HL := zz (HL.out.put (Ab hbW.out (Aa w1 _)) hw2 hf2);clear hw2 hf2 hb1 hbW;go_wp2_with fail;have k0 := fun D os => cell_regrown (show _ = some (itv p0) from HL.out.kd.cell (i := 0) (by simp)) D os
 simp only [Nat.add_zero] at k0;refine A5 6 2 [94, 98] [pcV { data := #[32] } 0 0 0, pcV { data := #[] } p0 0 0] #[.string { data := #[32] }, .int .i64 0, .int .i64 0, .int .i64 0, .string { data := #[] }, .int .i64 p0, .int .i64 0, .int .i64 0] [tP [32], nP p0] _ (by rfl) (by kernel_rfl) (by kernel_rfl) (by rfl) ?al ?go
 case al =>
  intro a w K hA h;refine Bw rfl rfl ?_;simp [Ca, go_sem] at hA;go_simp;exact h
 case go =>
  simp only [List.take_succ_cons, List.take_zero, List.drop_succ_cons, List.drop_zero]
  repeat (refine Be (fun K hK => ?_); go_simp; first | (refine hK _ ?_; clear hK K) | (apply Exists.intro; refine ⟨fun _ => ?_, hK _ ?_⟩; (first | with_reducible exact Dn _ _ | with_reducible exact Dp _ _ | exact A3 _ _ _ rfl _); clear hK K))
  refine B8 ⟨by simp [Ca, go_sem], ?_⟩;intro g W hbW hl;replace hbW := zz hbW;go_wp2_with (go_at_call 82; refine (Ar (HL.out.wr.carry hbW.out) (k := 2) rfl hl (by simp; omega)).mono ?_; rintro e V2 ⟨rfl, hw2, hf2⟩; replace HL := zz (HL.out.put hbW.out hw2 hf2); clear hw2 hf2 hl hbW);have hbW := zz (Below.refl V2.heap.size V2);go_wp2_with fail;refine (Cy _ _).mono ?_;rintro e w1 ⟨rfl, hb1⟩;replace hbW := zz (Ab hbW.out hb1);go_wp2_with fail;refine (Ar (P := [tP [59]]) (k := 1) (HL.out.wr.carry (Ab hbW.out (Aa w1 _))) rfl (LiesP.made (news := #[.string { data := #[59] }, .int .i64 0, .int .i64 0, .int .i64 0]) w1 rfl) (by simp; omega)).mono ?_;rintro e V3 ⟨rfl, hw2, hf2⟩;replace HL := zz (HL.out.put (Ab hbW.out (Aa w1 _)) hw2 hf2);clear hw2 hf2 hb1 hbW;go_wp2_with fail;refine bodyPost_end (v := .tuple #[]) (by simp [results, results116]) rfl ?_;exact HL.out.done (by first | rfl | simp)
theorem b3q {w : World} {b : Nat} {E : Env} {X : List Pc} {t : Int} {out : List UInt8} (h : Wr w b E X t out) (hX : X.length <= 80000000) (ln cl sz num : Int) (tx : ByteArray) {a : Option Addr} {cap : Nat} {p0 : Nat} (hk : D3 b w a [p0]) :
  Calls prog 116 #[pR b, .agg #[.int .u8 12, .int .i64 ln, .int .i64 cl, .int .i64 sz, .int .i64 num, .string tx], .slice a 1 cap] w (Put b E X t out [tP [112, 114, 105, 110, 116, 32], nP p0, tP [59]] w) := by
 have HL := zz (Lv.start h hk #[.int .u8 12, .int .i64 ln, .int .i64 cl, .int .i64 sz, .int .i64 num, .string tx] 37 ⟨by decide, by decide⟩);obtain ⟨g0, o0, rfl⟩ := hk.addr (by simp);clear h hk;go_enter func116, ntmps116;go_wp2_with fail;have k0 := fun D os => cell_regrown (show _ = some (itv p0) from HL.out.kd.cell (i := 0) (by simp)) D os
 simp only [Nat.add_zero] at k0;refine A5 7 3 [108, 112, 113] [pcV { data := #[112, 114, 105, 110, 116, 32] } 0 0 0, pcV { data := #[] } p0 0 0, pcV { data := #[59] } 0 0 0] #[.string { data := #[112, 114, 105, 110, 116, 32] }, .int .i64 0, .int .i64 0, .int .i64 0, .string { data := #[] }, .int .i64 p0, .int .i64 0, .int .i64 0, .string { data := #[59] }, .int .i64 0, .int .i64 0, .int .i64 0] [tP [112, 114, 105, 110, 116, 32], nP p0, tP [59]] _ (by rfl) (by kernel_rfl) (by kernel_rfl) (by rfl) ?al ?go
 case al =>
  intro a w K hA h;refine Bw rfl rfl ?_;simp [Ca, go_sem] at hA;go_simp;exact h
 case go =>
  simp only [List.take_succ_cons, List.take_zero, List.drop_succ_cons, List.drop_zero]
  repeat (refine Be (fun K hK => ?_); go_simp; first | (refine hK _ ?_; clear hK K) | (apply Exists.intro; refine ⟨fun _ => ?_, hK _ ?_⟩; (first | with_reducible exact Dn _ _ | with_reducible exact Dp _ _ | exact A3 _ _ _ rfl _); clear hK K))
  refine B8 ⟨by simp [Ca, go_sem], ?_⟩;intro g W hbW hl;replace hbW := zz hbW;go_wp2_with (go_at_call 82; refine (Ar (HL.out.wr.carry hbW.out) (k := 3) rfl hl (by simp; omega)).mono ?_; rintro e V1 ⟨rfl, hw2, hf2⟩; replace HL := zz (HL.out.put hbW.out hw2 hf2); clear hw2 hf2 hl hbW);go_wp2_with fail;refine bodyPost_end (v := .tuple #[]) (by simp [results, results116]) rfl ?_;exact HL.out.done (by first | rfl | simp)
theorem b3p {w : World} {b : Nat} {E : Env} {X : List Pc} {t : Int} {out : List UInt8} (h : Wr w b E X t out) (hX : X.length <= 80000000) (ln cl sz num : Int) (tx : ByteArray) {a : Option Addr} {cap : Nat} {p0 : Nat} (hk : D3 b w a [p0]) :
  Calls prog 116 #[pR b, .agg #[.int .u8 13, .int .i64 ln, .int .i64 cl, .int .i64 sz, .int .i64 num, .string tx], .slice a 1 cap] w (Put b E X t out [nP p0, tP [59]] w) := by
 have HL := zz (Lv.start h hk #[.int .u8 13, .int .i64 ln, .int .i64 cl, .int .i64 sz, .int .i64 num, .string tx] 37 ⟨by decide, by decide⟩);obtain ⟨g0, o0, rfl⟩ := hk.addr (by simp);clear h hk;go_enter func116, ntmps116;have k0 : _ = some (itv p0) := HL.out.kd.cell (i := 0) (by simp);simp only [Nat.add_zero] at k0;have hbW := zz (Below.refl (w.alloc (.cells #[.int .u8 13, .int .i64 ln, .int .i64 cl, .int .i64 sz, .int .i64 num, .string tx] 37)).heap.size (w.alloc (.cells #[.int .u8 13, .int .i64 ln, .int .i64 cl, .int .i64 sz, .int .i64 num, .string tx] 37)));go_wp2_with fail;refine (Lk _ _).mono ?_;rintro e w1 ⟨rfl, hb1⟩;replace hbW := zz (Ab hbW.out hb1);go_wp2_with fail;refine (Cy _ _).mono ?_;rintro e w1 ⟨rfl, hb1⟩;replace hbW := zz (Ab hbW.out hb1);go_wp2_with fail;refine (Ar (P := [nP p0, tP [59]]) (k := 2) (HL.out.wr.carry (Ab hbW.out (Aa w1 _))) rfl (LiesP.made (news := #[.string { data := #[] }, .int .i64 p0, .int .i64 0, .int .i64 0, .string { data := #[59] }, .int .i64 0, .int .i64 0, .int .i64 0]) w1 rfl) (by simp; omega)).mono ?_;rintro e V1 ⟨rfl, hw2, hf2⟩;replace HL := zz (HL.out.put (Ab hbW.out (Aa w1 _)) hw2 hf2);clear hw2 hf2 hb1 hbW;clear k0;go_wp2_with fail;refine bodyPost_end (v := .tuple #[]) (by simp [results, results116]) rfl ?_;exact HL.out.done (by first | rfl | simp)
end
section
open Go.RowKit Go.Sort
theorem c2w {w : World} {b : Nat} {E : Env} {X : List Pc} {t : Int} {out : List UInt8} (h : Wr w b E X t out) (hX : X.length <= 80000000) (s : ByteArray) {a : Option Addr} {cap : Nat} {p0 p1 : Nat} (hk : D3 b w a [p0, p1]) :
  Calls prog 157 #[pR b, .agg #[.string s, .int .i64 3], .slice a 2 cap] w (Put b E X t out [oP p0 (4), tP [32], tP s.data.toList, tP [32], oP p1 (4)] w) := by
 have HL := zz (Lv.start h hk #[.string s, .int .i64 3] 103 ⟨by decide, by decide⟩);obtain ⟨g0, o0, rfl⟩ := hk.addr (by simp);clear h hk;go_enter func157, ntmps157;go_wp2_with fail;have e0 := fun D os => cell_regrown (HL.out.cell 0 (v := .string s) rfl) D os
 have e1 := fun D os => cell_regrown (HL.out.cell 1 (v := .int .i64 3) rfl) D os
 have k0 := fun D os => cell_regrown (show _ = some (itv p0) from HL.out.kd.cell (i := 0) (by simp)) D os
 have k1 := fun D os => cell_regrown (show _ = some (itv p1) from HL.out.kd.cell (i := 1) (by simp)) D os
 simp only [Nat.add_zero] at k0;refine A5 18 5 [22, 23, 26, 27, 34] [pcV { data := #[] } p0 4 0, pcV { data := #[32] } 0 0 0, pcV s 0 0 0, pcV { data := #[32] } 0 0 0, pcV { data := #[] } p1 4 0] #[.string { data := #[] }, .int .i64 p0, .int .i64 4, .int .i64 0, .string { data := #[32] }, .int .i64 0, .int .i64 0, .int .i64 0, .string s, .int .i64 0, .int .i64 0, .int .i64 0, .string { data := #[32] }, .int .i64 0, .int .i64 0, .int .i64 0, .string { data := #[] }, .int .i64 p1, .int .i64 4, .int .i64 0] [oP p0 (4), tP [32], tP s.data.toList, tP [32], oP p1 (4)] _ (by rfl) (by kernel_rfl) (by kernel_rfl) (by rfl) ?al ?go
 case al =>
  intro a w K hA h;refine Bw rfl rfl ?_;simp [Ca, go_sem] at hA;go_simp;exact h
 case go =>
  simp only [List.take_succ_cons, List.take_zero, List.drop_succ_cons, List.drop_zero]
  repeat (refine Be (fun K hK => ?_); go_simp; first | (refine hK _ ?_; clear hK K) | (apply Exists.intro; refine ⟨fun _ => ?_, hK _ ?_⟩; (first | with_reducible exact Dn _ _ | with_reducible exact Dp _ _ | exact A3 _ _ _ rfl _ | exact A3 _ 4 4 (by omega) _); clear hK K))
  refine B8 ⟨by simp [Ca, go_sem], ?_⟩;intro g W hbW hl;replace hbW := zz hbW;go_wp2_with (go_at_call 82; refine (Ar (HL.out.wr.carry hbW.out) (k := 5) rfl hl (by simp; omega)).mono ?_; rintro e V1 ⟨rfl, hw2, hf2⟩; replace HL := zz (HL.out.put hbW.out hw2 hf2); clear hw2 hf2 hl hbW);go_wp2_with fail;refine bodyPost_end (v := .tuple #[]) (by simp [results, results157]) rfl ?_;exact HL.out.done (by first | rfl | simp)
theorem c2v {w : World} {b : Nat} {E : Env} {X : List Pc} {t : Int} {out : List UInt8} (h : Wr w b E X t out) (hX : X.length <= 80000000) (s : ByteArray) {a : Option Addr} {cap : Nat} {p0 p1 : Nat} (hk : D3 b w a [p0, p1]) :
  Calls prog 157 #[pR b, .agg #[.string s, .int .i64 4], .slice a 2 cap] w (Put b E X t out [oP p0 (5), tP [32], tP s.data.toList, tP [32], oP p1 (5)] w) := by
 have HL := zz (Lv.start h hk #[.string s, .int .i64 4] 103 ⟨by decide, by decide⟩);obtain ⟨g0, o0, rfl⟩ := hk.addr (by simp);clear h hk;go_enter func157, ntmps157;go_wp2_with fail;have e0 := fun D os => cell_regrown (HL.out.cell 0 (v := .string s) rfl) D os
 have e1 := fun D os => cell_regrown (HL.out.cell 1 (v := .int .i64 4) rfl) D os
 have k0 := fun D os => cell_regrown (show _ = some (itv p0) from HL.out.kd.cell (i := 0) (by simp)) D os
 have k1 := fun D os => cell_regrown (show _ = some (itv p1) from HL.out.kd.cell (i := 1) (by simp)) D os
 simp only [Nat.add_zero] at k0;refine A5 18 5 [22, 23, 26, 27, 34] [pcV { data := #[] } p0 5 0, pcV { data := #[32] } 0 0 0, pcV s 0 0 0, pcV { data := #[32] } 0 0 0, pcV { data := #[] } p1 5 0] #[.string { data := #[] }, .int .i64 p0, .int .i64 5, .int .i64 0, .string { data := #[32] }, .int .i64 0, .int .i64 0, .int .i64 0, .string s, .int .i64 0, .int .i64 0, .int .i64 0, .string { data := #[32] }, .int .i64 0, .int .i64 0, .int .i64 0, .string { data := #[] }, .int .i64 p1, .int .i64 5, .int .i64 0] [oP p0 (5), tP [32], tP s.data.toList, tP [32], oP p1 (5)] _ (by rfl) (by kernel_rfl) (by kernel_rfl) (by rfl) ?al ?go
 case al =>
  intro a w K hA h;refine Bw rfl rfl ?_;simp [Ca, go_sem] at hA;go_simp;exact h
 case go =>
  simp only [List.take_succ_cons, List.take_zero, List.drop_succ_cons, List.drop_zero]
  repeat (refine Be (fun K hK => ?_); go_simp; first | (refine hK _ ?_; clear hK K) | (apply Exists.intro; refine ⟨fun _ => ?_, hK _ ?_⟩; (first | with_reducible exact Dn _ _ | with_reducible exact Dp _ _ | exact A3 _ _ _ rfl _ | exact A3 _ 5 5 (by omega) _); clear hK K))
  refine B8 ⟨by simp [Ca, go_sem], ?_⟩;intro g W hbW hl;replace hbW := zz hbW;go_wp2_with (go_at_call 82; refine (Ar (HL.out.wr.carry hbW.out) (k := 5) rfl hl (by simp; omega)).mono ?_; rintro e V1 ⟨rfl, hw2, hf2⟩; replace HL := zz (HL.out.put hbW.out hw2 hf2); clear hw2 hf2 hl hbW);go_wp2_with fail;refine bodyPost_end (v := .tuple #[]) (by simp [results, results157]) rfl ?_;exact HL.out.done (by first | rfl | simp)
theorem b1b {w : World} {b : Nat} {E : Env} {X : List Pc} {t : Int} {out : List UInt8} (h : Wr w b E X t out) (hX : X.length <= 80000000) (s : ByteArray) (lv : Nat) (hl : lv <= 8) (h3 : lv ≠ 3) (h4 : lv ≠ 4) {a : Option Addr} {cap : Nat} {p0 p1 : Nat} (hk : D3 b w a [p0, p1]) :
  Calls prog 157 #[pR b, .agg #[.string s, .int .i64 lv], .slice a 2 cap] w (Put b E X t out [oP p0 (lv), tP [32], tP s.data.toList, tP [32], oP p1 (lv + 1)] w) := by
 have HL := zz (Lv.start h hk #[.string s, .int .i64 lv] 103 ⟨by decide, by decide⟩);obtain ⟨g0, o0, rfl⟩ := hk.addr (by simp);have e3 : ((lv : Int) == 3) = false := by rw [beq_eq_false_iff_ne]; omega
 have e4 : ((lv : Int) == 4) = false := by rw [beq_eq_false_iff_ne]; omega
 have hwr : IntKind.i64.wrap ((lv : Int) + 1) = (lv : Int) + 1 := by rw [IntKind.wrap_i64]; omega
 clear h hk;go_enter func157, ntmps157;go_wp2_with fail;have e0 := fun D os => cell_regrown (HL.out.cell 0 (v := .string s) rfl) D os
 have e1 := fun D os => cell_regrown (HL.out.cell 1 (v := .int .i64 lv) rfl) D os
 have k0 := fun D os => cell_regrown (show _ = some (itv p0) from HL.out.kd.cell (i := 0) (by simp)) D os
 have k1 := fun D os => cell_regrown (show _ = some (itv p1) from HL.out.kd.cell (i := 1) (by simp)) D os
 simp only [Nat.add_zero] at k0;refine A5 18 5 [22, 23, 26, 27, 34] [pcV { data := #[] } p0 lv 0, pcV { data := #[32] } 0 0 0, pcV s 0 0 0, pcV { data := #[32] } 0 0 0, pcV { data := #[] } p1 (lv + 1) 0] #[.string { data := #[] }, .int .i64 p0, .int .i64 lv, .int .i64 0, .string { data := #[32] }, .int .i64 0, .int .i64 0, .int .i64 0, .string s, .int .i64 0, .int .i64 0, .int .i64 0, .string { data := #[32] }, .int .i64 0, .int .i64 0, .int .i64 0, .string { data := #[] }, .int .i64 p1, .int .i64 (lv + 1), .int .i64 0] [oP p0 (lv), tP [32], tP s.data.toList, tP [32], oP p1 (lv + 1)] _ (by rfl) (by kernel_rfl) (by kernel_rfl) (by rfl) ?al ?go
 case al =>
  intro a w K hA h;refine Bw rfl rfl ?_;simp [Ca, go_sem] at hA;go_simp;exact h
 case go =>
  simp only [List.take_succ_cons, List.take_zero, List.drop_succ_cons, List.drop_zero]
  repeat (refine Be (fun K hK => ?_); go_simp; first | (refine hK _ ?_; clear hK K) | (apply Exists.intro; refine ⟨fun _ => ?_, hK _ ?_⟩; (first | with_reducible exact Dn _ _ | with_reducible exact Dp _ _ | exact A3 _ _ _ rfl _ | exact A3 _ _ _ (by omega) _ | exact A3 _ _ (lv + 1) (by omega) _); clear hK K))
  refine B8 ⟨by simp [Ca, go_sem], ?_⟩;intro g W hbW hl;replace hbW := zz hbW;go_wp2_with (go_at_call 82; refine (Ar (HL.out.wr.carry hbW.out) (k := 5) rfl hl (by simp; omega)).mono ?_; rintro e V1 ⟨rfl, hw2, hf2⟩; replace HL := zz (HL.out.put hbW.out hw2 hf2); clear hw2 hf2 hl hbW);go_wp2_with fail;refine bodyPost_end (v := .tuple #[]) (by simp [results, results157]) rfl ?_;exact HL.out.done (by first | rfl | simp)
end
section
open Go.RowKit Go.Sort
theorem a1e (b o n cap : Nat) (l : List Nd) (w : World) (hn : Hid (l.length = n)) (hl : n <= 1000000) (hr : Hid (Qv w b o l)) (hR : Right (sz l) n) (k : Nat) (hk : k < n) (q : Bool) (hq : P7 l k = q) :
  Calls prog 27 #[.slice (some ⟨b, o, none⟩) n cap, .int .i64 (k : Nat)] w fun e w' => e = .returned (.bool q) ∧ Below w.heap.size w w' := by
 have ok := hR.ok k hk;have hxl := Su ok;have hxn := fun x hx => (hR.kid_lt (y := x) hk hx).2
 have hnum : Bg (nd l k).num := (hr.out k (by rw [hn.out]; exact hk)).2.num;unfold P7 at hq;obtain ⟨kk, hkk⟩ : ∃ kk, Ai l k = kk := ⟨_, rfl⟩;rw [hkk] at hq;by_cases h1 : kk = 1 ∨ kk = 2 ∨ kk = 6 ∨ kk = 27 ∨ kk = 3 ∨ kk = 5 ∨ kk = 20 ∨ kk = 7 ∨ kk = 10 ∨ kk = 12
 ·exact c4e kk (zz h1) b o n cap l w hn hl hr k hk (zz ok) _ (zz rfl) (zz hxn) (by omega) _ hnum (zz hkk) (zz rfl) q (zz hq)
 by_cases h2 : kk = 29 ∨ kk = 30 ∨ kk = 28 ∨ kk = 31 ∨ kk = 9 ∨ kk = 11 ∨ kk = 8 ∨ kk = 13 ∨ kk = 32
 ·exact c4d kk (zz h2) b o n cap l w hn hl hr k hk (zz ok) _ (zz rfl) (zz hxn) (by omega) _ hnum (zz hkk) (zz rfl) q (zz hq)
 exact c4c kk (zz (by omega)) b o n cap l w hn hl hr k hk (zz ok) _ (zz rfl) (zz hxn) (by omega) _ hnum (zz hkk) (zz rfl) q (zz hq)
theorem b35 (b o n cap : Nat) (l : List Nd) (w : World) (hn : Hid (l.length = n)) (hl : n <= 1000000) (hr : Hid (Qv w b o l)) (htx : Hid (∀ i, i < n -> (nd l i).text.size <= 100000)) (hpos : 0 < n) (hR : Hid (Right (sz l) n)) (h1 : Hid (Ai l 0 = 1)) (p : Bool) (hp : Hid (((List.range n).all fun j => C3 l j && P7 l j) = p)) :
  Calls prog 11 #[.slice (some ⟨b, o, none⟩) n cap] w fun e w' => e = .returned (.bool p) ∧ Below w.heap.size w w' := by
 have HRi := zz (M3 b o n cap l w hn hl hr hpos true (Ec hR.out))
 have c0 : w.cell? ⟨b, o, none⟩ = some (.int .u8 1) := by
  have := (hr.out 0 (by rw [hn.out]; exact hpos)).1.c0;rw [Nat.zero_mul, Nat.add_zero, show (nd l 0).kind = 1 from h1.out] at this;exact this
 go_enter func11, ntmps11;go_wp2_with (go_at_call 25; refine HRi.out.mono ?_; rintro e w1 ⟨rfl, rfl⟩);clear HRi c0
 go_loopw [16] (fun j wr => ∃ k : Nat, k <= n ∧ j = .int .i64 k ∧ (∀ j, j < k -> (C3 l j && P7 l j) = true) ∧ Below w.heap.size w wr) (fun j _ => n - (intOf j).toNat)
 case atStart => exact ⟨0, Nat.zero_le _, rfl, fun j hj => absurd hj (by omega), Below.refl _ _⟩
 case round =>
  obtain ⟨k, hk, rfl, hok, hbel⟩ := hrel;replace hok := zz hok;by_cases hlt : k < n
  ·obtain ⟨hat, hwf⟩ := (hr.out.carry hbel) k (by rw [hn.out]; exact hlt);obtain ⟨c0, c1, c2, c3, c4, c5⟩ := hat;have ht := htx.out k hlt;obtain ⟨kd, ln, cl, s, num, tx, hN⟩ : ∃ kd ln cl s num tx, nd l k = ⟨kd, ln, cl, s, num, tx⟩ := ⟨_, _, _, _, _, _, rfl⟩;rw [hN] at c0 c1 c2 c3 c4 c5 hwf ht;simp only at c0 c1 c2 c3 c4 c5 ht;have hF : C3 l k = (Bc kd tx.data.toList && Bk kd num) := by rw [C3, Ai, hN]
   have HFI := zz (fun w q (h : C3 l k = q) => a5q ⟨kd, ln, cl, s, num, tx⟩ hwf ht w q (by rw [<- h, hF]));have HFA := zz (fun w1 (h : Below w.heap.size w w1) q (hq : P7 l k = q) => a1e b o n cap l w1 hn hl (zz (hr.out.carry h)) hR.out k hlt q hq)
   have hbad : Hid ((C3 l k && P7 l k) = false -> p = false) := zz fun h => by
    rw [<- hp.out, List.all_eq_false];exact ⟨k, List.mem_range.2 hlt, by rw [h]; simp⟩
   replace hbel := zz hbel;clear hN hF hwf ht
   cases h1 : C3 l k with
   | false =>
    have hp' : p = false := hbad.out (by rw [h1]; rfl);subst hp';replace h1 := zz h1;go_wp2_with fail;refine (HFI.out _ false h1.out).mono ?_;rintro e w2 ⟨rfl, hb2⟩;replace hb2 := zz (Ab hbel.out hb2);go_wp2_with fail;go_ret
    exact ⟨rfl, hb2.out⟩
   | true =>
    cases h2 : P7 l k with
    | false =>
     have hp' : p = false := hbad.out (by rw [h1, h2]; rfl);subst hp';replace h1 := zz h1;replace h2 := zz h2;go_wp2_with fail;refine (HFI.out _ true h1.out).mono ?_;rintro e w2 ⟨rfl, hb2⟩;replace hb2 := zz (Ab hbel.out hb2);go_wp2_with fail;refine (HFA.out _ hb2.out false h2.out).mono ?_;rintro e w3 ⟨rfl, hb3⟩;replace hb3 := zz (Ab hb2.out hb3);go_wp2_with fail;go_ret
     exact ⟨rfl, hb3.out⟩
    | true =>
     have HO := zz (show ∀ j, j < k + 1 -> (C3 l j && P7 l j) = true from fun j hj => by
      by_cases e : j = k
      ·subst e; rw [h1, h2]; rfl
      ·exact hok.out j (by omega))
     replace h1 := zz h1;replace h2 := zz h2;go_wp2_with fail;refine (HFI.out _ true h1.out).mono ?_;rintro e w2 ⟨rfl, hb2⟩;replace hb2 := zz (Ab hbel.out hb2);go_wp2_with fail;refine (HFA.out _ hb2.out true h2.out).mono ?_;rintro e w3 ⟨rfl, hb3⟩;replace hb3 := zz (Ab hb2.out hb3);go_wp2_with fail
     go_roundw
     case rel => exact ⟨k + 1, hlt, by go_num, HO.out, hb3.out⟩
     case measure => simp [intOf]; omega
  ·have hp' : p = true := by
    rw [<- hp.out, List.all_eq_true];intro j hj;exact hok.out j (by have := List.mem_range.1 hj; omega)
   subst hp';replace hbel := zz hbel;go_wp2_with fail;go_ret;exact ⟨rfl, hbel.out⟩
theorem a8j (a : Option Addr) (n cap : Nat) (l : List Nd) (w : World) (hn : l.length = n) (hl : n <= 1000000) (hr : Row w a l) (hp : Gn (sz l) n = false) :
  Calls prog 11 #[.slice a n cap] w fun e w' => e = .returned (.bool false) ∧ Below w.heap.size w w' := by
 have H := zz (a0o a n cap l w hn hl hr false hp);clear hn hr hp;go_enter func11, ntmps11;go_wp2_with (go_at_call 25; refine H.out.mono ?_; rintro e w1 ⟨rfl, rfl⟩);go_ret;exact ⟨rfl, Below.refl _ _⟩
theorem a3c (b o n cap : Nat) (l : List Nd) (w : World) (hn : Hid (l.length = n)) (hl : n <= 1000000) (hr : Hid (Qv w b o l)) (hpos : 0 < n) (hR : Hid (Right (sz l) n)) (h1 : Ai l 0 ≠ 1) :
  Calls prog 11 #[.slice (some ⟨b, o, none⟩) n cap] w fun e w' => e = .returned (.bool false) ∧ Below w.heap.size w w' := by
 have HRi := zz (M3 b o n cap l w hn hl hr hpos true (Ec hR.out));obtain ⟨kd, hkd⟩ : ∃ kd, Ai l 0 = kd := ⟨_, rfl⟩
 have c0 : w.cell? ⟨b, o, none⟩ = some (.int .u8 (kd : Nat)) := by
  have := (hr.out 0 (by rw [hn.out]; exact hpos)).1.c0;rw [Nat.zero_mul, Nat.add_zero, show (nd l 0).kind = kd from hkd] at this;exact this
 have e1 : ((kd : Int) != 1) = true := by rw [bne_iff_ne]; omega
 clear h1 hkd;go_enter func11, ntmps11;go_wp2_with (go_at_call 25; refine HRi.out.mono ?_; rintro e w1 ⟨rfl, rfl⟩);go_ret;exact ⟨rfl, Below.refl _ _⟩
theorem a8k (a : Option Addr) (n cap : Nat) (l : List Nd) (w : World) (hn : l.length = n) (hl : n <= 1000000) (hr : Row w a l) (htx : ∀ i, i < n -> (nd l i).text.size <= 100000) (p : Bool) (hp : Rq l = p) :
  Calls prog 11 #[.slice a n cap] w fun e w' => e = .returned (.bool p) ∧ Below w.heap.size w w' := by
 unfold Rq at hp
 cases h1 : Gn (sz l) l.length with
 | false =>
  rw [h1, Bool.false_and, Bool.false_and] at hp;subst hp
  exact a8j a n cap l w hn hl hr (by rw [<- hn]; exact h1)
 | true =>
  have hR := Kt.1 h1;have hpos := hR.pos;obtain ⟨b, o, rfl, hb⟩ := hr.block (by intro h; rw [h] at hpos; simp at hpos);by_cases h2 : Ai l 0 = 1
  ·rw [h1, decide_eq_true h2, Bool.true_and, Bool.true_and, <- a9o l hR h2] at hp;rw [hn] at hp hR hpos;exact b35 b o n cap l w (zz hn) hl (zz hb) (zz htx) hpos (zz hR) (zz h2) p (zz hp)
  ·rw [h1, decide_eq_false h2] at hp;have hp' : p = false := by rw [<- hp]; rfl
   subst hp';rw [hn] at hR hpos;exact a3c b o n cap l w (zz hn) hl (zz hb) hpos (zz hR) h2
end
end Go.Proofs.YtoaplbljflhheaaGreat
