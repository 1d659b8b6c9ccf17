/-
 Contracts and plain facts on the way to PrettyTerms. Conditions: as each says.
-/
import Derived.Test.YtoaplbljflhheaaGreatTbs
set_option maxHeartbeats 40000000
set_option maxRecDepth 100000
set_option linter.unusedVariables false
set_option linter.unusedSimpArgs false
namespace Go.Proofs.YtoaplbljflhheaaGreat
open Go.RowKit Go.Sort
theorem C4.take {b : Nat} {w : World} {a : Option Addr} {ps : List Nat} (h : C4 b w a ps) (k : Nat) : C4 b w a (ps.take k) := fun i hi => by
 simp only [List.length_take] at hi
 obtain ⟨g', o', cs, fz, h1, h2, h3, h4⟩ := h i (by omega)
 exact ⟨g', o', cs, fz, h1, h2, h3, by rw [h4]; simp [List.getD_eq_getElem?_getD, show i < k by omega]⟩
theorem a9i {w : World} {b : Nat} {E : Env} {X : List Pc} {t : Int} {out : List UInt8} (h : Wr w b E X t out) (hX : X.length ≤ 80000000) (ln cl sz : Int) (tx : ByteArray) {a : Option Addr} {m cap k : Nat} {ps : List Nat} (hm : Hid (ps.length = m)) (hk2 : m = k + 2) (hm2 : m ≤ 1000000) (hc : m ≤ cap) (hk : C4 b w a ps)
  {pr pb : Nat} (hpr : Hid (ps.getD k 0 = pr)) (hpb : Hid (ps.getD (k + 1) 0 = pb)) (hpn : pr < E.n) (hkd : (nd E.l pr).kind = 14) :
  Calls Tryz.prog 152 #[pR b, .agg #[.int .u8 4, .int .i64 ln, .int .i64 cl, .int .i64 sz, .int .i64 (k : Nat), .string tx], .slice a m cap] w (Put b E X t out ([tP [102, 110, 32], tP tx.data.toList, tP [40]] ++ An (ps.take k) ++ [tP [41]] ++ [tP [32], nP pb]) w) := by
 have HL := zz (Lv.start h hk #[.int .u8 4, .int .i64 ln, .int .i64 cl, .int .i64 sz, .int .i64 (k : Nat), .string tx] 37 ⟨by decide, by decide⟩)
 obtain ⟨g0, o0, rfl⟩ := hk.addr (by rw [hm.out]; omega)
 have hkw : IntKind.i64.wrap ((k : Int) + 1) = ((k + 1 : Nat) : Int) := by rw [IntKind.wrap_i64]; omega
 have hi1 : (k : Int) < m := by omega
 have hi2 : ((k + 1 : Nat) : Int) < m := by omega
 have q0 : _ = some (itv (ps.getD k 0)) := HL.out.kd.cell (i := k) (by rw [hm.out]; omega)
 have q1 : _ = some (itv (ps.getD (k + 1) 0)) := HL.out.kd.cell (i := k + 1) (by rw [hm.out]; omega)
 rw [hpr.out] at q0
 rw [hpb.out] at q1
 clear h hk
 go_enter Tryz.func152, Tryz.ntmps152
 go_wp2_with fail
 go_quiet (fail)
 replace HL := zz (HL.out.more (Bz _ nq))
 generalize (w.alloc (.cells #[.int .u8 4, .int .i64 ln, .int .i64 cl, .int .i64 sz, .int .i64 (k : Nat), .string tx] 37)).drewN nq = V0 at *
 clear q0 q1
 go_wp2_with fail
 have e5 := fun D os => cell_regrown (HL.out.cell 5 (v := .string tx) rfl) D os
 refine Ay 6 3 [20, 23, 24] [pcV { data := #[102, 110, 32] } 0 0 0, pcV tx 0 0 0, pcV { data := #[40] } 0 0 0] #[.string { data := #[102, 110, 32] }, .int .i64 0, .int .i64 0, .int .i64 0, .string tx, .int .i64 0, .int .i64 0, .int .i64 0, .string { data := #[40] }, .int .i64 0, .int .i64 0, .int .i64 0] [tP [102, 110, 32], tP tx.data.toList, tP [40]] _ (by rfl) (by kernel_rfl) (by kernel_rfl) (by rfl) ?al ?go
 case al =>
  intro a w K hA h
  refine Be rfl rfl ?_
  simp [Bu, go_sem] at hA
  go_simp
  exact h
 case go =>
  simp only [List.take_succ_cons, List.take_zero, List.drop_succ_cons, List.drop_zero]
  repeat (refine A6 (fun K hK => ?_); go_simp; first | (refine hK _ ?_; clear hK K) | (apply Exists.intro; refine ⟨fun _ => ?_, hK _ ?_⟩; (first | with_reducible exact Cw _ _ | with_reducible exact Cy _ _ | exact Ap _ _ _ rfl _); clear hK K))
  refine Bv ⟨by simp [Bu, go_sem], ?_⟩
  intro g W hbW hl
  replace hbW := zz hbW
  go_wp2_with (go_at_call 82; refine (Ai (HL.out.wr.carry hbW.out) (k := 3) rfl hl (by simp; omega)).mono ?_; rintro e V1 ⟨rfl, hw2, hf2⟩; replace HL := zz (HL.out.put hbW.out hw2 hf2); clear hw2 hf2 hl hbW; have b4 := HL.out.cell 4 (v := .int .i64 (k : Nat)) rfl; have hi3 : (k : Int) ≤ cap := by omega)
  clear e5
  go_wp2_with fail
  refine (Fz HL.out.wr (by simp; omega) (m := k) (ps := ps.take k) (zz (by rw [List.length_take, hm.out]; omega)) (by omega) (HL.out.kd.take k)).mono ?_
  rintro e V2 ⟨rfl, hw2, hf2⟩
  replace HL := zz (HL.out.put (Below.refl _ _) hw2 hf2)
  clear hw2 hf2
  have HT := zz (show (An (ps.take k)).length ≤ 2000000 by have := E8 (ps.take k); simp only [List.length_take] at this; omega)
  clear b4
  have hbW := zz (Below.refl V2.heap.size V2)
  go_wp2_with fail
  refine (Ca _ _).mono ?_
  rintro e w1 ⟨rfl, hb1⟩
  replace hbW := zz (Ab hbW.out hb1)
  go_wp2_with fail
  refine (Ai (P := [tP [41]]) (k := 1) (HL.out.wr.carry (Ab hbW.out (Aa w1 _))) rfl (LiesP.made (news := #[.string { data := #[41] }, .int .i64 0, .int .i64 0, .int .i64 0]) w1 rfl) (by have := HT.out; simp; omega)).mono ?_
  rintro e V3 ⟨rfl, hw2, hf2⟩
  replace HL := zz (HL.out.put (Ab hbW.out (Aa w1 _)) hw2 hf2)
  clear hw2 hf2 hb1 hbW
  obtain ⟨g, o, ha, hat, -, -⟩ := HL.out.wr.node hpn
  have hc0 := hat.c0
  have hw0 := HL.out.wr.cells.1
  rw [ha] at hw0
  obtain ⟨kr, hkr⟩ : ∃ kr, (nd E.l pr).kind = kr := ⟨_, rfl⟩
  rw [hkr] at hc0 hkd
  subst hkd
  clear ha hat hkr
  have hbW := zz (Below.refl V3.heap.size V3)
  go_wp2_with fail
  refine (Ca _ _).mono ?_
  rintro e w1 ⟨rfl, hb1⟩
  replace hbW := zz (Ab hbW.out hb1)
  go_wp2_with fail
  refine (Ib _ _).mono ?_
  rintro e w1 ⟨rfl, hb1⟩
  replace hbW := zz (Ab hbW.out hb1)
  go_wp2_with fail
  refine (Ai (P := [tP [32], nP pb]) (k := 2) (HL.out.wr.carry (Ab hbW.out (Aa w1 _))) rfl (LiesP.made (news := #[.string { data := #[32] }, .int .i64 0, .int .i64 0, .int .i64 0, .string { data := #[] }, .int .i64 pb, .int .i64 0, .int .i64 0]) w1 rfl) (by have := HT.out; simp; omega)).mono ?_
  rintro e V4 ⟨rfl, hw2, hf2⟩
  replace HL := zz (HL.out.put (Ab hbW.out (Aa w1 _)) hw2 hf2)
  clear hw2 hf2 hb1 hbW
  go_wp2_with fail
  refine bodyPost_end (v := .tuple #[]) (by simp [results, Tryz.results152]) rfl ?_
  exact HL.out.done (by first | rfl | simp)
theorem a9h {w : World} {b : Nat} {E : Env} {X : List Pc} {t : Int} {out : List UInt8} (h : Wr w b E X t out) (hX : X.length ≤ 80000000) (ln cl sz : Int) (tx : ByteArray) {a : Option Addr} {m cap k : Nat} {ps : List Nat} (hm : Hid (ps.length = m)) (hk2 : m = k + 2) (hm2 : m ≤ 1000000) (hc : m ≤ cap) (hk : C4 b w a ps)
  {pr pb : Nat} (hpr : Hid (ps.getD k 0 = pr)) (hpb : Hid (ps.getD (k + 1) 0 = pb)) (hpn : pr < E.n) (hkd : (nd E.l pr).kind ≠ 14) :
  Calls Tryz.prog 152 #[pR b, .agg #[.int .u8 4, .int .i64 ln, .int .i64 cl, .int .i64 sz, .int .i64 (k : Nat), .string tx], .slice a m cap] w (Put b E X t out ([tP [102, 110, 32], tP tx.data.toList, tP [40]] ++ An (ps.take k) ++ [tP [41]] ++ [tP [58, 32], nP pr] ++ [tP [32], nP pb]) w) := by
 have HL := zz (Lv.start h hk #[.int .u8 4, .int .i64 ln, .int .i64 cl, .int .i64 sz, .int .i64 (k : Nat), .string tx] 37 ⟨by decide, by decide⟩)
 obtain ⟨g0, o0, rfl⟩ := hk.addr (by rw [hm.out]; omega)
 have hkw : IntKind.i64.wrap ((k : Int) + 1) = ((k + 1 : Nat) : Int) := by rw [IntKind.wrap_i64]; omega
 have hi1 : (k : Int) < m := by omega
 have hi2 : ((k + 1 : Nat) : Int) < m := by omega
 have q0 : _ = some (itv (ps.getD k 0)) := HL.out.kd.cell (i := k) (by rw [hm.out]; omega)
 have q1 : _ = some (itv (ps.getD (k + 1) 0)) := HL.out.kd.cell (i := k + 1) (by rw [hm.out]; omega)
 rw [hpr.out] at q0
 rw [hpb.out] at q1
 clear h hk
 go_enter Tryz.func152, Tryz.ntmps152
 go_wp2_with fail
 go_quiet (fail)
 replace HL := zz (HL.out.more (Bz _ nq))
 generalize (w.alloc (.cells #[.int .u8 4, .int .i64 ln, .int .i64 cl, .int .i64 sz, .int .i64 (k : Nat), .string tx] 37)).drewN nq = V0 at *
 clear q0 q1
 go_wp2_with fail
 have e5 := fun D os => cell_regrown (HL.out.cell 5 (v := .string tx) rfl) D os
 refine Ay 6 3 [20, 23, 24] [pcV { data := #[102, 110, 32] } 0 0 0, pcV tx 0 0 0, pcV { data := #[40] } 0 0 0] #[.string { data := #[102, 110, 32] }, .int .i64 0, .int .i64 0, .int .i64 0, .string tx, .int .i64 0, .int .i64 0, .int .i64 0, .string { data := #[40] }, .int .i64 0, .int .i64 0, .int .i64 0] [tP [102, 110, 32], tP tx.data.toList, tP [40]] _ (by rfl) (by kernel_rfl) (by kernel_rfl) (by rfl) ?al ?go
 case al =>
  intro a w K hA h
  refine Be rfl rfl ?_
  simp [Bu, go_sem] at hA
  go_simp
  exact h
 case go =>
  simp only [List.take_succ_cons, List.take_zero, List.drop_succ_cons, List.drop_zero]
  repeat (refine A6 (fun K hK => ?_); go_simp; first | (refine hK _ ?_; clear hK K) | (apply Exists.intro; refine ⟨fun _ => ?_, hK _ ?_⟩; (first | with_reducible exact Cw _ _ | with_reducible exact Cy _ _ | exact Ap _ _ _ rfl _); clear hK K))
  refine Bv ⟨by simp [Bu, go_sem], ?_⟩
  intro g W hbW hl
  replace hbW := zz hbW
  go_wp2_with (go_at_call 82; refine (Ai (HL.out.wr.carry hbW.out) (k := 3) rfl hl (by simp; omega)).mono ?_; rintro e V1 ⟨rfl, hw2, hf2⟩; replace HL := zz (HL.out.put hbW.out hw2 hf2); clear hw2 hf2 hl hbW; have b4 := HL.out.cell 4 (v := .int .i64 (k : Nat)) rfl; have hi3 : (k : Int) ≤ cap := by omega)
  clear e5
  go_wp2_with fail
  refine (Fz HL.out.wr (by simp; omega) (m := k) (ps := ps.take k) (zz (by rw [List.length_take, hm.out]; omega)) (by omega) (HL.out.kd.take k)).mono ?_
  rintro e V2 ⟨rfl, hw2, hf2⟩
  replace HL := zz (HL.out.put (Below.refl _ _) hw2 hf2)
  clear hw2 hf2
  have HT := zz (show (An (ps.take k)).length ≤ 2000000 by have := E8 (ps.take k); simp only [List.length_take] at this; omega)
  clear b4
  have hbW := zz (Below.refl V2.heap.size V2)
  go_wp2_with fail
  refine (Ca _ _).mono ?_
  rintro e w1 ⟨rfl, hb1⟩
  replace hbW := zz (Ab hbW.out hb1)
  go_wp2_with fail
  refine (Ai (P := [tP [41]]) (k := 1) (HL.out.wr.carry (Ab hbW.out (Aa w1 _))) rfl (LiesP.made (news := #[.string { data := #[41] }, .int .i64 0, .int .i64 0, .int .i64 0]) w1 rfl) (by have := HT.out; simp; omega)).mono ?_
  rintro e V3 ⟨rfl, hw2, hf2⟩
  replace HL := zz (HL.out.put (Ab hbW.out (Aa w1 _)) hw2 hf2)
  clear hw2 hf2 hb1 hbW
  obtain ⟨g, o, ha, hat, -, -⟩ := HL.out.wr.node hpn
  have hc0 := hat.c0
  have hw0 := HL.out.wr.cells.1
  rw [ha] at hw0
  obtain ⟨kr, hkr⟩ : ∃ kr, (nd E.l pr).kind = kr := ⟨_, rfl⟩
  rw [hkr] at hc0 hkd
  have hk14 : ((kr : Int) != 14) = true := by rw [bne_iff_ne]; omega
  clear ha hat hkr
  have hbW := zz (Below.refl V3.heap.size V3)
  go_wp2_with fail
  refine (Ca _ _).mono ?_
  rintro e w1 ⟨rfl, hb1⟩
  replace hbW := zz (Ab hbW.out hb1)
  go_wp2_with fail
  refine (Ib _ _).mono ?_
  rintro e w1 ⟨rfl, hb1⟩
  replace hbW := zz (Ab hbW.out hb1)
  go_wp2_with fail
  refine (Ai (P := [tP [58, 32], nP pr]) (k := 2) (HL.out.wr.carry (Ab hbW.out (Aa w1 _))) rfl (LiesP.made (news := #[.string { data := #[58, 32] }, .int .i64 0, .int .i64 0, .int .i64 0, .string { data := #[] }, .int .i64 pr, .int .i64 0, .int .i64 0]) w1 rfl) (by have := HT.out; simp; omega)).mono ?_
  rintro e V4 ⟨rfl, hw2, hf2⟩
  replace HL := zz (HL.out.put (Ab hbW.out (Aa w1 _)) hw2 hf2)
  clear hw2 hf2 hb1 hbW
  have hbW := zz (Below.refl V4.heap.size V4)
  go_wp2_with fail
  refine (Ca _ _).mono ?_
  rintro e w1 ⟨rfl, hb1⟩
  replace hbW := zz (Ab hbW.out hb1)
  go_wp2_with fail
  refine (Ib _ _).mono ?_
  rintro e w1 ⟨rfl, hb1⟩
  replace hbW := zz (Ab hbW.out hb1)
  go_wp2_with fail
  refine (Ai (P := [tP [32], nP pb]) (k := 2) (HL.out.wr.carry (Ab hbW.out (Aa w1 _))) rfl (LiesP.made (news := #[.string { data := #[32] }, .int .i64 0, .int .i64 0, .int .i64 0, .string { data := #[] }, .int .i64 pb, .int .i64 0, .int .i64 0]) w1 rfl) (by have := HT.out; simp; omega)).mono ?_
  rintro e V5 ⟨rfl, hw2, hf2⟩
  replace HL := zz (HL.out.put (Ab hbW.out (Aa w1 _)) hw2 hf2)
  clear hw2 hf2 hb1 hbW
  go_wp2_with fail
  refine bodyPost_end (v := .tuple #[]) (by simp [results, Tryz.results152]) rfl ?_
  exact HL.out.done (by first | rfl | simp)
end Go.Proofs.YtoaplbljflhheaaGreat
namespace Go.Proofs.YtoaplbljflhheaaGreat
open Go.RowKit Go.Sort
theorem b3w {w : World} {b : Nat} {E : Env} {X : List Pc} {t : Int} {out : List UInt8} (h : Wr w b E X t out) (hX : X.length ≤ 80000000) (ln cl sz num : Int) (tx : ByteArray) {a : Option Addr} {cap : Nat} {p0 : Nat} (hk : C4 b w a [p0]) :
  Calls Tryz.prog 115 #[pR b, .agg #[.int .u8 3, .int .i64 ln, .int .i64 cl, .int .i64 sz, .int .i64 num, .string tx], .slice a 1 cap] w (Put b E X t out [tP tx.data.toList, tP [58, 32], nP p0, tP [59]] w) := by
 have HL := zz (Lv.start h hk #[.int .u8 3, .int .i64 ln, .int .i64 cl, .int .i64 sz, .int .i64 num, .string tx] 37 ⟨by decide, by decide⟩)
 obtain ⟨g0, o0, rfl⟩ := hk.addr (by simp)
 clear h hk
 go_enter Tryz.func115, Tryz.ntmps115
 go_wp2_with fail
 have e5 := fun D os => cell_regrown (HL.out.cell 5 (v := .string tx) rfl) D os
 have k0 := fun D os => cell_regrown (show _ = some (itv p0) from HL.out.kd.cell (i := 0) (by simp)) D os
 simp only [Nat.add_zero] at k0
 refine Ay 10 4 [43, 44, 48, 49] [pcV tx 0 0 0, pcV { data := #[58, 32] } 0 0 0, pcV { data := #[] } p0 0 0, pcV { data := #[59] } 0 0 0] #[.string tx, .int .i64 0, .int .i64 0, .int .i64 0, .string { data := #[58, 32] }, .int .i64 0, .int .i64 0, .int .i64 0, .string { data := #[] }, .int .i64 p0, .int .i64 0, .int .i64 0, .string { data := #[59] }, .int .i64 0, .int .i64 0, .int .i64 0] [tP tx.data.toList, tP [58, 32], nP p0, tP [59]] _ (by rfl) (by kernel_rfl) (by kernel_rfl) (by rfl) ?al ?go
 case al =>
  intro a w K hA h
  refine Be rfl rfl ?_
  simp [Bu, go_sem] at hA
  go_simp
  exact h
 case go =>
  simp only [List.take_succ_cons, List.take_zero, List.drop_succ_cons, List.drop_zero]
  repeat (refine A6 (fun K hK => ?_); go_simp; first | (refine hK _ ?_; clear hK K) | (apply Exists.intro; refine ⟨fun _ => ?_, hK _ ?_⟩; (first | with_reducible exact Cw _ _ | with_reducible exact Cy _ _ | exact Ap _ _ _ rfl _); clear hK K))
  refine Bv ⟨by simp [Bu, go_sem], ?_⟩
  intro g W hbW hl
  replace hbW := zz hbW
  go_wp2_with (go_at_call 82; refine (Ai (HL.out.wr.carry hbW.out) (k := 4) rfl hl (by simp; omega)).mono ?_; rintro e V1 ⟨rfl, hw2, hf2⟩; replace HL := zz (HL.out.put hbW.out hw2 hf2); clear hw2 hf2 hl hbW)
  go_wp2_with fail
  refine bodyPost_end (v := .tuple #[]) (by simp [results, Tryz.results115]) rfl ?_
  exact HL.out.done (by first | rfl | simp)
theorem b3u {w : World} {b : Nat} {E : Env} {X : List Pc} {t : Int} {out : List UInt8} (h : Wr w b E X t out) (hX : X.length ≤ 80000000) (ln cl sz num : Int) (tx : ByteArray) {a : Option Addr} {cap : Nat} {p0 : Nat} (hk : C4 b w a [p0]) :
  Calls Tryz.prog 115 #[pR b, .agg #[.int .u8 5, .int .i64 ln, .int .i64 cl, .int .i64 sz, .int .i64 num, .string tx], .slice a 1 cap] w (Put b E X t out [tP tx.data.toList, tP [58, 32], nP p0] w) := by
 have HL := zz (Lv.start h hk #[.int .u8 5, .int .i64 ln, .int .i64 cl, .int .i64 sz, .int .i64 num, .string tx] 37 ⟨by decide, by decide⟩)
 obtain ⟨g0, o0, rfl⟩ := hk.addr (by simp)
 clear h hk
 go_enter Tryz.func115, Tryz.ntmps115
 go_wp2_with fail
 have e5 := fun D os => cell_regrown (HL.out.cell 5 (v := .string tx) rfl) D os
 have k0 := fun D os => cell_regrown (show _ = some (itv p0) from HL.out.kd.cell (i := 0) (by simp)) D os
 simp only [Nat.add_zero] at k0
 refine Ay 9 3 [57, 58, 62] [pcV tx 0 0 0, pcV { data := #[58, 32] } 0 0 0, pcV { data := #[] } p0 0 0] #[.string tx, .int .i64 0, .int .i64 0, .int .i64 0, .string { data := #[58, 32] }, .int .i64 0, .int .i64 0, .int .i64 0, .string { data := #[] }, .int .i64 p0, .int .i64 0, .int .i64 0] [tP tx.data.toList, tP [58, 32], nP p0] _ (by rfl) (by kernel_rfl) (by kernel_rfl) (by rfl) ?al ?go
 case al =>
  intro a w K hA h
  refine Be rfl rfl ?_
  simp [Bu, go_sem] at hA
  go_simp
  exact h
 case go =>
  simp only [List.take_succ_cons, List.take_zero, List.drop_succ_cons, List.drop_zero]
  repeat (refine A6 (fun K hK => ?_); go_simp; first | (refine hK _ ?_; clear hK K) | (apply Exists.intro; refine ⟨fun _ => ?_, hK _ ?_⟩; (first | with_reducible exact Cw _ _ | with_reducible exact Cy _ _ | exact Ap _ _ _ rfl _); clear hK K))
  refine Bv ⟨by simp [Bu, go_sem], ?_⟩
  intro g W hbW hl
  replace hbW := zz hbW
  go_wp2_with (go_at_call 82; refine (Ai (HL.out.wr.carry hbW.out) (k := 3) rfl hl (by simp; omega)).mono ?_; rintro e V1 ⟨rfl, hw2, hf2⟩; replace HL := zz (HL.out.put hbW.out hw2 hf2); clear hw2 hf2 hl hbW)
  go_wp2_with fail
  refine bodyPost_end (v := .tuple #[]) (by simp [results, Tryz.results115]) rfl ?_
  exact HL.out.done (by first | rfl | simp)
theorem b3t {w : World} {b : Nat} {E : Env} {X : List Pc} {t : Int} {out : List UInt8} (h : Wr w b E X t out) (hX : X.length ≤ 80000000) (ln cl sz num : Int) (tx : ByteArray) {a : Option Addr} {cap : Nat} {m : Nat} {ps : List Nat} (hm : Hid (ps.length = m)) (hm2 : m ≤ 1000000) (hk : C4 b w a ps) :
  Calls Tryz.prog 115 #[pR b, .agg #[.int .u8 6, .int .i64 ln, .int .i64 cl, .int .i64 sz, .int .i64 num, .string tx], .slice a m cap] w (Put b E X t out (Gs ps) w) := by
 have HL := zz (Lv.start h hk #[.int .u8 6, .int .i64 ln, .int .i64 cl, .int .i64 sz, .int .i64 num, .string tx] 37 ⟨by decide, by decide⟩)
 clear h hk
 go_enter Tryz.func115, Tryz.ntmps115
 go_wp2_with fail
 refine (P5 HL.out.wr (by omega) hm hm2 HL.out.kd).mono ?_
 rintro e V1 ⟨rfl, hw2, hf2⟩
 replace HL := zz (HL.out.put (Below.refl _ _) hw2 hf2)
 clear hw2 hf2
 go_wp2_with fail
 refine bodyPost_end (v := .tuple #[]) (by simp [results, Tryz.results115]) rfl ?_
 exact HL.out.done (by first | rfl | simp)
theorem b3x {w : World} {b : Nat} {E : Env} {X : List Pc} {t : Int} {out : List UInt8} (h : Wr w b E X t out) (hX : X.length ≤ 80000000) (ln cl sz num : Int) (tx : ByteArray) {a : Option Addr} {cap : Nat} {m : Nat} {ps : List Nat} (hm : Hid (ps.length = m)) (hm2 : m ≤ 1000000) (hk : C4 b w a ps) :
  Calls Tryz.prog 115 #[pR b, .agg #[.int .u8 2, .int .i64 ln, .int .i64 cl, .int .i64 sz, .int .i64 num, .string tx], .slice a m cap] w (Put b E X t out ([tP [114, 101, 99, 32], tP tx.data.toList, tP [32]] ++ (Gs ps)) w) := by
 have HL := zz (Lv.start h hk #[.int .u8 2, .int .i64 ln, .int .i64 cl, .int .i64 sz, .int .i64 num, .string tx] 37 ⟨by decide, by decide⟩)
 clear h hk
 go_enter Tryz.func115, Tryz.ntmps115
 go_wp2_with fail
 have e5 := fun D os => cell_regrown (HL.out.cell 5 (v := .string tx) rfl) D os
 refine Ay 6 3 [28, 31, 32] [pcV { data := #[114, 101, 99, 32] } 0 0 0, pcV tx 0 0 0, pcV { data := #[32] } 0 0 0] #[.string { data := #[114, 101, 99, 32] }, .int .i64 0, .int .i64 0, .int .i64 0, .string tx, .int .i64 0, .int .i64 0, .int .i64 0, .string { data := #[32] }, .int .i64 0, .int .i64 0, .int .i64 0] [tP [114, 101, 99, 32], tP tx.data.toList, tP [32]] _ (by rfl) (by kernel_rfl) (by kernel_rfl) (by rfl) ?al ?go
 case al =>
  intro a w K hA h
  refine Be rfl rfl ?_
  simp [Bu, go_sem] at hA
  go_simp
  exact h
 case go =>
  simp only [List.take_succ_cons, List.take_zero, List.drop_succ_cons, List.drop_zero]
  repeat (refine A6 (fun K hK => ?_); go_simp; first | (refine hK _ ?_; clear hK K) | (apply Exists.intro; refine ⟨fun _ => ?_, hK _ ?_⟩; (first | with_reducible exact Cw _ _ | with_reducible exact Cy _ _ | exact Ap _ _ _ rfl _); clear hK K))
  refine Bv ⟨by simp [Bu, go_sem], ?_⟩
  intro g W hbW hl
  replace hbW := zz hbW
  go_wp2_with (go_at_call 82; refine (Ai (HL.out.wr.carry hbW.out) (k := 3) rfl hl (by simp; omega)).mono ?_; rintro e V1 ⟨rfl, hw2, hf2⟩; replace HL := zz (HL.out.put hbW.out hw2 hf2); clear hw2 hf2 hl hbW)
  go_wp2_with fail
  refine (P5 HL.out.wr (by simp; omega) hm hm2 HL.out.kd).mono ?_
  rintro e V2 ⟨rfl, hw2, hf2⟩
  replace HL := zz (HL.out.put (Below.refl _ _) hw2 hf2)
  clear hw2 hf2
  go_wp2_with fail
  refine bodyPost_end (v := .tuple #[]) (by simp [results, Tryz.results115]) rfl ?_
  exact HL.out.done (by first | rfl | simp)
theorem b1u {w : World} {b : Nat} {E : Env} {X : List Pc} {t : Int} {out : List UInt8} (h : Wr w b E X t out) (hX : X.length ≤ 80000000) (ln cl sz num : Int) (tx : ByteArray) {a : Option Addr} {cap : Nat} {p0 p1 : Nat} (hk : C4 b w a [p0, p1]) :
  Calls Tryz.prog 116 #[pR b, .agg #[.int .u8 7, .int .i64 ln, .int .i64 cl, .int .i64 sz, .int .i64 num, .string tx], .slice a 2 cap] w (Put b E X t out [tP [118, 97, 114, 32], tP tx.data.toList, tP [58, 32], nP p0, tP [32, 61, 32], nP p1, tP [59]] w) := by
 have HL := zz (Lv.start h hk #[.int .u8 7, .int .i64 ln, .int .i64 cl, .int .i64 sz, .int .i64 num, .string tx] 37 ⟨by decide, by decide⟩)
 obtain ⟨g0, o0, rfl⟩ := hk.addr (by simp)
 clear h hk
 go_enter Tryz.func116, Tryz.ntmps116
 go_wp2_with fail
 have e5 := fun D os => cell_regrown (HL.out.cell 5 (v := .string tx) rfl) D os
 have k0 := fun D os => cell_regrown (show _ = some (itv p0) from HL.out.kd.cell (i := 0) (by simp)) D os
 have k1 := fun D os => cell_regrown (show _ = some (itv p1) from HL.out.kd.cell (i := 1) (by simp)) D os
 simp only [Nat.add_zero] at k0
 refine Ay 16 7 [11, 14, 15, 19, 20, 24, 25] [pcV { data := #[118, 97, 114, 32] } 0 0 0, pcV tx 0 0 0, pcV { data := #[58, 32] } 0 0 0, pcV { data := #[] } p0 0 0, pcV { data := #[32, 61, 32] } 0 0 0, pcV { data := #[] } p1 0 0, pcV { data := #[59] } 0 0 0] #[.string { data := #[118, 97, 114, 32] }, .int .i64 0, .int .i64 0, .int .i64 0, .string tx, .int .i64 0, .int .i64 0, .int .i64 0, .string { data := #[58, 32] }, .int .i64 0, .int .i64 0, .int .i64 0, .string { data := #[] }, .int .i64 p0, .int .i64 0, .int .i64 0, .string { data := #[32, 61, 32] }, .int .i64 0, .int .i64 0, .int .i64 0, .string { data := #[] }, .int .i64 p1, .int .i64 0, .int .i64 0, .string { data := #[59] }, .int .i64 0, .int .i64 0, .int .i64 0] [tP [118, 97, 114, 32], tP tx.data.toList, tP [58, 32], nP p0, tP [32, 61, 32], nP p1, tP [59]] _ (by rfl) (by kernel_rfl) (by kernel_rfl) (by rfl) ?al ?go
 case al =>
  intro a w K hA h
  refine Be rfl rfl ?_
  simp [Bu, go_sem] at hA
  go_simp
  exact h
 case go =>
  simp only [List.take_succ_cons, List.take_zero, List.drop_succ_cons, List.drop_zero]
  repeat (refine A6 (fun K hK => ?_); go_simp; first | (refine hK _ ?_; clear hK K) | (apply Exists.intro; refine ⟨fun _ => ?_, hK _ ?_⟩; (first | with_reducible exact Cw _ _ | with_reducible exact Cy _ _ | exact Ap _ _ _ rfl _); clear hK K))
  refine Bv ⟨by simp [Bu, go_sem], ?_⟩
  intro g W hbW hl
  replace hbW := zz hbW
  go_wp2_with (go_at_call 82; refine (Ai (HL.out.wr.carry hbW.out) (k := 7) rfl hl (by simp; omega)).mono ?_; rintro e V1 ⟨rfl, hw2, hf2⟩; replace HL := zz (HL.out.put hbW.out hw2 hf2); clear hw2 hf2 hl hbW)
  go_wp2_with fail
  refine bodyPost_end (v := .tuple #[]) (by simp [results, Tryz.results116]) rfl ?_
  exact HL.out.done (by first | rfl | simp)
theorem b1t {w : World} {b : Nat} {E : Env} {X : List Pc} {t : Int} {out : List UInt8} (h : Wr w b E X t out) (hX : X.length ≤ 80000000) (ln cl sz num : Int) (tx : ByteArray) {a : Option Addr} {cap : Nat} {p0 p1 : Nat} (hk : C4 b w a [p0, p1]) :
  Calls Tryz.prog 116 #[pR b, .agg #[.int .u8 8, .int .i64 ln, .int .i64 cl, .int .i64 sz, .int .i64 num, .string tx], .slice a 2 cap] w (Put b E X t out [nP p0, tP [32, 61, 32], nP p1, tP [59]] w) := by
 have HL := zz (Lv.start h hk #[.int .u8 8, .int .i64 ln, .int .i64 cl, .int .i64 sz, .int .i64 num, .string tx] 37 ⟨by decide, by decide⟩)
 obtain ⟨g0, o0, rfl⟩ := hk.addr (by simp)
 clear h hk
 go_enter Tryz.func116, Tryz.ntmps116
 go_wp2_with fail
 have k0 := fun D os => cell_regrown (show _ = some (itv p0) from HL.out.kd.cell (i := 0) (by simp)) D os
 have k1 := fun D os => cell_regrown (show _ = some (itv p1) from HL.out.kd.cell (i := 1) (by simp)) D os
 simp only [Nat.add_zero] at k0
 refine Ay 11 4 [34, 35, 39, 40] [pcV { data := #[] } p0 0 0, pcV { data := #[32, 61, 32] } 0 0 0, pcV { data := #[] } p1 0 0, pcV { data := #[59] } 0 0 0] #[.string { data := #[] }, .int .i64 p0, .int .i64 0, .int .i64 0, .string { data := #[32, 61, 32] }, .int .i64 0, .int .i64 0, .int .i64 0, .string { data := #[] }, .int .i64 p1, .int .i64 0, .int .i64 0, .string { data := #[59] }, .int .i64 0, .int .i64 0, .int .i64 0] [nP p0, tP [32, 61, 32], nP p1, tP [59]] _ (by rfl) (by kernel_rfl) (by kernel_rfl) (by rfl) ?al ?go
 case al =>
  intro a w K hA h
  refine Be rfl rfl ?_
  simp [Bu, go_sem] at hA
  go_simp
  exact h
 case go =>
  simp only [List.take_succ_cons, List.take_zero, List.drop_succ_cons, List.drop_zero]
  repeat (refine A6 (fun K hK => ?_); go_simp; first | (refine hK _ ?_; clear hK K) | (apply Exists.intro; refine ⟨fun _ => ?_, hK _ ?_⟩; (first | with_reducible exact Cw _ _ | with_reducible exact Cy _ _ | exact Ap _ _ _ rfl _); clear hK K))
  refine Bv ⟨by simp [Bu, go_sem], ?_⟩
  intro g W hbW hl
  replace hbW := zz hbW
  go_wp2_with (go_at_call 82; refine (Ai (HL.out.wr.carry hbW.out) (k := 4) rfl hl (by simp; omega)).mono ?_; rintro e V1 ⟨rfl, hw2, hf2⟩; replace HL := zz (HL.out.put hbW.out hw2 hf2); clear hw2 hf2 hl hbW)
  go_wp2_with fail
  refine bodyPost_end (v := .tuple #[]) (by simp [results, Tryz.results116]) rfl ?_
  exact HL.out.done (by first | rfl | simp)
theorem a7u {w : World} {b : Nat} {E : Env} {X : List Pc} {t : Int} {out : List UInt8} (h : Wr w b E X t out) (hX : X.length ≤ 80000000) (ln cl sz num : Int) (tx : ByteArray) {a : Option Addr} {cap : Nat} {p0 p1 : Nat} (hk : C4 b w a [p0, p1]) :
  Calls Tryz.prog 116 #[pR b, .agg #[.int .u8 9, .int .i64 ln, .int .i64 cl, .int .i64 sz, .int .i64 num, .string tx], .slice a 2 cap] w (Put b E X t out [tP [105, 102, 32], nP p0, tP [32], nP p1] w) := by
 have HL := zz (Lv.start h hk #[.int .u8 9, .int .i64 ln, .int .i64 cl, .int .i64 sz, .int .i64 num, .string tx] 37 ⟨by decide, by decide⟩)
 obtain ⟨g0, o0, rfl⟩ := hk.addr (by simp)
 clear h hk
 go_enter Tryz.func116, Tryz.ntmps116
 go_wp2_with fail
 have k0 := fun D os => cell_regrown (show _ = some (itv p0) from HL.out.kd.cell (i := 0) (by simp)) D os
 have k1 := fun D os => cell_regrown (show _ = some (itv p1) from HL.out.kd.cell (i := 1) (by simp)) D os
 simp only [Nat.add_zero] at k0
 refine Ay 11 4 [46, 50, 51, 55] [pcV { data := #[105, 102, 32] } 0 0 0, pcV { data := #[] } p0 0 0, pcV { data := #[32] } 0 0 0, pcV { data := #[] } p1 0 0] #[.string { data := #[105, 102, 32] }, .int .i64 0, .int .i64 0, .int .i64 0, .string { data := #[] }, .int .i64 p0, .int .i64 0, .int .i64 0, .string { data := #[32] }, .int .i64 0, .int .i64 0, .int .i64 0, .string { data := #[] }, .int .i64 p1, .int .i64 0, .int .i64 0] [tP [105, 102, 32], nP p0, tP [32], nP p1] _ (by rfl) (by kernel_rfl) (by kernel_rfl) (by rfl) ?al ?go
 case al =>
  intro a w K hA h
  refine Be rfl rfl ?_
  simp [Bu, go_sem] at hA
  go_simp
  exact h
 case go =>
  simp only [List.take_succ_cons, List.take_zero, List.drop_succ_cons, List.drop_zero]
  repeat (refine A6 (fun K hK => ?_); go_simp; first | (refine hK _ ?_; clear hK K) | (apply Exists.intro; refine ⟨fun _ => ?_, hK _ ?_⟩; (first | with_reducible exact Cw _ _ | with_reducible exact Cy _ _ | exact Ap _ _ _ rfl _); clear hK K))
  refine Bv ⟨by simp [Bu, go_sem], ?_⟩
  intro g W hbW hl
  replace hbW := zz hbW
  go_wp2_with (go_at_call 82; refine (Ai (HL.out.wr.carry hbW.out) (k := 4) rfl hl (by simp; omega)).mono ?_; rintro e V1 ⟨rfl, hw2, hf2⟩; replace HL := zz (HL.out.put hbW.out hw2 hf2); clear hw2 hf2 hl hbW)
  go_wp2_with fail
  refine bodyPost_end (v := .tuple #[]) (by simp [results, Tryz.results116]) rfl ?_
  exact HL.out.done (by first | rfl | simp)
theorem a7t {w : World} {b : Nat} {E : Env} {X : List Pc} {t : Int} {out : List UInt8} (h : Wr w b E X t out) (hX : X.length ≤ 80000000) (ln cl sz num : Int) (tx : ByteArray) {a : Option Addr} {cap : Nat} {p0 p1 p2 : Nat} (hk : C4 b w a [p0, p1, p2]) :
  Calls Tryz.prog 116 #[pR b, .agg #[.int .u8 9, .int .i64 ln, .int .i64 cl, .int .i64 sz, .int .i64 num, .string tx], .slice a 3 cap] w (Put b E X t out ([tP [105, 102, 32], nP p0, tP [32], nP p1] ++ [tP [32, 101, 108, 115, 101, 32], nP p2]) w) := by
 have HL := zz (Lv.start h hk #[.int .u8 9, .int .i64 ln, .int .i64 cl, .int .i64 sz, .int .i64 num, .string tx] 37 ⟨by decide, by decide⟩)
 obtain ⟨g0, o0, rfl⟩ := hk.addr (by simp)
 clear h hk
 go_enter Tryz.func116, Tryz.ntmps116
 go_wp2_with fail
 have k0 := fun D os => cell_regrown (show _ = some (itv p0) from HL.out.kd.cell (i := 0) (by simp)) D os
 have k1 := fun D os => cell_regrown (show _ = some (itv p1) from HL.out.kd.cell (i := 1) (by simp)) D os
 simp only [Nat.add_zero] at k0
 refine Ay 11 4 [46, 50, 51, 55] [pcV { data := #[105, 102, 32] } 0 0 0, pcV { data := #[] } p0 0 0, pcV { data := #[32] } 0 0 0, pcV { data := #[] } p1 0 0] #[.string { data := #[105, 102, 32] }, .int .i64 0, .int .i64 0, .int .i64 0, .string { data := #[] }, .int .i64 p0, .int .i64 0, .int .i64 0, .string { data := #[32] }, .int .i64 0, .int .i64 0, .int .i64 0, .string { data := #[] }, .int .i64 p1, .int .i64 0, .int .i64 0] [tP [105, 102, 32], nP p0, tP [32], nP p1] _ (by rfl) (by kernel_rfl) (by kernel_rfl) (by rfl) ?al ?go
 case al =>
  intro a w K hA h
  refine Be rfl rfl ?_
  simp [Bu, go_sem] at hA
  go_simp
  exact h
 case go =>
  simp only [List.take_succ_cons, List.take_zero, List.drop_succ_cons, List.drop_zero]
  repeat (refine A6 (fun K hK => ?_); go_simp; first | (refine hK _ ?_; clear hK K) | (apply Exists.intro; refine ⟨fun _ => ?_, hK _ ?_⟩; (first | with_reducible exact Cw _ _ | with_reducible exact Cy _ _ | exact Ap _ _ _ rfl _); clear hK K))
  refine Bv ⟨by simp [Bu, go_sem], ?_⟩
  intro g W hbW hl
  replace hbW := zz hbW
  go_wp2_with (go_at_call 82; refine (Ai (HL.out.wr.carry hbW.out) (k := 4) rfl hl (by simp; omega)).mono ?_; rintro e V1 ⟨rfl, hw2, hf2⟩; replace HL := zz (HL.out.put hbW.out hw2 hf2); clear hw2 hf2 hl hbW)
  go_wp2_with fail
  have k0 := fun D os => cell_regrown (show _ = some (itv p0) from HL.out.kd.cell (i := 0) (by simp)) D os
  have k1 := fun D os => cell_regrown (show _ = some (itv p1) from HL.out.kd.cell (i := 1) (by simp)) D os
  have k2 := fun D os => cell_regrown (show _ = some (itv p2) from HL.out.kd.cell (i := 2) (by simp)) D os
  simp only [Nat.add_zero] at k0
  refine Ay 6 2 [62, 66] [pcV { data := #[32, 101, 108, 115, 101, 32] } 0 0 0, pcV { data := #[] } p2 0 0] #[.string { data := #[32, 101, 108, 115, 101, 32] }, .int .i64 0, .int .i64 0, .int .i64 0, .string { data := #[] }, .int .i64 p2, .int .i64 0, .int .i64 0] [tP [32, 101, 108, 115, 101, 32], nP p2] _ (by rfl) (by kernel_rfl) (by kernel_rfl) (by rfl) ?al ?go
  case al =>
   intro a w K hA h
   refine Be rfl rfl ?_
   simp [Bu, go_sem] at hA
   go_simp
   exact h
  case go =>
   simp only [List.take_succ_cons, List.take_zero, List.drop_succ_cons, List.drop_zero]
   repeat (refine A6 (fun K hK => ?_); go_simp; first | (refine hK _ ?_; clear hK K) | (apply Exists.intro; refine ⟨fun _ => ?_, hK _ ?_⟩; (first | with_reducible exact Cw _ _ | with_reducible exact Cy _ _ | exact Ap _ _ _ rfl _); clear hK K))
   refine Bv ⟨by simp [Bu, go_sem], ?_⟩
   intro g W hbW hl
   replace hbW := zz hbW
   go_wp2_with (go_at_call 82; refine (Ai (HL.out.wr.carry hbW.out) (k := 2) rfl hl (by simp; omega)).mono ?_; rintro e V2 ⟨rfl, hw2, hf2⟩; replace HL := zz (HL.out.put hbW.out hw2 hf2); clear hw2 hf2 hl hbW)
   go_wp2_with fail
   refine bodyPost_end (v := .tuple #[]) (by simp [results, Tryz.results116]) rfl ?_
   exact HL.out.done (by first | rfl | simp)
theorem a7x {w : World} {b : Nat} {E : Env} {X : List Pc} {t : Int} {out : List UInt8} (h : Wr w b E X t out) (hX : X.length ≤ 80000000) (ln cl sz num : Int) (tx : ByteArray) {a : Option Addr} {cap : Nat} {p0 p1 : Nat} (hk : C4 b w a [p0, p1]) :
  Calls Tryz.prog 116 #[pR b, .agg #[.int .u8 10, .int .i64 ln, .int .i64 cl, .int .i64 sz, .int .i64 num, .string tx], .slice a 2 cap] w (Put b E X t out [tP [119, 104, 105, 108, 101, 32], nP p0, tP [32], nP p1] w) := by
 have HL := zz (Lv.start h hk #[.int .u8 10, .int .i64 ln, .int .i64 cl, .int .i64 sz, .int .i64 num, .string tx] 37 ⟨by decide, by decide⟩)
 obtain ⟨g0, o0, rfl⟩ := hk.addr (by simp)
 clear h hk
 go_enter Tryz.func116, Tryz.ntmps116
 go_wp2_with fail
 have k0 := fun D os => cell_regrown (show _ = some (itv p0) from HL.out.kd.cell (i := 0) (by simp)) D os
 have k1 := fun D os => cell_regrown (show _ = some (itv p1) from HL.out.kd.cell (i := 1) (by simp)) D os
 simp only [Nat.add_zero] at k0
 refine Ay 11 4 [72, 76, 77, 81] [pcV { data := #[119, 104, 105, 108, 101, 32] } 0 0 0, pcV { data := #[] } p0 0 0, pcV { data := #[32] } 0 0 0, pcV { data := #[] } p1 0 0] #[.string { data := #[119, 104, 105, 108, 101, 32] }, .int .i64 0, .int .i64 0, .int .i64 0, .string { data := #[] }, .int .i64 p0, .int .i64 0, .int .i64 0, .string { data := #[32] }, .int .i64 0, .int .i64 0, .int .i64 0, .string { data := #[] }, .int .i64 p1, .int .i64 0, .int .i64 0] [tP [119, 104, 105, 108, 101, 32], nP p0, tP [32], nP p1] _ (by rfl) (by kernel_rfl) (by kernel_rfl) (by rfl) ?al ?go
 case al =>
  intro a w K hA h
  refine Be rfl rfl ?_
  simp [Bu, go_sem] at hA
  go_simp
  exact h
 case go =>
  simp only [List.take_succ_cons, List.take_zero, List.drop_succ_cons, List.drop_zero]
  repeat (refine A6 (fun K hK => ?_); go_simp; first | (refine hK _ ?_; clear hK K) | (apply Exists.intro; refine ⟨fun _ => ?_, hK _ ?_⟩; (first | with_reducible exact Cw _ _ | with_reducible exact Cy _ _ | exact Ap _ _ _ rfl _); clear hK K))
  refine Bv ⟨by simp [Bu, go_sem], ?_⟩
  intro g W hbW hl
  replace hbW := zz hbW
  go_wp2_with (go_at_call 82; refine (Ai (HL.out.wr.carry hbW.out) (k := 4) rfl hl (by simp; omega)).mono ?_; rintro e V1 ⟨rfl, hw2, hf2⟩; replace HL := zz (HL.out.put hbW.out hw2 hf2); clear hw2 hf2 hl hbW)
  go_wp2_with fail
  refine bodyPost_end (v := .tuple #[]) (by simp [results, Tryz.results116]) rfl ?_
  exact HL.out.done (by first | rfl | simp)
theorem a2j {w : World} {b : Nat} {E : Env} {X : List Pc} {t : Int} {out : List UInt8} (h : Wr w b E X t out) (hX : X.length ≤ 80000000) (ln cl sz num : Int) (tx : ByteArray) {a : Option Addr} {cap : Nat} (hk : C4 b w a []) :
  Calls Tryz.prog 116 #[pR b, .agg #[.int .u8 11, .int .i64 ln, .int .i64 cl, .int .i64 sz, .int .i64 num, .string tx], .slice a 0 cap] w (Put b E X t out ([tP [114, 101, 116, 117, 114, 110]] ++ [tP [59]]) w) := by
 have HL := zz (Lv.start h hk #[.int .u8 11, .int .i64 ln, .int .i64 cl, .int .i64 sz, .int .i64 num, .string tx] 37 ⟨by decide, by decide⟩)
 clear h hk
 go_enter Tryz.func116, Tryz.ntmps116
 have hbW := zz (Below.refl (w.alloc (.cells #[.int .u8 11, .int .i64 ln, .int .i64 cl, .int .i64 sz, .int .i64 num, .string tx] 37)).heap.size (w.alloc (.cells #[.int .u8 11, .int .i64 ln, .int .i64 cl, .int .i64 sz, .int .i64 num, .string tx] 37)))
 go_wp2_with fail
 refine (Ca _ _).mono ?_
 rintro e w1 ⟨rfl, hb1⟩
 replace hbW := zz (Ab hbW.out hb1)
 go_wp2_with fail
 refine (Ai (P := [tP [114, 101, 116, 117, 114, 110]]) (k := 1) (HL.out.wr.carry (Ab hbW.out (Aa w1 _))) rfl (LiesP.made (news := #[.string { data := #[114, 101, 116, 117, 114, 110] }, .int .i64 0, .int .i64 0, .int .i64 0]) w1 rfl) (by simp; omega)).mono ?_
 rintro e V1 ⟨rfl, hw2, hf2⟩
 replace HL := zz (HL.out.put (Ab hbW.out (Aa w1 _)) hw2 hf2)
 clear hw2 hf2 hb1 hbW
 have hbW := zz (Below.refl V1.heap.size V1)
 go_wp2_with fail
 refine (Ca _ _).mono ?_
 rintro e w1 ⟨rfl, hb1⟩
 replace hbW := zz (Ab hbW.out hb1)
 go_wp2_with fail
 refine (Ai (P := [tP [59]]) (k := 1) (HL.out.wr.carry (Ab hbW.out (Aa w1 _))) rfl (LiesP.made (news := #[.string { data := #[59] }, .int .i64 0, .int .i64 0, .int .i64 0]) w1 rfl) (by simp; omega)).mono ?_
 rintro e V2 ⟨rfl, hw2, hf2⟩
 replace HL := zz (HL.out.put (Ab hbW.out (Aa w1 _)) hw2 hf2)
 clear hw2 hf2 hb1 hbW
 go_wp2_with fail
 refine bodyPost_end (v := .tuple #[]) (by simp [results, Tryz.results116]) rfl ?_
 exact HL.out.done (by first | rfl | simp)
theorem a2i {w : World} {b : Nat} {E : Env} {X : List Pc} {t : Int} {out : List UInt8} (h : Wr w b E X t out) (hX : X.length ≤ 80000000) (ln cl sz num : Int) (tx : ByteArray) {a : Option Addr} {cap : Nat} {p0 : Nat} (hk : C4 b w a [p0]) :
  Calls Tryz.prog 116 #[pR b, .agg #[.int .u8 11, .int .i64 ln, .int .i64 cl, .int .i64 sz, .int .i64 num, .string tx], .slice a 1 cap] w (Put b E X t out ([tP [114, 101, 116, 117, 114, 110]] ++ [tP [32], nP p0] ++ [tP [59]]) w) := by
 have HL := zz (Lv.start h hk #[.int .u8 11, .int .i64 ln, .int .i64 cl, .int .i64 sz, .int .i64 num, .string tx] 37 ⟨by decide, by decide⟩)
 obtain ⟨g0, o0, rfl⟩ := hk.addr (by simp)
 clear h hk
 go_enter Tryz.func116, Tryz.ntmps116
 have hbW := zz (Below.refl (w.alloc (.cells #[.int .u8 11, .int .i64 ln, .int .i64 cl, .int .i64 sz, .int .i64 num, .string tx] 37)).heap.size (w.alloc (.cells #[.int .u8 11, .int .i64 ln, .int .i64 cl, .int .i64 sz, .int .i64 num, .string tx] 37)))
 go_wp2_with fail
 refine (Ca _ _).mono ?_
 rintro e w1 ⟨rfl, hb1⟩
 replace hbW := zz (Ab hbW.out hb1)
 go_wp2_with fail
 refine (Ai (P := [tP [114, 101, 116, 117, 114, 110]]) (k := 1) (HL.out.wr.carry (Ab hbW.out (Aa w1 _))) rfl (LiesP.made (news := #[.string { data := #[114, 101, 116, 117, 114, 110] }, .int .i64 0, .int .i64 0, .int .i64 0]) w1 rfl) (by simp; omega)).mono ?_
 rintro e V1 ⟨rfl, hw2, hf2⟩
 replace HL := zz (HL.out.put (Ab hbW.out (Aa w1 _)) hw2 hf2)
 clear hw2 hf2 hb1 hbW
 go_wp2_with fail
 have k0 := fun D os => cell_regrown (show _ = some (itv p0) from HL.out.kd.cell (i := 0) (by simp)) D os
 simp only [Nat.add_zero] at k0
 refine Ay 6 2 [94, 98] [pcV { data := #[32] } 0 0 0, pcV { data := #[] } p0 0 0] #[.string { data := #[32] }, .int .i64 0, .int .i64 0, .int .i64 0, .string { data := #[] }, .int .i64 p0, .int .i64 0, .int .i64 0] [tP [32], nP p0] _ (by rfl) (by kernel_rfl) (by kernel_rfl) (by rfl) ?al ?go
 case al =>
  intro a w K hA h
  refine Be rfl rfl ?_
  simp [Bu, go_sem] at hA
  go_simp
  exact h
 case go =>
  simp only [List.take_succ_cons, List.take_zero, List.drop_succ_cons, List.drop_zero]
  repeat (refine A6 (fun K hK => ?_); go_simp; first | (refine hK _ ?_; clear hK K) | (apply Exists.intro; refine ⟨fun _ => ?_, hK _ ?_⟩; (first | with_reducible exact Cw _ _ | with_reducible exact Cy _ _ | exact Ap _ _ _ rfl _); clear hK K))
  refine Bv ⟨by simp [Bu, go_sem], ?_⟩
  intro g W hbW hl
  replace hbW := zz hbW
  go_wp2_with (go_at_call 82; refine (Ai (HL.out.wr.carry hbW.out) (k := 2) rfl hl (by simp; omega)).mono ?_; rintro e V2 ⟨rfl, hw2, hf2⟩; replace HL := zz (HL.out.put hbW.out hw2 hf2); clear hw2 hf2 hl hbW)
  have hbW := zz (Below.refl V2.heap.size V2)
  go_wp2_with fail
  refine (Ca _ _).mono ?_
  rintro e w1 ⟨rfl, hb1⟩
  replace hbW := zz (Ab hbW.out hb1)
  go_wp2_with fail
  refine (Ai (P := [tP [59]]) (k := 1) (HL.out.wr.carry (Ab hbW.out (Aa w1 _))) rfl (LiesP.made (news := #[.string { data := #[59] }, .int .i64 0, .int .i64 0, .int .i64 0]) w1 rfl) (by simp; omega)).mono ?_
  rintro e V3 ⟨rfl, hw2, hf2⟩
  replace HL := zz (HL.out.put (Ab hbW.out (Aa w1 _)) hw2 hf2)
  clear hw2 hf2 hb1 hbW
  go_wp2_with fail
  refine bodyPost_end (v := .tuple #[]) (by simp [results, Tryz.results116]) rfl ?_
  exact HL.out.done (by first | rfl | simp)
theorem a7w {w : World} {b : Nat} {E : Env} {X : List Pc} {t : Int} {out : List UInt8} (h : Wr w b E X t out) (hX : X.length ≤ 80000000) (ln cl sz num : Int) (tx : ByteArray) {a : Option Addr} {cap : Nat} {p0 : Nat} (hk : C4 b w a [p0]) :
  Calls Tryz.prog 116 #[pR b, .agg #[.int .u8 12, .int .i64 ln, .int .i64 cl, .int .i64 sz, .int .i64 num, .string tx], .slice a 1 cap] w (Put b E X t out [tP [112, 114, 105, 110, 116, 32], nP p0, tP [59]] w) := by
 have HL := zz (Lv.start h hk #[.int .u8 12, .int .i64 ln, .int .i64 cl, .int .i64 sz, .int .i64 num, .string tx] 37 ⟨by decide, by decide⟩)
 obtain ⟨g0, o0, rfl⟩ := hk.addr (by simp)
 clear h hk
 go_enter Tryz.func116, Tryz.ntmps116
 go_wp2_with fail
 have k0 := fun D os => cell_regrown (show _ = some (itv p0) from HL.out.kd.cell (i := 0) (by simp)) D os
 simp only [Nat.add_zero] at k0
 refine Ay 7 3 [108, 112, 113] [pcV { data := #[112, 114, 105, 110, 116, 32] } 0 0 0, pcV { data := #[] } p0 0 0, pcV { data := #[59] } 0 0 0] #[.string { data := #[112, 114, 105, 110, 116, 32] }, .int .i64 0, .int .i64 0, .int .i64 0, .string { data := #[] }, .int .i64 p0, .int .i64 0, .int .i64 0, .string { data := #[59] }, .int .i64 0, .int .i64 0, .int .i64 0] [tP [112, 114, 105, 110, 116, 32], nP p0, tP [59]] _ (by rfl) (by kernel_rfl) (by kernel_rfl) (by rfl) ?al ?go
 case al =>
  intro a w K hA h
  refine Be rfl rfl ?_
  simp [Bu, go_sem] at hA
  go_simp
  exact h
 case go =>
  simp only [List.take_succ_cons, List.take_zero, List.drop_succ_cons, List.drop_zero]
  repeat (refine A6 (fun K hK => ?_); go_simp; first | (refine hK _ ?_; clear hK K) | (apply Exists.intro; refine ⟨fun _ => ?_, hK _ ?_⟩; (first | with_reducible exact Cw _ _ | with_reducible exact Cy _ _ | exact Ap _ _ _ rfl _); clear hK K))
  refine Bv ⟨by simp [Bu, go_sem], ?_⟩
  intro g W hbW hl
  replace hbW := zz hbW
  go_wp2_with (go_at_call 82; refine (Ai (HL.out.wr.carry hbW.out) (k := 3) rfl hl (by simp; omega)).mono ?_; rintro e V1 ⟨rfl, hw2, hf2⟩; replace HL := zz (HL.out.put hbW.out hw2 hf2); clear hw2 hf2 hl hbW)
  go_wp2_with fail
  refine bodyPost_end (v := .tuple #[]) (by simp [results, Tryz.results116]) rfl ?_
  exact HL.out.done (by first | rfl | simp)
theorem a7v {w : World} {b : Nat} {E : Env} {X : List Pc} {t : Int} {out : List UInt8} (h : Wr w b E X t out) (hX : X.length ≤ 80000000) (ln cl sz num : Int) (tx : ByteArray) {a : Option Addr} {cap : Nat} {p0 : Nat} (hk : C4 b w a [p0]) :
  Calls Tryz.prog 116 #[pR b, .agg #[.int .u8 13, .int .i64 ln, .int .i64 cl, .int .i64 sz, .int .i64 num, .string tx], .slice a 1 cap] w (Put b E X t out [nP p0, tP [59]] w) := by
 have HL := zz (Lv.start h hk #[.int .u8 13, .int .i64 ln, .int .i64 cl, .int .i64 sz, .int .i64 num, .string tx] 37 ⟨by decide, by decide⟩)
 obtain ⟨g0, o0, rfl⟩ := hk.addr (by simp)
 clear h hk
 go_enter Tryz.func116, Tryz.ntmps116
 have k0 : _ = some (itv p0) := HL.out.kd.cell (i := 0) (by simp)
 simp only [Nat.add_zero] at k0
 have hbW := zz (Below.refl (w.alloc (.cells #[.int .u8 13, .int .i64 ln, .int .i64 cl, .int .i64 sz, .int .i64 num, .string tx] 37)).heap.size (w.alloc (.cells #[.int .u8 13, .int .i64 ln, .int .i64 cl, .int .i64 sz, .int .i64 num, .string tx] 37)))
 go_wp2_with fail
 refine (Ib _ _).mono ?_
 rintro e w1 ⟨rfl, hb1⟩
 replace hbW := zz (Ab hbW.out hb1)
 go_wp2_with fail
 refine (Ca _ _).mono ?_
 rintro e w1 ⟨rfl, hb1⟩
 replace hbW := zz (Ab hbW.out hb1)
 go_wp2_with fail
 refine (Ai (P := [nP p0, tP [59]]) (k := 2) (HL.out.wr.carry (Ab hbW.out (Aa w1 _))) rfl (LiesP.made (news := #[.string { data := #[] }, .int .i64 p0, .int .i64 0, .int .i64 0, .string { data := #[59] }, .int .i64 0, .int .i64 0, .int .i64 0]) w1 rfl) (by simp; omega)).mono ?_
 rintro e V1 ⟨rfl, hw2, hf2⟩
 replace HL := zz (HL.out.put (Ab hbW.out (Aa w1 _)) hw2 hf2)
 clear hw2 hf2 hb1 hbW
 clear k0
 go_wp2_with fail
 refine bodyPost_end (v := .tuple #[]) (by simp [results, Tryz.results116]) rfl ?_
 exact HL.out.done (by first | rfl | simp)
end Go.Proofs.YtoaplbljflhheaaGreat
namespace Go.Proofs.YtoaplbljflhheaaGreat
open Go.RowKit Go.Sort
theorem b5k {w : World} {b : Nat} {E : Env} {X : List Pc} {t : Int} {out : List UInt8} (h : Wr w b E X t out) (hX : X.length ≤ 80000000) (s : ByteArray) {a : Option Addr} {cap : Nat} {p0 p1 : Nat} (hk : C4 b w a [p0, p1]) :
  Calls Tryz.prog 157 #[pR b, .agg #[.string s, .int .i64 3], .slice a 2 cap] w (Put b E X t out [oP p0 (4), tP [32], tP s.data.toList, tP [32], oP p1 (4)] w) := by
 have HL := zz (Lv.start h hk #[.string s, .int .i64 3] 103 ⟨by decide, by decide⟩)
 obtain ⟨g0, o0, rfl⟩ := hk.addr (by simp)
 clear h hk
 go_enter Tryz.func157, Tryz.ntmps157
 go_wp2_with fail
 have e0 := fun D os => cell_regrown (HL.out.cell 0 (v := .string s) rfl) D os
 have e1 := fun D os => cell_regrown (HL.out.cell 1 (v := .int .i64 3) rfl) D os
 have k0 := fun D os => cell_regrown (show _ = some (itv p0) from HL.out.kd.cell (i := 0) (by simp)) D os
 have k1 := fun D os => cell_regrown (show _ = some (itv p1) from HL.out.kd.cell (i := 1) (by simp)) D os
 simp only [Nat.add_zero] at k0
 refine Ay 18 5 [22, 23, 26, 27, 34] [pcV { data := #[] } p0 4 0, pcV { data := #[32] } 0 0 0, pcV s 0 0 0, pcV { data := #[32] } 0 0 0, pcV { data := #[] } p1 4 0] #[.string { data := #[] }, .int .i64 p0, .int .i64 4, .int .i64 0, .string { data := #[32] }, .int .i64 0, .int .i64 0, .int .i64 0, .string s, .int .i64 0, .int .i64 0, .int .i64 0, .string { data := #[32] }, .int .i64 0, .int .i64 0, .int .i64 0, .string { data := #[] }, .int .i64 p1, .int .i64 4, .int .i64 0] [oP p0 (4), tP [32], tP s.data.toList, tP [32], oP p1 (4)] _ (by rfl) (by kernel_rfl) (by kernel_rfl) (by rfl) ?al ?go
 case al =>
  intro a w K hA h
  refine Be rfl rfl ?_
  simp [Bu, go_sem] at hA
  go_simp
  exact h
 case go =>
  simp only [List.take_succ_cons, List.take_zero, List.drop_succ_cons, List.drop_zero]
  repeat (refine A6 (fun K hK => ?_); go_simp; first | (refine hK _ ?_; clear hK K) | (apply Exists.intro; refine ⟨fun _ => ?_, hK _ ?_⟩; (first | with_reducible exact Cw _ _ | with_reducible exact Cy _ _ | exact Ap _ _ _ rfl _ | exact Ap _ 4 4 (by omega) _); clear hK K))
  refine Bv ⟨by simp [Bu, go_sem], ?_⟩
  intro g W hbW hl
  replace hbW := zz hbW
  go_wp2_with (go_at_call 82; refine (Ai (HL.out.wr.carry hbW.out) (k := 5) rfl hl (by simp; omega)).mono ?_; rintro e V1 ⟨rfl, hw2, hf2⟩; replace HL := zz (HL.out.put hbW.out hw2 hf2); clear hw2 hf2 hl hbW)
  go_wp2_with fail
  refine bodyPost_end (v := .tuple #[]) (by simp [results, Tryz.results157]) rfl ?_
  exact HL.out.done (by first | rfl | simp)
theorem b5j {w : World} {b : Nat} {E : Env} {X : List Pc} {t : Int} {out : List UInt8} (h : Wr w b E X t out) (hX : X.length ≤ 80000000) (s : ByteArray) {a : Option Addr} {cap : Nat} {p0 p1 : Nat} (hk : C4 b w a [p0, p1]) :
  Calls Tryz.prog 157 #[pR b, .agg #[.string s, .int .i64 4], .slice a 2 cap] w (Put b E X t out [oP p0 (5), tP [32], tP s.data.toList, tP [32], oP p1 (5)] w) := by
 have HL := zz (Lv.start h hk #[.string s, .int .i64 4] 103 ⟨by decide, by decide⟩)
 obtain ⟨g0, o0, rfl⟩ := hk.addr (by simp)
 clear h hk
 go_enter Tryz.func157, Tryz.ntmps157
 go_wp2_with fail
 have e0 := fun D os => cell_regrown (HL.out.cell 0 (v := .string s) rfl) D os
 have e1 := fun D os => cell_regrown (HL.out.cell 1 (v := .int .i64 4) rfl) D os
 have k0 := fun D os => cell_regrown (show _ = some (itv p0) from HL.out.kd.cell (i := 0) (by simp)) D os
 have k1 := fun D os => cell_regrown (show _ = some (itv p1) from HL.out.kd.cell (i := 1) (by simp)) D os
 simp only [Nat.add_zero] at k0
 refine Ay 18 5 [22, 23, 26, 27, 34] [pcV { data := #[] } p0 5 0, pcV { data := #[32] } 0 0 0, pcV s 0 0 0, pcV { data := #[32] } 0 0 0, pcV { data := #[] } p1 5 0] #[.string { data := #[] }, .int .i64 p0, .int .i64 5, .int .i64 0, .string { data := #[32] }, .int .i64 0, .int .i64 0, .int .i64 0, .string s, .int .i64 0, .int .i64 0, .int .i64 0, .string { data := #[32] }, .int .i64 0, .int .i64 0, .int .i64 0, .string { data := #[] }, .int .i64 p1, .int .i64 5, .int .i64 0] [oP p0 (5), tP [32], tP s.data.toList, tP [32], oP p1 (5)] _ (by rfl) (by kernel_rfl) (by kernel_rfl) (by rfl) ?al ?go
 case al =>
  intro a w K hA h
  refine Be rfl rfl ?_
  simp [Bu, go_sem] at hA
  go_simp
  exact h
 case go =>
  simp only [List.take_succ_cons, List.take_zero, List.drop_succ_cons, List.drop_zero]
  repeat (refine A6 (fun K hK => ?_); go_simp; first | (refine hK _ ?_; clear hK K) | (apply Exists.intro; refine ⟨fun _ => ?_, hK _ ?_⟩; (first | with_reducible exact Cw _ _ | with_reducible exact Cy _ _ | exact Ap _ _ _ rfl _ | exact Ap _ 5 5 (by omega) _); clear hK K))
  refine Bv ⟨by simp [Bu, go_sem], ?_⟩
  intro g W hbW hl
  replace hbW := zz hbW
  go_wp2_with (go_at_call 82; refine (Ai (HL.out.wr.carry hbW.out) (k := 5) rfl hl (by simp; omega)).mono ?_; rintro e V1 ⟨rfl, hw2, hf2⟩; replace HL := zz (HL.out.put hbW.out hw2 hf2); clear hw2 hf2 hl hbW)
  go_wp2_with fail
  refine bodyPost_end (v := .tuple #[]) (by simp [results, Tryz.results157]) rfl ?_
  exact HL.out.done (by first | rfl | simp)
theorem a5b {w : World} {b : Nat} {E : Env} {X : List Pc} {t : Int} {out : List UInt8} (h : Wr w b E X t out) (hX : X.length ≤ 80000000) (s : ByteArray) (lv : Nat) (hl : lv ≤ 8) (h3 : lv ≠ 3) (h4 : lv ≠ 4) {a : Option Addr} {cap : Nat} {p0 p1 : Nat} (hk : C4 b w a [p0, p1]) :
  Calls Tryz.prog 157 #[pR b, .agg #[.string s, .int .i64 lv], .slice a 2 cap] w (Put b E X t out [oP p0 (lv), tP [32], tP s.data.toList, tP [32], oP p1 (lv + 1)] w) := by
 have HL := zz (Lv.start h hk #[.string s, .int .i64 lv] 103 ⟨by decide, by decide⟩)
 obtain ⟨g0, o0, rfl⟩ := hk.addr (by simp)
 have e3 : ((lv : Int) == 3) = false := by rw [beq_eq_false_iff_ne]; omega
 have e4 : ((lv : Int) == 4) = false := by rw [beq_eq_false_iff_ne]; omega
 have hwr : IntKind.i64.wrap ((lv : Int) + 1) = (lv : Int) + 1 := by rw [IntKind.wrap_i64]; omega
 clear h hk
 go_enter Tryz.func157, Tryz.ntmps157
 go_wp2_with fail
 have e0 := fun D os => cell_regrown (HL.out.cell 0 (v := .string s) rfl) D os
 have e1 := fun D os => cell_regrown (HL.out.cell 1 (v := .int .i64 lv) rfl) D os
 have k0 := fun D os => cell_regrown (show _ = some (itv p0) from HL.out.kd.cell (i := 0) (by simp)) D os
 have k1 := fun D os => cell_regrown (show _ = some (itv p1) from HL.out.kd.cell (i := 1) (by simp)) D os
 simp only [Nat.add_zero] at k0
 refine Ay 18 5 [22, 23, 26, 27, 34] [pcV { data := #[] } p0 lv 0, pcV { data := #[32] } 0 0 0, pcV s 0 0 0, pcV { data := #[32] } 0 0 0, pcV { data := #[] } p1 (lv + 1) 0] #[.string { data := #[] }, .int .i64 p0, .int .i64 lv, .int .i64 0, .string { data := #[32] }, .int .i64 0, .int .i64 0, .int .i64 0, .string s, .int .i64 0, .int .i64 0, .int .i64 0, .string { data := #[32] }, .int .i64 0, .int .i64 0, .int .i64 0, .string { data := #[] }, .int .i64 p1, .int .i64 (lv + 1), .int .i64 0] [oP p0 (lv), tP [32], tP s.data.toList, tP [32], oP p1 (lv + 1)] _ (by rfl) (by kernel_rfl) (by kernel_rfl) (by rfl) ?al ?go
 case al =>
  intro a w K hA h
  refine Be rfl rfl ?_
  simp [Bu, go_sem] at hA
  go_simp
  exact h
 case go =>
  simp only [List.take_succ_cons, List.take_zero, List.drop_succ_cons, List.drop_zero]
  repeat (refine A6 (fun K hK => ?_); go_simp; first | (refine hK _ ?_; clear hK K) | (apply Exists.intro; refine ⟨fun _ => ?_, hK _ ?_⟩; (first | with_reducible exact Cw _ _ | with_reducible exact Cy _ _ | exact Ap _ _ _ rfl _ | exact Ap _ _ _ (by omega) _ | exact Ap _ _ (lv + 1) (by omega) _); clear hK K))
  refine Bv ⟨by simp [Bu, go_sem], ?_⟩
  intro g W hbW hl
  replace hbW := zz hbW
  go_wp2_with (go_at_call 82; refine (Ai (HL.out.wr.carry hbW.out) (k := 5) rfl hl (by simp; omega)).mono ?_; rintro e V1 ⟨rfl, hw2, hf2⟩; replace HL := zz (HL.out.put hbW.out hw2 hf2); clear hw2 hf2 hl hbW)
  go_wp2_with fail
  refine bodyPost_end (v := .tuple #[]) (by simp [results, Tryz.results157]) rfl ?_
  exact HL.out.done (by first | rfl | simp)
end Go.Proofs.YtoaplbljflhheaaGreat
