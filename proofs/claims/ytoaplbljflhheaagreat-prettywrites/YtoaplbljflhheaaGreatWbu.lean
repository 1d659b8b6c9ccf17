/-
 Contracts and plain facts on the way to PrettyWrites. Conditions: as each says.
-/
import Derived.Test.YtoaplbljflhheaaGreatWbr
import Derived.Test.YtoaplbljflhheaaGreatWbq
import Derived.Test.YtoaplbljflhheaaGreatWbp
import Derived.Test.YtoaplbljflhheaaGreatWbe
set_option maxHeartbeats 40000000
set_option maxRecDepth 100000
set_option linter.unusedVariables false
set_option linter.unusedSimpArgs false
namespace Go.Proofs.YtoaplbljflhheaaGreat
open Go.RowKit Go.Sort
theorem Cq.take {b : Nat} {w : World} {a : Option Addr} {ps : List Nat} (h : Cq b w a ps) (k : Nat) : Cq b w a (ps.take k) := fun i hi => by
 simp only [List.length_take] at hi
 obtain ⟨g', o', cs, fz, h1, h2, h3, h4⟩ := h i (by omega)
 exact ⟨g', o', cs, fz, h1, h2, h3, by rw [h4]; simp [List.getD_eq_getElem?_getD, show i < k by omega]⟩
theorem a7r {w : World} {b : Nat} {E : Env} {X : List Pc} {t : Int} {out : List UInt8} (h : Wr w b E X t out) (hX : X.length ≤ 80000000) (ln cl sz : Int) (tx : ByteArray) {a : Option Addr} {m cap k : Nat} {ps : List Nat} (hm : Hid (ps.length = m)) (hk2 : m = k + 2) (hm2 : m ≤ 1000000) (hc : m ≤ cap) (hk : Cq b w a ps)
  {pr pb : Nat} (hpr : Hid (ps.getD k 0 = pr)) (hpb : Hid (ps.getD (k + 1) 0 = pb)) (hpn : pr < E.n) (hkd : (nd E.l pr).kind = 14) :
  Calls Tryz.prog 152 #[pR b, .agg #[.int .u8 4, .int .i64 ln, .int .i64 cl, .int .i64 sz, .int .i64 (k : Nat), .string tx], .slice a m cap] w (Put b E X t out ([tP [102, 110, 32], tP tx.data.toList, tP [40]] ++ Au (ps.take k) ++ [tP [41]] ++ [tP [32], nP pb]) w) := by
 have HL := zz (Lv.start h hk #[.int .u8 4, .int .i64 ln, .int .i64 cl, .int .i64 sz, .int .i64 (k : Nat), .string tx] 37 ⟨by decide, by decide⟩)
 obtain ⟨g0, o0, rfl⟩ := hk.addr (by rw [hm.out]; omega)
 have hkw : IntKind.i64.wrap ((k : Int) + 1) = ((k + 1 : Nat) : Int) := by rw [IntKind.wrap_i64]; omega
 have hi1 : (k : Int) < m := by omega
 have hi2 : ((k + 1 : Nat) : Int) < m := by omega
 have q0 : _ = some (itv (ps.getD k 0)) := HL.out.kd.cell (i := k) (by rw [hm.out]; omega)
 have q1 : _ = some (itv (ps.getD (k + 1) 0)) := HL.out.kd.cell (i := k + 1) (by rw [hm.out]; omega)
 rw [hpr.out] at q0
 rw [hpb.out] at q1
 clear h hk
 go_enter Tryz.func152, Tryz.ntmps152
 go_wp2_with fail
 go_quiet (fail)
 replace HL := zz (HL.out.more (Bl _ nq))
 generalize (w.alloc (.cells #[.int .u8 4, .int .i64 ln, .int .i64 cl, .int .i64 sz, .int .i64 (k : Nat), .string tx] 37)).drewN nq = V0 at *
 clear q0 q1
 go_wp2_with fail
 have e5 := fun D os => cell_regrown (HL.out.cell 5 (v := .string tx) rfl) D os
 refine A6 6 3 [20, 23, 24] [pcV { data := #[102, 110, 32] } 0 0 0, pcV tx 0 0 0, pcV { data := #[40] } 0 0 0] #[.string { data := #[102, 110, 32] }, .int .i64 0, .int .i64 0, .int .i64 0, .string tx, .int .i64 0, .int .i64 0, .int .i64 0, .string { data := #[40] }, .int .i64 0, .int .i64 0, .int .i64 0] [tP [102, 110, 32], tP tx.data.toList, tP [40]] _ (by rfl) (by kernel_rfl) (by kernel_rfl) (by rfl) ?al ?go
 case al =>
  intro a w K hA h
  refine Bh rfl rfl ?_
  simp [Bo, go_sem] at hA
  go_simp
  exact h
 case go =>
  simp only [List.take_succ_cons, List.take_zero, List.drop_succ_cons, List.drop_zero]
  repeat (refine A9 (fun K hK => ?_); go_simp; first | (refine hK _ ?_; clear hK K) | (apply Exists.intro; refine ⟨fun _ => ?_, hK _ ?_⟩; (first | with_reducible exact Ch _ _ | with_reducible exact Cj _ _ | exact Ay _ _ _ rfl _); clear hK K))
  refine Bn ⟨by simp [Bo, go_sem], ?_⟩
  intro g W hbW hl
  replace hbW := zz hbW
  go_wp2_with (go_at_call 82; refine (Ap (HL.out.wr.carry hbW.out) (k := 3) rfl hl (by simp; omega)).mono ?_; rintro e V1 ⟨rfl, hw2, hf2⟩; replace HL := zz (HL.out.put hbW.out hw2 hf2); clear hw2 hf2 hl hbW; have b4 := HL.out.cell 4 (v := .int .i64 (k : Nat)) rfl; have hi3 : (k : Int) ≤ cap := by omega)
  clear e5
  go_wp2_with fail
  refine (Fg HL.out.wr (by simp; omega) (m := k) (ps := ps.take k) (zz (by rw [List.length_take, hm.out]; omega)) (by omega) (HL.out.kd.take k)).mono ?_
  rintro e V2 ⟨rfl, hw2, hf2⟩
  replace HL := zz (HL.out.put (Below.refl _ _) hw2 hf2)
  clear hw2 hf2
  have HT := zz (show (Au (ps.take k)).length ≤ 2000000 by have := Eu (ps.take k); simp only [List.length_take] at this; omega)
  clear b4
  have hbW := zz (Below.refl V2.heap.size V2)
  go_wp2_with fail
  refine (B7 _ _).mono ?_
  rintro e w1 ⟨rfl, hb1⟩
  replace hbW := zz (Ab hbW.out hb1)
  go_wp2_with fail
  refine (Ap (P := [tP [41]]) (k := 1) (HL.out.wr.carry (Ab hbW.out (Aa w1 _))) rfl (LiesP.made (news := #[.string { data := #[41] }, .int .i64 0, .int .i64 0, .int .i64 0]) w1 rfl) (by have := HT.out; simp; omega)).mono ?_
  rintro e V3 ⟨rfl, hw2, hf2⟩
  replace HL := zz (HL.out.put (Ab hbW.out (Aa w1 _)) hw2 hf2)
  clear hw2 hf2 hb1 hbW
  obtain ⟨g, o, ha, hat, -, -⟩ := HL.out.wr.node hpn
  have hc0 := hat.c0
  have hw0 := HL.out.wr.cells.1
  rw [ha] at hw0
  obtain ⟨kr, hkr⟩ : ∃ kr, (nd E.l pr).kind = kr := ⟨_, rfl⟩
  rw [hkr] at hc0 hkd
  subst hkd
  clear ha hat hkr
  have hbW := zz (Below.refl V3.heap.size V3)
  go_wp2_with fail
  refine (B7 _ _).mono ?_
  rintro e w1 ⟨rfl, hb1⟩
  replace hbW := zz (Ab hbW.out hb1)
  go_wp2_with fail
  refine (Hm _ _).mono ?_
  rintro e w1 ⟨rfl, hb1⟩
  replace hbW := zz (Ab hbW.out hb1)
  go_wp2_with fail
  refine (Ap (P := [tP [32], nP pb]) (k := 2) (HL.out.wr.carry (Ab hbW.out (Aa w1 _))) rfl (LiesP.made (news := #[.string { data := #[32] }, .int .i64 0, .int .i64 0, .int .i64 0, .string { data := #[] }, .int .i64 pb, .int .i64 0, .int .i64 0]) w1 rfl) (by have := HT.out; simp; omega)).mono ?_
  rintro e V4 ⟨rfl, hw2, hf2⟩
  replace HL := zz (HL.out.put (Ab hbW.out (Aa w1 _)) hw2 hf2)
  clear hw2 hf2 hb1 hbW
  go_wp2_with fail
  refine bodyPost_end (v := .tuple #[]) (by simp [results, Tryz.results152]) rfl ?_
  exact HL.out.done (by first | rfl | simp)
theorem a7q {w : World} {b : Nat} {E : Env} {X : List Pc} {t : Int} {out : List UInt8} (h : Wr w b E X t out) (hX : X.length ≤ 80000000) (ln cl sz : Int) (tx : ByteArray) {a : Option Addr} {m cap k : Nat} {ps : List Nat} (hm : Hid (ps.length = m)) (hk2 : m = k + 2) (hm2 : m ≤ 1000000) (hc : m ≤ cap) (hk : Cq b w a ps)
  {pr pb : Nat} (hpr : Hid (ps.getD k 0 = pr)) (hpb : Hid (ps.getD (k + 1) 0 = pb)) (hpn : pr < E.n) (hkd : (nd E.l pr).kind ≠ 14) :
  Calls Tryz.prog 152 #[pR b, .agg #[.int .u8 4, .int .i64 ln, .int .i64 cl, .int .i64 sz, .int .i64 (k : Nat), .string tx], .slice a m cap] w (Put b E X t out ([tP [102, 110, 32], tP tx.data.toList, tP [40]] ++ Au (ps.take k) ++ [tP [41]] ++ [tP [58, 32], nP pr] ++ [tP [32], nP pb]) w) := by
 have HL := zz (Lv.start h hk #[.int .u8 4, .int .i64 ln, .int .i64 cl, .int .i64 sz, .int .i64 (k : Nat), .string tx] 37 ⟨by decide, by decide⟩)
 obtain ⟨g0, o0, rfl⟩ := hk.addr (by rw [hm.out]; omega)
 have hkw : IntKind.i64.wrap ((k : Int) + 1) = ((k + 1 : Nat) : Int) := by rw [IntKind.wrap_i64]; omega
 have hi1 : (k : Int) < m := by omega
 have hi2 : ((k + 1 : Nat) : Int) < m := by omega
 have q0 : _ = some (itv (ps.getD k 0)) := HL.out.kd.cell (i := k) (by rw [hm.out]; omega)
 have q1 : _ = some (itv (ps.getD (k + 1) 0)) := HL.out.kd.cell (i := k + 1) (by rw [hm.out]; omega)
 rw [hpr.out] at q0
 rw [hpb.out] at q1
 clear h hk
 go_enter Tryz.func152, Tryz.ntmps152
 go_wp2_with fail
 go_quiet (fail)
 replace HL := zz (HL.out.more (Bl _ nq))
 generalize (w.alloc (.cells #[.int .u8 4, .int .i64 ln, .int .i64 cl, .int .i64 sz, .int .i64 (k : Nat), .string tx] 37)).drewN nq = V0 at *
 clear q0 q1
 go_wp2_with fail
 have e5 := fun D os => cell_regrown (HL.out.cell 5 (v := .string tx) rfl) D os
 refine A6 6 3 [20, 23, 24] [pcV { data := #[102, 110, 32] } 0 0 0, pcV tx 0 0 0, pcV { data := #[40] } 0 0 0] #[.string { data := #[102, 110, 32] }, .int .i64 0, .int .i64 0, .int .i64 0, .string tx, .int .i64 0, .int .i64 0, .int .i64 0, .string { data := #[40] }, .int .i64 0, .int .i64 0, .int .i64 0] [tP [102, 110, 32], tP tx.data.toList, tP [40]] _ (by rfl) (by kernel_rfl) (by kernel_rfl) (by rfl) ?al ?go
 case al =>
  intro a w K hA h
  refine Bh rfl rfl ?_
  simp [Bo, go_sem] at hA
  go_simp
  exact h
 case go =>
  simp only [List.take_succ_cons, List.take_zero, List.drop_succ_cons, List.drop_zero]
  repeat (refine A9 (fun K hK => ?_); go_simp; first | (refine hK _ ?_; clear hK K) | (apply Exists.intro; refine ⟨fun _ => ?_, hK _ ?_⟩; (first | with_reducible exact Ch _ _ | with_reducible exact Cj _ _ | exact Ay _ _ _ rfl _); clear hK K))
  refine Bn ⟨by simp [Bo, go_sem], ?_⟩
  intro g W hbW hl
  replace hbW := zz hbW
  go_wp2_with (go_at_call 82; refine (Ap (HL.out.wr.carry hbW.out) (k := 3) rfl hl (by simp; omega)).mono ?_; rintro e V1 ⟨rfl, hw2, hf2⟩; replace HL := zz (HL.out.put hbW.out hw2 hf2); clear hw2 hf2 hl hbW; have b4 := HL.out.cell 4 (v := .int .i64 (k : Nat)) rfl; have hi3 : (k : Int) ≤ cap := by omega)
  clear e5
  go_wp2_with fail
  refine (Fg HL.out.wr (by simp; omega) (m := k) (ps := ps.take k) (zz (by rw [List.length_take, hm.out]; omega)) (by omega) (HL.out.kd.take k)).mono ?_
  rintro e V2 ⟨rfl, hw2, hf2⟩
  replace HL := zz (HL.out.put (Below.refl _ _) hw2 hf2)
  clear hw2 hf2
  have HT := zz (show (Au (ps.take k)).length ≤ 2000000 by have := Eu (ps.take k); simp only [List.length_take] at this; omega)
  clear b4
  have hbW := zz (Below.refl V2.heap.size V2)
  go_wp2_with fail
  refine (B7 _ _).mono ?_
  rintro e w1 ⟨rfl, hb1⟩
  replace hbW := zz (Ab hbW.out hb1)
  go_wp2_with fail
  refine (Ap (P := [tP [41]]) (k := 1) (HL.out.wr.carry (Ab hbW.out (Aa w1 _))) rfl (LiesP.made (news := #[.string { data := #[41] }, .int .i64 0, .int .i64 0, .int .i64 0]) w1 rfl) (by have := HT.out; simp; omega)).mono ?_
  rintro e V3 ⟨rfl, hw2, hf2⟩
  replace HL := zz (HL.out.put (Ab hbW.out (Aa w1 _)) hw2 hf2)
  clear hw2 hf2 hb1 hbW
  obtain ⟨g, o, ha, hat, -, -⟩ := HL.out.wr.node hpn
  have hc0 := hat.c0
  have hw0 := HL.out.wr.cells.1
  rw [ha] at hw0
  obtain ⟨kr, hkr⟩ : ∃ kr, (nd E.l pr).kind = kr := ⟨_, rfl⟩
  rw [hkr] at hc0 hkd
  have hk14 : ((kr : Int) != 14) = true := by rw [bne_iff_ne]; omega
  clear ha hat hkr
  have hbW := zz (Below.refl V3.heap.size V3)
  go_wp2_with fail
  refine (B7 _ _).mono ?_
  rintro e w1 ⟨rfl, hb1⟩
  replace hbW := zz (Ab hbW.out hb1)
  go_wp2_with fail
  refine (Hm _ _).mono ?_
  rintro e w1 ⟨rfl, hb1⟩
  replace hbW := zz (Ab hbW.out hb1)
  go_wp2_with fail
  refine (Ap (P := [tP [58, 32], nP pr]) (k := 2) (HL.out.wr.carry (Ab hbW.out (Aa w1 _))) rfl (LiesP.made (news := #[.string { data := #[58, 32] }, .int .i64 0, .int .i64 0, .int .i64 0, .string { data := #[] }, .int .i64 pr, .int .i64 0, .int .i64 0]) w1 rfl) (by have := HT.out; simp; omega)).mono ?_
  rintro e V4 ⟨rfl, hw2, hf2⟩
  replace HL := zz (HL.out.put (Ab hbW.out (Aa w1 _)) hw2 hf2)
  clear hw2 hf2 hb1 hbW
  have hbW := zz (Below.refl V4.heap.size V4)
  go_wp2_with fail
  refine (B7 _ _).mono ?_
  rintro e w1 ⟨rfl, hb1⟩
  replace hbW := zz (Ab hbW.out hb1)
  go_wp2_with fail
  refine (Hm _ _).mono ?_
  rintro e w1 ⟨rfl, hb1⟩
  replace hbW := zz (Ab hbW.out hb1)
  go_wp2_with fail
  refine (Ap (P := [tP [32], nP pb]) (k := 2) (HL.out.wr.carry (Ab hbW.out (Aa w1 _))) rfl (LiesP.made (news := #[.string { data := #[32] }, .int .i64 0, .int .i64 0, .int .i64 0, .string { data := #[] }, .int .i64 pb, .int .i64 0, .int .i64 0]) w1 rfl) (by have := HT.out; simp; omega)).mono ?_
  rintro e V5 ⟨rfl, hw2, hf2⟩
  replace HL := zz (HL.out.put (Ab hbW.out (Aa w1 _)) hw2 hf2)
  clear hw2 hf2 hb1 hbW
  go_wp2_with fail
  refine bodyPost_end (v := .tuple #[]) (by simp [results, Tryz.results152]) rfl ?_
  exact HL.out.done (by first | rfl | simp)
end Go.Proofs.YtoaplbljflhheaaGreat
namespace Go.Proofs.YtoaplbljflhheaaGreat
open Go.RowKit Go.Sort
theorem b4p {w : World} {b : Nat} {E : Env} {X : List Pc} {t : Int} {out : List UInt8} (h : Wr w b E X t out) (hX : X.length ≤ 80000000) (s : ByteArray) {a : Option Addr} {cap : Nat} {p0 p1 : Nat} (hk : Cq b w a [p0, p1]) :
  Calls Tryz.prog 157 #[pR b, .agg #[.string s, .int .i64 3], .slice a 2 cap] w (Put b E X t out [oP p0 (4), tP [32], tP s.data.toList, tP [32], oP p1 (4)] w) := by
 have HL := zz (Lv.start h hk #[.string s, .int .i64 3] 103 ⟨by decide, by decide⟩)
 obtain ⟨g0, o0, rfl⟩ := hk.addr (by simp)
 clear h hk
 go_enter Tryz.func157, Tryz.ntmps157
 go_wp2_with fail
 have e0 := fun D os => cell_regrown (HL.out.cell 0 (v := .string s) rfl) D os
 have e1 := fun D os => cell_regrown (HL.out.cell 1 (v := .int .i64 3) rfl) D os
 have k0 := fun D os => cell_regrown (show _ = some (itv p0) from HL.out.kd.cell (i := 0) (by simp)) D os
 have k1 := fun D os => cell_regrown (show _ = some (itv p1) from HL.out.kd.cell (i := 1) (by simp)) D os
 simp only [Nat.add_zero] at k0
 refine A6 18 5 [22, 23, 26, 27, 34] [pcV { data := #[] } p0 4 0, pcV { data := #[32] } 0 0 0, pcV s 0 0 0, pcV { data := #[32] } 0 0 0, pcV { data := #[] } p1 4 0] #[.string { data := #[] }, .int .i64 p0, .int .i64 4, .int .i64 0, .string { data := #[32] }, .int .i64 0, .int .i64 0, .int .i64 0, .string s, .int .i64 0, .int .i64 0, .int .i64 0, .string { data := #[32] }, .int .i64 0, .int .i64 0, .int .i64 0, .string { data := #[] }, .int .i64 p1, .int .i64 4, .int .i64 0] [oP p0 (4), tP [32], tP s.data.toList, tP [32], oP p1 (4)] _ (by rfl) (by kernel_rfl) (by kernel_rfl) (by rfl) ?al ?go
 case al =>
  intro a w K hA h
  refine Bh rfl rfl ?_
  simp [Bo, go_sem] at hA
  go_simp
  exact h
 case go =>
  simp only [List.take_succ_cons, List.take_zero, List.drop_succ_cons, List.drop_zero]
  repeat (refine A9 (fun K hK => ?_); go_simp; first | (refine hK _ ?_; clear hK K) | (apply Exists.intro; refine ⟨fun _ => ?_, hK _ ?_⟩; (first | with_reducible exact Ch _ _ | with_reducible exact Cj _ _ | exact Ay _ _ _ rfl _ | exact Ay _ 4 4 (by omega) _); clear hK K))
  refine Bn ⟨by simp [Bo, go_sem], ?_⟩
  intro g W hbW hl
  replace hbW := zz hbW
  go_wp2_with (go_at_call 82; refine (Ap (HL.out.wr.carry hbW.out) (k := 5) rfl hl (by simp; omega)).mono ?_; rintro e V1 ⟨rfl, hw2, hf2⟩; replace HL := zz (HL.out.put hbW.out hw2 hf2); clear hw2 hf2 hl hbW)
  go_wp2_with fail
  refine bodyPost_end (v := .tuple #[]) (by simp [results, Tryz.results157]) rfl ?_
  exact HL.out.done (by first | rfl | simp)
theorem b4o {w : World} {b : Nat} {E : Env} {X : List Pc} {t : Int} {out : List UInt8} (h : Wr w b E X t out) (hX : X.length ≤ 80000000) (s : ByteArray) {a : Option Addr} {cap : Nat} {p0 p1 : Nat} (hk : Cq b w a [p0, p1]) :
  Calls Tryz.prog 157 #[pR b, .agg #[.string s, .int .i64 4], .slice a 2 cap] w (Put b E X t out [oP p0 (5), tP [32], tP s.data.toList, tP [32], oP p1 (5)] w) := by
 have HL := zz (Lv.start h hk #[.string s, .int .i64 4] 103 ⟨by decide, by decide⟩)
 obtain ⟨g0, o0, rfl⟩ := hk.addr (by simp)
 clear h hk
 go_enter Tryz.func157, Tryz.ntmps157
 go_wp2_with fail
 have e0 := fun D os => cell_regrown (HL.out.cell 0 (v := .string s) rfl) D os
 have e1 := fun D os => cell_regrown (HL.out.cell 1 (v := .int .i64 4) rfl) D os
 have k0 := fun D os => cell_regrown (show _ = some (itv p0) from HL.out.kd.cell (i := 0) (by simp)) D os
 have k1 := fun D os => cell_regrown (show _ = some (itv p1) from HL.out.kd.cell (i := 1) (by simp)) D os
 simp only [Nat.add_zero] at k0
 refine A6 18 5 [22, 23, 26, 27, 34] [pcV { data := #[] } p0 5 0, pcV { data := #[32] } 0 0 0, pcV s 0 0 0, pcV { data := #[32] } 0 0 0, pcV { data := #[] } p1 5 0] #[.string { data := #[] }, .int .i64 p0, .int .i64 5, .int .i64 0, .string { data := #[32] }, .int .i64 0, .int .i64 0, .int .i64 0, .string s, .int .i64 0, .int .i64 0, .int .i64 0, .string { data := #[32] }, .int .i64 0, .int .i64 0, .int .i64 0, .string { data := #[] }, .int .i64 p1, .int .i64 5, .int .i64 0] [oP p0 (5), tP [32], tP s.data.toList, tP [32], oP p1 (5)] _ (by rfl) (by kernel_rfl) (by kernel_rfl) (by rfl) ?al ?go
 case al =>
  intro a w K hA h
  refine Bh rfl rfl ?_
  simp [Bo, go_sem] at hA
  go_simp
  exact h
 case go =>
  simp only [List.take_succ_cons, List.take_zero, List.drop_succ_cons, List.drop_zero]
  repeat (refine A9 (fun K hK => ?_); go_simp; first | (refine hK _ ?_; clear hK K) | (apply Exists.intro; refine ⟨fun _ => ?_, hK _ ?_⟩; (first | with_reducible exact Ch _ _ | with_reducible exact Cj _ _ | exact Ay _ _ _ rfl _ | exact Ay _ 5 5 (by omega) _); clear hK K))
  refine Bn ⟨by simp [Bo, go_sem], ?_⟩
  intro g W hbW hl
  replace hbW := zz hbW
  go_wp2_with (go_at_call 82; refine (Ap (HL.out.wr.carry hbW.out) (k := 5) rfl hl (by simp; omega)).mono ?_; rintro e V1 ⟨rfl, hw2, hf2⟩; replace HL := zz (HL.out.put hbW.out hw2 hf2); clear hw2 hf2 hl hbW)
  go_wp2_with fail
  refine bodyPost_end (v := .tuple #[]) (by simp [results, Tryz.results157]) rfl ?_
  exact HL.out.done (by first | rfl | simp)
theorem a34 {w : World} {b : Nat} {E : Env} {X : List Pc} {t : Int} {out : List UInt8} (h : Wr w b E X t out) (hX : X.length ≤ 80000000) (s : ByteArray) (lv : Nat) (hl : lv ≤ 8) (h3 : lv ≠ 3) (h4 : lv ≠ 4) {a : Option Addr} {cap : Nat} {p0 p1 : Nat} (hk : Cq b w a [p0, p1]) :
  Calls Tryz.prog 157 #[pR b, .agg #[.string s, .int .i64 lv], .slice a 2 cap] w (Put b E X t out [oP p0 (lv), tP [32], tP s.data.toList, tP [32], oP p1 (lv + 1)] w) := by
 have HL := zz (Lv.start h hk #[.string s, .int .i64 lv] 103 ⟨by decide, by decide⟩)
 obtain ⟨g0, o0, rfl⟩ := hk.addr (by simp)
 have e3 : ((lv : Int) == 3) = false := by rw [beq_eq_false_iff_ne]; omega
 have e4 : ((lv : Int) == 4) = false := by rw [beq_eq_false_iff_ne]; omega
 have hwr : IntKind.i64.wrap ((lv : Int) + 1) = (lv : Int) + 1 := by rw [IntKind.wrap_i64]; omega
 clear h hk
 go_enter Tryz.func157, Tryz.ntmps157
 go_wp2_with fail
 have e0 := fun D os => cell_regrown (HL.out.cell 0 (v := .string s) rfl) D os
 have e1 := fun D os => cell_regrown (HL.out.cell 1 (v := .int .i64 lv) rfl) D os
 have k0 := fun D os => cell_regrown (show _ = some (itv p0) from HL.out.kd.cell (i := 0) (by simp)) D os
 have k1 := fun D os => cell_regrown (show _ = some (itv p1) from HL.out.kd.cell (i := 1) (by simp)) D os
 simp only [Nat.add_zero] at k0
 refine A6 18 5 [22, 23, 26, 27, 34] [pcV { data := #[] } p0 lv 0, pcV { data := #[32] } 0 0 0, pcV s 0 0 0, pcV { data := #[32] } 0 0 0, pcV { data := #[] } p1 (lv + 1) 0] #[.string { data := #[] }, .int .i64 p0, .int .i64 lv, .int .i64 0, .string { data := #[32] }, .int .i64 0, .int .i64 0, .int .i64 0, .string s, .int .i64 0, .int .i64 0, .int .i64 0, .string { data := #[32] }, .int .i64 0, .int .i64 0, .int .i64 0, .string { data := #[] }, .int .i64 p1, .int .i64 (lv + 1), .int .i64 0] [oP p0 (lv), tP [32], tP s.data.toList, tP [32], oP p1 (lv + 1)] _ (by rfl) (by kernel_rfl) (by kernel_rfl) (by rfl) ?al ?go
 case al =>
  intro a w K hA h
  refine Bh rfl rfl ?_
  simp [Bo, go_sem] at hA
  go_simp
  exact h
 case go =>
  simp only [List.take_succ_cons, List.take_zero, List.drop_succ_cons, List.drop_zero]
  repeat (refine A9 (fun K hK => ?_); go_simp; first | (refine hK _ ?_; clear hK K) | (apply Exists.intro; refine ⟨fun _ => ?_, hK _ ?_⟩; (first | with_reducible exact Ch _ _ | with_reducible exact Cj _ _ | exact Ay _ _ _ rfl _ | exact Ay _ _ _ (by omega) _ | exact Ay _ _ (lv + 1) (by omega) _); clear hK K))
  refine Bn ⟨by simp [Bo, go_sem], ?_⟩
  intro g W hbW hl
  replace hbW := zz hbW
  go_wp2_with (go_at_call 82; refine (Ap (HL.out.wr.carry hbW.out) (k := 5) rfl hl (by simp; omega)).mono ?_; rintro e V1 ⟨rfl, hw2, hf2⟩; replace HL := zz (HL.out.put hbW.out hw2 hf2); clear hw2 hf2 hl hbW)
  go_wp2_with fail
  refine bodyPost_end (v := .tuple #[]) (by simp [results, Tryz.results157]) rfl ?_
  exact HL.out.done (by first | rfl | simp)
end Go.Proofs.YtoaplbljflhheaaGreat
namespace Go.Proofs.YtoaplbljflhheaaGreat
open Go.RowKit Go.Sort
theorem Vj (b o n cap : Nat) (l : List Nd) (w : World) (hn : Hid (l.length = n)) (hl : n ≤ 1000000) (hr : Hid (Li w b o l)) (hR : Right (sz l) n) (k : Nat) (hk : k < n) (q : Bool) (hq : K5 l k = q) :
  Calls Tryz.prog 27 #[.slice (some ⟨b, o, none⟩) n cap, .int .i64 (k : Nat)] w fun e w' => e = .returned (.bool q) ∧ Below w.heap.size w w' := by
 have ok := hR.ok k hk
 have hxl := Fz ok
 have hxn := fun x hx => (hR.kid_lt (y := x) hk hx).2
 have hnum : Ax (nd l k).num := (hr.out k (by rw [hn.out]; exact hk)).2.num
 unfold K5 at hq
 obtain ⟨kk, hkk⟩ : ∃ kk, Ag l k = kk := ⟨_, rfl⟩
 rw [hkk] at hq
 by_cases h1 : kk = 1 ∨ kk = 2 ∨ kk = 6 ∨ kk = 27 ∨ kk = 3 ∨ kk = 5 ∨ kk = 20 ∨ kk = 7 ∨ kk = 10 ∨ kk = 12
 ·exact b6a kk (zz h1) b o n cap l w hn hl hr k hk (zz ok) _ (zz rfl) (zz hxn) (by omega) _ hnum (zz hkk) (zz rfl) q (zz hq)
 by_cases h2 : kk = 29 ∨ kk = 30 ∨ kk = 28 ∨ kk = 31 ∨ kk = 9 ∨ kk = 11 ∨ kk = 8 ∨ kk = 13 ∨ kk = 32
 ·exact b59 kk (zz h2) b o n cap l w hn hl hr k hk (zz ok) _ (zz rfl) (zz hxn) (by omega) _ hnum (zz hkk) (zz rfl) q (zz hq)
 exact b58 kk (zz (by omega)) b o n cap l w hn hl hr k hk (zz ok) _ (zz rfl) (zz hxn) (by omega) _ hnum (zz hkk) (zz rfl) q (zz hq)
theorem a6x (b o n cap : Nat) (l : List Nd) (w : World) (hn : Hid (l.length = n)) (hl : n ≤ 1000000) (hr : Hid (Li w b o l)) (htx : Hid (∀ i, i < n → (nd l i).text.size ≤ 100000)) (hpos : 0 < n) (hR : Hid (Right (sz l) n)) (h1 : Hid (Ag l 0 = 1)) (p : Bool) (hp : Hid (((List.range n).all fun j => Cb l j && K5 l j) = p)) :
  Calls Tryz.prog 11 #[.slice (some ⟨b, o, none⟩) n cap] w fun e w' => e = .returned (.bool p) ∧ Below w.heap.size w w' := by
 have HRi := zz (Ix b o n cap l w hn hl hr hpos true (Cu hR.out))
 have c0 : w.cell? ⟨b, o, none⟩ = some (.int .u8 1) := by
  have := (hr.out 0 (by rw [hn.out]; exact hpos)).1.c0
  rw [Nat.zero_mul, Nat.add_zero, show (nd l 0).kind = 1 from h1.out] at this
  exact this
 go_enter Tryz.func11, Tryz.ntmps11
 go_wp2_with (go_at_call 25; refine HRi.out.mono ?_; rintro e w1 ⟨rfl, rfl⟩)
 clear HRi c0
 go_loopw [16] (fun j wr => ∃ k : Nat, k ≤ n ∧ j = .int .i64 k ∧ (∀ j, j < k → (Cb l j && K5 l j) = true) ∧ Below w.heap.size w wr) (fun j _ => n - (intOf j).toNat)
 case atStart => exact ⟨0, Nat.zero_le _, rfl, fun j hj => absurd hj (by omega), Below.refl _ _⟩
 case round =>
  obtain ⟨k, hk, rfl, hok, hbel⟩ := hrel
  replace hok := zz hok
  by_cases hlt : k < n
  ·obtain ⟨hat, hwf⟩ := (hr.out.carry hbel) k (by rw [hn.out]; exact hlt)
   obtain ⟨c0, c1, c2, c3, c4, c5⟩ := hat
   have ht := htx.out k hlt
   obtain ⟨kd, ln, cl, s, num, tx, hN⟩ : ∃ kd ln cl s num tx, nd l k = ⟨kd, ln, cl, s, num, tx⟩ := ⟨_, _, _, _, _, _, rfl⟩
   rw [hN] at c0 c1 c2 c3 c4 c5 hwf ht
   simp only at c0 c1 c2 c3 c4 c5 ht
   have hF : Cb l k = (Bg kd tx.data.toList && Bp kd num) := by rw [Cb, Ag, hN]
   have HFI := zz (fun w q (h : Cb l k = q) => Zy ⟨kd, ln, cl, s, num, tx⟩ hwf ht w q (by rw [← h, hF]))
   have HFA := zz (fun w1 (h : Below w.heap.size w w1) q (hq : K5 l k = q) => Vj b o n cap l w1 hn hl (zz (hr.out.carry h)) hR.out k hlt q hq)
   have hbad : Hid ((Cb l k && K5 l k) = false → p = false) := zz fun h => by
    rw [← hp.out, List.all_eq_false]
    exact ⟨k, List.mem_range.2 hlt, by rw [h]; simp⟩
   replace hbel := zz hbel
   clear hN hF hwf ht
   cases h1 : Cb l k with
   | false =>
    have hp' : p = false := hbad.out (by rw [h1]; rfl)
    subst hp'
    replace h1 := zz h1
    go_wp2_with fail
    refine (HFI.out _ false h1.out).mono ?_
    rintro e w2 ⟨rfl, hb2⟩
    replace hb2 := zz (Ab hbel.out hb2)
    go_wp2_with fail
    go_ret
    exact ⟨rfl, hb2.out⟩
   | true =>
    cases h2 : K5 l k with
    | false =>
     have hp' : p = false := hbad.out (by rw [h1, h2]; rfl)
     subst hp'
     replace h1 := zz h1
     replace h2 := zz h2
     go_wp2_with fail
     refine (HFI.out _ true h1.out).mono ?_
     rintro e w2 ⟨rfl, hb2⟩
     replace hb2 := zz (Ab hbel.out hb2)
     go_wp2_with fail
     refine (HFA.out _ hb2.out false h2.out).mono ?_
     rintro e w3 ⟨rfl, hb3⟩
     replace hb3 := zz (Ab hb2.out hb3)
     go_wp2_with fail
     go_ret
     exact ⟨rfl, hb3.out⟩
    | true =>
     have HO := zz (show ∀ j, j < k + 1 → (Cb l j && K5 l j) = true from fun j hj => by
      by_cases e : j = k
      ·subst e; rw [h1, h2]; rfl
      ·exact hok.out j (by omega))
     replace h1 := zz h1
     replace h2 := zz h2
     go_wp2_with fail
     refine (HFI.out _ true h1.out).mono ?_
     rintro e w2 ⟨rfl, hb2⟩
     replace hb2 := zz (Ab hbel.out hb2)
     go_wp2_with fail
     refine (HFA.out _ hb2.out true h2.out).mono ?_
     rintro e w3 ⟨rfl, hb3⟩
     replace hb3 := zz (Ab hb2.out hb3)
     go_wp2_with fail
     go_roundw
     case rel => exact ⟨k + 1, hlt, by go_num, HO.out, hb3.out⟩
     case measure => simp [intOf]; omega
  ·have hp' : p = true := by
    rw [← hp.out, List.all_eq_true]
    intro j hj
    exact hok.out j (by have := List.mem_range.1 hj; omega)
   subst hp'
   replace hbel := zz hbel
   go_wp2_with fail
   go_ret
   exact ⟨rfl, hbel.out⟩
theorem a1z (a : Option Addr) (n cap : Nat) (l : List Nd) (w : World) (hn : l.length = n) (hl : n ≤ 1000000) (hr : Row w a l) (hp : D0 (sz l) n = false) :
  Calls Tryz.prog 11 #[.slice a n cap] w fun e w' => e = .returned (.bool false) ∧ Below w.heap.size w w' := by
 have H := zz (Up a n cap l w hn hl hr false hp)
 clear hn hr hp
 go_enter Tryz.func11, Tryz.ntmps11
 go_wp2_with (go_at_call 25; refine H.out.mono ?_; rintro e w1 ⟨rfl, rfl⟩)
 go_ret
 exact ⟨rfl, Below.refl _ _⟩
theorem X5 (b o n cap : Nat) (l : List Nd) (w : World) (hn : Hid (l.length = n)) (hl : n ≤ 1000000) (hr : Hid (Li w b o l)) (hpos : 0 < n) (hR : Hid (Right (sz l) n)) (h1 : Ag l 0 ≠ 1) :
  Calls Tryz.prog 11 #[.slice (some ⟨b, o, none⟩) n cap] w fun e w' => e = .returned (.bool false) ∧ Below w.heap.size w w' := by
 have HRi := zz (Ix b o n cap l w hn hl hr hpos true (Cu hR.out))
 obtain ⟨kd, hkd⟩ : ∃ kd, Ag l 0 = kd := ⟨_, rfl⟩
 have c0 : w.cell? ⟨b, o, none⟩ = some (.int .u8 (kd : Nat)) := by
  have := (hr.out 0 (by rw [hn.out]; exact hpos)).1.c0
  rw [Nat.zero_mul, Nat.add_zero, show (nd l 0).kind = kd from hkd] at this
  exact this
 have e1 : ((kd : Int) != 1) = true := by rw [bne_iff_ne]; omega
 clear h1 hkd
 go_enter Tryz.func11, Tryz.ntmps11
 go_wp2_with (go_at_call 25; refine HRi.out.mono ?_; rintro e w1 ⟨rfl, rfl⟩)
 go_ret
 exact ⟨rfl, Below.refl _ _⟩
theorem a10 (a : Option Addr) (n cap : Nat) (l : List Nd) (w : World) (hn : l.length = n) (hl : n ≤ 1000000) (hr : Row w a l) (htx : ∀ i, i < n → (nd l i).text.size ≤ 100000) (p : Bool) (hp : N1 l = p) :
  Calls Tryz.prog 11 #[.slice a n cap] w fun e w' => e = .returned (.bool p) ∧ Below w.heap.size w w' := by
 unfold N1 at hp
 cases h1 : D0 (sz l) l.length with
 | false =>
  rw [h1, Bool.false_and, Bool.false_and] at hp
  subst hp
  exact a1z a n cap l w hn hl hr (by rw [← hn]; exact h1)
 | true =>
  have hR := Hd.1 h1
  have hpos := hR.pos
  obtain ⟨b, o, rfl, hb⟩ := hr.block (by intro h; rw [h] at hpos; simp at hpos)
  by_cases h2 : Ag l 0 = 1
  ·rw [h1, decide_eq_true h2, Bool.true_and, Bool.true_and, ← a2s l hR h2] at hp
   rw [hn] at hp hR hpos
   exact a6x b o n cap l w (zz hn) hl (zz hb) (zz htx) hpos (zz hR) (zz h2) p (zz hp)
  ·rw [h1, decide_eq_false h2] at hp
   have hp' : p = false := by rw [← hp]; rfl
   subst hp'
   rw [hn] at hR hpos
   exact X5 b o n cap l w (zz hn) hl (zz hb) hpos (zz hR) h2
end Go.Proofs.YtoaplbljflhheaaGreat
