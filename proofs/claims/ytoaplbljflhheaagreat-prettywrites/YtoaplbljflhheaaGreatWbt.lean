/-
 Contracts and plain facts on the way to PrettyWrites. Conditions: as each says.
-/
import Derived.Test.YtoaplbljflhheaaGreatWbr
import Derived.Test.YtoaplbljflhheaaGreatWbq
set_option maxHeartbeats 40000000
set_option maxRecDepth 100000
set_option linter.unusedVariables false
set_option linter.unusedSimpArgs false
namespace Go.Proofs.YtoaplbljflhheaaGreat
open Go.RowKit Go.Sort
theorem b2p {w : World} {b : Nat} {E : Env} {X : List Pc} {t : Int} {out : List UInt8} (h : Wr w b E X t out) (hX : X.length ≤ 80000000) (ln cl sz num : Int) (tx : ByteArray) {a : Option Addr} {cap : Nat} {p0 : Nat} (hk : Cq b w a [p0]) :
  Calls Tryz.prog 115 #[pR b, .agg #[.int .u8 3, .int .i64 ln, .int .i64 cl, .int .i64 sz, .int .i64 num, .string tx], .slice a 1 cap] w (Put b E X t out [tP tx.data.toList, tP [58, 32], nP p0, tP [59]] w) := by
 have HL := zz (Lv.start h hk #[.int .u8 3, .int .i64 ln, .int .i64 cl, .int .i64 sz, .int .i64 num, .string tx] 37 ⟨by decide, by decide⟩)
 obtain ⟨g0, o0, rfl⟩ := hk.addr (by simp)
 clear h hk
 go_enter Tryz.func115, Tryz.ntmps115
 go_wp2_with fail
 have e5 := fun D os => cell_regrown (HL.out.cell 5 (v := .string tx) rfl) D os
 have k0 := fun D os => cell_regrown (show _ = some (itv p0) from HL.out.kd.cell (i := 0) (by simp)) D os
 simp only [Nat.add_zero] at k0
 refine A6 10 4 [43, 44, 48, 49] [pcV tx 0 0 0, pcV { data := #[58, 32] } 0 0 0, pcV { data := #[] } p0 0 0, pcV { data := #[59] } 0 0 0] #[.string tx, .int .i64 0, .int .i64 0, .int .i64 0, .string { data := #[58, 32] }, .int .i64 0, .int .i64 0, .int .i64 0, .string { data := #[] }, .int .i64 p0, .int .i64 0, .int .i64 0, .string { data := #[59] }, .int .i64 0, .int .i64 0, .int .i64 0] [tP tx.data.toList, tP [58, 32], nP p0, tP [59]] _ (by rfl) (by kernel_rfl) (by kernel_rfl) (by rfl) ?al ?go
 case al =>
  intro a w K hA h
  refine Bh rfl rfl ?_
  simp [Bo, go_sem] at hA
  go_simp
  exact h
 case go =>
  simp only [List.take_succ_cons, List.take_zero, List.drop_succ_cons, List.drop_zero]
  repeat (refine A9 (fun K hK => ?_); go_simp; first | (refine hK _ ?_; clear hK K) | (apply Exists.intro; refine ⟨fun _ => ?_, hK _ ?_⟩; (first | with_reducible exact Ch _ _ | with_reducible exact Cj _ _ | exact Ay _ _ _ rfl _); clear hK K))
  refine Bn ⟨by simp [Bo, go_sem], ?_⟩
  intro g W hbW hl
  replace hbW := zz hbW
  go_wp2_with (go_at_call 82; refine (Ap (HL.out.wr.carry hbW.out) (k := 4) rfl hl (by simp; omega)).mono ?_; rintro e V1 ⟨rfl, hw2, hf2⟩; replace HL := zz (HL.out.put hbW.out hw2 hf2); clear hw2 hf2 hl hbW)
  go_wp2_with fail
  refine bodyPost_end (v := .tuple #[]) (by simp [results, Tryz.results115]) rfl ?_
  exact HL.out.done (by first | rfl | simp)
theorem b2n {w : World} {b : Nat} {E : Env} {X : List Pc} {t : Int} {out : List UInt8} (h : Wr w b E X t out) (hX : X.length ≤ 80000000) (ln cl sz num : Int) (tx : ByteArray) {a : Option Addr} {cap : Nat} {p0 : Nat} (hk : Cq b w a [p0]) :
  Calls Tryz.prog 115 #[pR b, .agg #[.int .u8 5, .int .i64 ln, .int .i64 cl, .int .i64 sz, .int .i64 num, .string tx], .slice a 1 cap] w (Put b E X t out [tP tx.data.toList, tP [58, 32], nP p0] w) := by
 have HL := zz (Lv.start h hk #[.int .u8 5, .int .i64 ln, .int .i64 cl, .int .i64 sz, .int .i64 num, .string tx] 37 ⟨by decide, by decide⟩)
 obtain ⟨g0, o0, rfl⟩ := hk.addr (by simp)
 clear h hk
 go_enter Tryz.func115, Tryz.ntmps115
 go_wp2_with fail
 have e5 := fun D os => cell_regrown (HL.out.cell 5 (v := .string tx) rfl) D os
 have k0 := fun D os => cell_regrown (show _ = some (itv p0) from HL.out.kd.cell (i := 0) (by simp)) D os
 simp only [Nat.add_zero] at k0
 refine A6 9 3 [57, 58, 62] [pcV tx 0 0 0, pcV { data := #[58, 32] } 0 0 0, pcV { data := #[] } p0 0 0] #[.string tx, .int .i64 0, .int .i64 0, .int .i64 0, .string { data := #[58, 32] }, .int .i64 0, .int .i64 0, .int .i64 0, .string { data := #[] }, .int .i64 p0, .int .i64 0, .int .i64 0] [tP tx.data.toList, tP [58, 32], nP p0] _ (by rfl) (by kernel_rfl) (by kernel_rfl) (by rfl) ?al ?go
 case al =>
  intro a w K hA h
  refine Bh rfl rfl ?_
  simp [Bo, go_sem] at hA
  go_simp
  exact h
 case go =>
  simp only [List.take_succ_cons, List.take_zero, List.drop_succ_cons, List.drop_zero]
  repeat (refine A9 (fun K hK => ?_); go_simp; first | (refine hK _ ?_; clear hK K) | (apply Exists.intro; refine ⟨fun _ => ?_, hK _ ?_⟩; (first | with_reducible exact Ch _ _ | with_reducible exact Cj _ _ | exact Ay _ _ _ rfl _); clear hK K))
  refine Bn ⟨by simp [Bo, go_sem], ?_⟩
  intro g W hbW hl
  replace hbW := zz hbW
  go_wp2_with (go_at_call 82; refine (Ap (HL.out.wr.carry hbW.out) (k := 3) rfl hl (by simp; omega)).mono ?_; rintro e V1 ⟨rfl, hw2, hf2⟩; replace HL := zz (HL.out.put hbW.out hw2 hf2); clear hw2 hf2 hl hbW)
  go_wp2_with fail
  refine bodyPost_end (v := .tuple #[]) (by simp [results, Tryz.results115]) rfl ?_
  exact HL.out.done (by first | rfl | simp)
theorem b2m {w : World} {b : Nat} {E : Env} {X : List Pc} {t : Int} {out : List UInt8} (h : Wr w b E X t out) (hX : X.length ≤ 80000000) (ln cl sz num : Int) (tx : ByteArray) {a : Option Addr} {cap : Nat} {m : Nat} {ps : List Nat} (hm : Hid (ps.length = m)) (hm2 : m ≤ 1000000) (hk : Cq b w a ps) :
  Calls Tryz.prog 115 #[pR b, .agg #[.int .u8 6, .int .i64 ln, .int .i64 cl, .int .i64 sz, .int .i64 num, .string tx], .slice a m cap] w (Put b E X t out (Gb ps) w) := by
 have HL := zz (Lv.start h hk #[.int .u8 6, .int .i64 ln, .int .i64 cl, .int .i64 sz, .int .i64 num, .string tx] 37 ⟨by decide, by decide⟩)
 clear h hk
 go_enter Tryz.func115, Tryz.ntmps115
 go_wp2_with fail
 refine (Po HL.out.wr (by omega) hm hm2 HL.out.kd).mono ?_
 rintro e V1 ⟨rfl, hw2, hf2⟩
 replace HL := zz (HL.out.put (Below.refl _ _) hw2 hf2)
 clear hw2 hf2
 go_wp2_with fail
 refine bodyPost_end (v := .tuple #[]) (by simp [results, Tryz.results115]) rfl ?_
 exact HL.out.done (by first | rfl | simp)
theorem b2q {w : World} {b : Nat} {E : Env} {X : List Pc} {t : Int} {out : List UInt8} (h : Wr w b E X t out) (hX : X.length ≤ 80000000) (ln cl sz num : Int) (tx : ByteArray) {a : Option Addr} {cap : Nat} {m : Nat} {ps : List Nat} (hm : Hid (ps.length = m)) (hm2 : m ≤ 1000000) (hk : Cq b w a ps) :
  Calls Tryz.prog 115 #[pR b, .agg #[.int .u8 2, .int .i64 ln, .int .i64 cl, .int .i64 sz, .int .i64 num, .string tx], .slice a m cap] w (Put b E X t out ([tP [114, 101, 99, 32], tP tx.data.toList, tP [32]] ++ (Gb ps)) w) := by
 have HL := zz (Lv.start h hk #[.int .u8 2, .int .i64 ln, .int .i64 cl, .int .i64 sz, .int .i64 num, .string tx] 37 ⟨by decide, by decide⟩)
 clear h hk
 go_enter Tryz.func115, Tryz.ntmps115
 go_wp2_with fail
 have e5 := fun D os => cell_regrown (HL.out.cell 5 (v := .string tx) rfl) D os
 refine A6 6 3 [28, 31, 32] [pcV { data := #[114, 101, 99, 32] } 0 0 0, pcV tx 0 0 0, pcV { data := #[32] } 0 0 0] #[.string { data := #[114, 101, 99, 32] }, .int .i64 0, .int .i64 0, .int .i64 0, .string tx, .int .i64 0, .int .i64 0, .int .i64 0, .string { data := #[32] }, .int .i64 0, .int .i64 0, .int .i64 0] [tP [114, 101, 99, 32], tP tx.data.toList, tP [32]] _ (by rfl) (by kernel_rfl) (by kernel_rfl) (by rfl) ?al ?go
 case al =>
  intro a w K hA h
  refine Bh rfl rfl ?_
  simp [Bo, go_sem] at hA
  go_simp
  exact h
 case go =>
  simp only [List.take_succ_cons, List.take_zero, List.drop_succ_cons, List.drop_zero]
  repeat (refine A9 (fun K hK => ?_); go_simp; first | (refine hK _ ?_; clear hK K) | (apply Exists.intro; refine ⟨fun _ => ?_, hK _ ?_⟩; (first | with_reducible exact Ch _ _ | with_reducible exact Cj _ _ | exact Ay _ _ _ rfl _); clear hK K))
  refine Bn ⟨by simp [Bo, go_sem], ?_⟩
  intro g W hbW hl
  replace hbW := zz hbW
  go_wp2_with (go_at_call 82; refine (Ap (HL.out.wr.carry hbW.out) (k := 3) rfl hl (by simp; omega)).mono ?_; rintro e V1 ⟨rfl, hw2, hf2⟩; replace HL := zz (HL.out.put hbW.out hw2 hf2); clear hw2 hf2 hl hbW)
  go_wp2_with fail
  refine (Po HL.out.wr (by simp; omega) hm hm2 HL.out.kd).mono ?_
  rintro e V2 ⟨rfl, hw2, hf2⟩
  replace HL := zz (HL.out.put (Below.refl _ _) hw2 hf2)
  clear hw2 hf2
  go_wp2_with fail
  refine bodyPost_end (v := .tuple #[]) (by simp [results, Tryz.results115]) rfl ?_
  exact HL.out.done (by first | rfl | simp)
theorem a92 {w : World} {b : Nat} {E : Env} {X : List Pc} {t : Int} {out : List UInt8} (h : Wr w b E X t out) (hX : X.length ≤ 80000000) (ln cl sz num : Int) (tx : ByteArray) {a : Option Addr} {cap : Nat} {p0 p1 : Nat} (hk : Cq b w a [p0, p1]) :
  Calls Tryz.prog 116 #[pR b, .agg #[.int .u8 7, .int .i64 ln, .int .i64 cl, .int .i64 sz, .int .i64 num, .string tx], .slice a 2 cap] w (Put b E X t out [tP [118, 97, 114, 32], tP tx.data.toList, tP [58, 32], nP p0, tP [32, 61, 32], nP p1, tP [59]] w) := by
 have HL := zz (Lv.start h hk #[.int .u8 7, .int .i64 ln, .int .i64 cl, .int .i64 sz, .int .i64 num, .string tx] 37 ⟨by decide, by decide⟩)
 obtain ⟨g0, o0, rfl⟩ := hk.addr (by simp)
 clear h hk
 go_enter Tryz.func116, Tryz.ntmps116
 go_wp2_with fail
 have e5 := fun D os => cell_regrown (HL.out.cell 5 (v := .string tx) rfl) D os
 have k0 := fun D os => cell_regrown (show _ = some (itv p0) from HL.out.kd.cell (i := 0) (by simp)) D os
 have k1 := fun D os => cell_regrown (show _ = some (itv p1) from HL.out.kd.cell (i := 1) (by simp)) D os
 simp only [Nat.add_zero] at k0
 refine A6 16 7 [11, 14, 15, 19, 20, 24, 25] [pcV { data := #[118, 97, 114, 32] } 0 0 0, pcV tx 0 0 0, pcV { data := #[58, 32] } 0 0 0, pcV { data := #[] } p0 0 0, pcV { data := #[32, 61, 32] } 0 0 0, pcV { data := #[] } p1 0 0, pcV { data := #[59] } 0 0 0] #[.string { data := #[118, 97, 114, 32] }, .int .i64 0, .int .i64 0, .int .i64 0, .string tx, .int .i64 0, .int .i64 0, .int .i64 0, .string { data := #[58, 32] }, .int .i64 0, .int .i64 0, .int .i64 0, .string { data := #[] }, .int .i64 p0, .int .i64 0, .int .i64 0, .string { data := #[32, 61, 32] }, .int .i64 0, .int .i64 0, .int .i64 0, .string { data := #[] }, .int .i64 p1, .int .i64 0, .int .i64 0, .string { data := #[59] }, .int .i64 0, .int .i64 0, .int .i64 0] [tP [118, 97, 114, 32], tP tx.data.toList, tP [58, 32], nP p0, tP [32, 61, 32], nP p1, tP [59]] _ (by rfl) (by kernel_rfl) (by kernel_rfl) (by rfl) ?al ?go
 case al =>
  intro a w K hA h
  refine Bh rfl rfl ?_
  simp [Bo, go_sem] at hA
  go_simp
  exact h
 case go =>
  simp only [List.take_succ_cons, List.take_zero, List.drop_succ_cons, List.drop_zero]
  repeat (refine A9 (fun K hK => ?_); go_simp; first | (refine hK _ ?_; clear hK K) | (apply Exists.intro; refine ⟨fun _ => ?_, hK _ ?_⟩; (first | with_reducible exact Ch _ _ | with_reducible exact Cj _ _ | exact Ay _ _ _ rfl _); clear hK K))
  refine Bn ⟨by simp [Bo, go_sem], ?_⟩
  intro g W hbW hl
  replace hbW := zz hbW
  go_wp2_with (go_at_call 82; refine (Ap (HL.out.wr.carry hbW.out) (k := 7) rfl hl (by simp; omega)).mono ?_; rintro e V1 ⟨rfl, hw2, hf2⟩; replace HL := zz (HL.out.put hbW.out hw2 hf2); clear hw2 hf2 hl hbW)
  go_wp2_with fail
  refine bodyPost_end (v := .tuple #[]) (by simp [results, Tryz.results116]) rfl ?_
  exact HL.out.done (by first | rfl | simp)
theorem a91 {w : World} {b : Nat} {E : Env} {X : List Pc} {t : Int} {out : List UInt8} (h : Wr w b E X t out) (hX : X.length ≤ 80000000) (ln cl sz num : Int) (tx : ByteArray) {a : Option Addr} {cap : Nat} {p0 p1 : Nat} (hk : Cq b w a [p0, p1]) :
  Calls Tryz.prog 116 #[pR b, .agg #[.int .u8 8, .int .i64 ln, .int .i64 cl, .int .i64 sz, .int .i64 num, .string tx], .slice a 2 cap] w (Put b E X t out [nP p0, tP [32, 61, 32], nP p1, tP [59]] w) := by
 have HL := zz (Lv.start h hk #[.int .u8 8, .int .i64 ln, .int .i64 cl, .int .i64 sz, .int .i64 num, .string tx] 37 ⟨by decide, by decide⟩)
 obtain ⟨g0, o0, rfl⟩ := hk.addr (by simp)
 clear h hk
 go_enter Tryz.func116, Tryz.ntmps116
 go_wp2_with fail
 have k0 := fun D os => cell_regrown (show _ = some (itv p0) from HL.out.kd.cell (i := 0) (by simp)) D os
 have k1 := fun D os => cell_regrown (show _ = some (itv p1) from HL.out.kd.cell (i := 1) (by simp)) D os
 simp only [Nat.add_zero] at k0
 refine A6 11 4 [34, 35, 39, 40] [pcV { data := #[] } p0 0 0, pcV { data := #[32, 61, 32] } 0 0 0, pcV { data := #[] } p1 0 0, pcV { data := #[59] } 0 0 0] #[.string { data := #[] }, .int .i64 p0, .int .i64 0, .int .i64 0, .string { data := #[32, 61, 32] }, .int .i64 0, .int .i64 0, .int .i64 0, .string { data := #[] }, .int .i64 p1, .int .i64 0, .int .i64 0, .string { data := #[59] }, .int .i64 0, .int .i64 0, .int .i64 0] [nP p0, tP [32, 61, 32], nP p1, tP [59]] _ (by rfl) (by kernel_rfl) (by kernel_rfl) (by rfl) ?al ?go
 case al =>
  intro a w K hA h
  refine Bh rfl rfl ?_
  simp [Bo, go_sem] at hA
  go_simp
  exact h
 case go =>
  simp only [List.take_succ_cons, List.take_zero, List.drop_succ_cons, List.drop_zero]
  repeat (refine A9 (fun K hK => ?_); go_simp; first | (refine hK _ ?_; clear hK K) | (apply Exists.intro; refine ⟨fun _ => ?_, hK _ ?_⟩; (first | with_reducible exact Ch _ _ | with_reducible exact Cj _ _ | exact Ay _ _ _ rfl _); clear hK K))
  refine Bn ⟨by simp [Bo, go_sem], ?_⟩
  intro g W hbW hl
  replace hbW := zz hbW
  go_wp2_with (go_at_call 82; refine (Ap (HL.out.wr.carry hbW.out) (k := 4) rfl hl (by simp; omega)).mono ?_; rintro e V1 ⟨rfl, hw2, hf2⟩; replace HL := zz (HL.out.put hbW.out hw2 hf2); clear hw2 hf2 hl hbW)
  go_wp2_with fail
  refine bodyPost_end (v := .tuple #[]) (by simp [results, Tryz.results116]) rfl ?_
  exact HL.out.done (by first | rfl | simp)
theorem a6d {w : World} {b : Nat} {E : Env} {X : List Pc} {t : Int} {out : List UInt8} (h : Wr w b E X t out) (hX : X.length ≤ 80000000) (ln cl sz num : Int) (tx : ByteArray) {a : Option Addr} {cap : Nat} {p0 p1 : Nat} (hk : Cq b w a [p0, p1]) :
  Calls Tryz.prog 116 #[pR b, .agg #[.int .u8 9, .int .i64 ln, .int .i64 cl, .int .i64 sz, .int .i64 num, .string tx], .slice a 2 cap] w (Put b E X t out [tP [105, 102, 32], nP p0, tP [32], nP p1] w) := by
 have HL := zz (Lv.start h hk #[.int .u8 9, .int .i64 ln, .int .i64 cl, .int .i64 sz, .int .i64 num, .string tx] 37 ⟨by decide, by decide⟩)
 obtain ⟨g0, o0, rfl⟩ := hk.addr (by simp)
 clear h hk
 go_enter Tryz.func116, Tryz.ntmps116
 go_wp2_with fail
 have k0 := fun D os => cell_regrown (show _ = some (itv p0) from HL.out.kd.cell (i := 0) (by simp)) D os
 have k1 := fun D os => cell_regrown (show _ = some (itv p1) from HL.out.kd.cell (i := 1) (by simp)) D os
 simp only [Nat.add_zero] at k0
 refine A6 11 4 [46, 50, 51, 55] [pcV { data := #[105, 102, 32] } 0 0 0, pcV { data := #[] } p0 0 0, pcV { data := #[32] } 0 0 0, pcV { data := #[] } p1 0 0] #[.string { data := #[105, 102, 32] }, .int .i64 0, .int .i64 0, .int .i64 0, .string { data := #[] }, .int .i64 p0, .int .i64 0, .int .i64 0, .string { data := #[32] }, .int .i64 0, .int .i64 0, .int .i64 0, .string { data := #[] }, .int .i64 p1, .int .i64 0, .int .i64 0] [tP [105, 102, 32], nP p0, tP [32], nP p1] _ (by rfl) (by kernel_rfl) (by kernel_rfl) (by rfl) ?al ?go
 case al =>
  intro a w K hA h
  refine Bh rfl rfl ?_
  simp [Bo, go_sem] at hA
  go_simp
  exact h
 case go =>
  simp only [List.take_succ_cons, List.take_zero, List.drop_succ_cons, List.drop_zero]
  repeat (refine A9 (fun K hK => ?_); go_simp; first | (refine hK _ ?_; clear hK K) | (apply Exists.intro; refine ⟨fun _ => ?_, hK _ ?_⟩; (first | with_reducible exact Ch _ _ | with_reducible exact Cj _ _ | exact Ay _ _ _ rfl _); clear hK K))
  refine Bn ⟨by simp [Bo, go_sem], ?_⟩
  intro g W hbW hl
  replace hbW := zz hbW
  go_wp2_with (go_at_call 82; refine (Ap (HL.out.wr.carry hbW.out) (k := 4) rfl hl (by simp; omega)).mono ?_; rintro e V1 ⟨rfl, hw2, hf2⟩; replace HL := zz (HL.out.put hbW.out hw2 hf2); clear hw2 hf2 hl hbW)
  go_wp2_with fail
  refine bodyPost_end (v := .tuple #[]) (by simp [results, Tryz.results116]) rfl ?_
  exact HL.out.done (by first | rfl | simp)
theorem a6c {w : World} {b : Nat} {E : Env} {X : List Pc} {t : Int} {out : List UInt8} (h : Wr w b E X t out) (hX : X.length ≤ 80000000) (ln cl sz num : Int) (tx : ByteArray) {a : Option Addr} {cap : Nat} {p0 p1 p2 : Nat} (hk : Cq b w a [p0, p1, p2]) :
  Calls Tryz.prog 116 #[pR b, .agg #[.int .u8 9, .int .i64 ln, .int .i64 cl, .int .i64 sz, .int .i64 num, .string tx], .slice a 3 cap] w (Put b E X t out ([tP [105, 102, 32], nP p0, tP [32], nP p1] ++ [tP [32, 101, 108, 115, 101, 32], nP p2]) w) := by
 have HL := zz (Lv.start h hk #[.int .u8 9, .int .i64 ln, .int .i64 cl, .int .i64 sz, .int .i64 num, .string tx] 37 ⟨by decide, by decide⟩)
 obtain ⟨g0, o0, rfl⟩ := hk.addr (by simp)
 clear h hk
 go_enter Tryz.func116, Tryz.ntmps116
 go_wp2_with fail
 have k0 := fun D os => cell_regrown (show _ = some (itv p0) from HL.out.kd.cell (i := 0) (by simp)) D os
 have k1 := fun D os => cell_regrown (show _ = some (itv p1) from HL.out.kd.cell (i := 1) (by simp)) D os
 simp only [Nat.add_zero] at k0
 refine A6 11 4 [46, 50, 51, 55] [pcV { data := #[105, 102, 32] } 0 0 0, pcV { data := #[] } p0 0 0, pcV { data := #[32] } 0 0 0, pcV { data := #[] } p1 0 0] #[.string { data := #[105, 102, 32] }, .int .i64 0, .int .i64 0, .int .i64 0, .string { data := #[] }, .int .i64 p0, .int .i64 0, .int .i64 0, .string { data := #[32] }, .int .i64 0, .int .i64 0, .int .i64 0, .string { data := #[] }, .int .i64 p1, .int .i64 0, .int .i64 0] [tP [105, 102, 32], nP p0, tP [32], nP p1] _ (by rfl) (by kernel_rfl) (by kernel_rfl) (by rfl) ?al ?go
 case al =>
  intro a w K hA h
  refine Bh rfl rfl ?_
  simp [Bo, go_sem] at hA
  go_simp
  exact h
 case go =>
  simp only [List.take_succ_cons, List.take_zero, List.drop_succ_cons, List.drop_zero]
  repeat (refine A9 (fun K hK => ?_); go_simp; first | (refine hK _ ?_; clear hK K) | (apply Exists.intro; refine ⟨fun _ => ?_, hK _ ?_⟩; (first | with_reducible exact Ch _ _ | with_reducible exact Cj _ _ | exact Ay _ _ _ rfl _); clear hK K))
  refine Bn ⟨by simp [Bo, go_sem], ?_⟩
  intro g W hbW hl
  replace hbW := zz hbW
  go_wp2_with (go_at_call 82; refine (Ap (HL.out.wr.carry hbW.out) (k := 4) rfl hl (by simp; omega)).mono ?_; rintro e V1 ⟨rfl, hw2, hf2⟩; replace HL := zz (HL.out.put hbW.out hw2 hf2); clear hw2 hf2 hl hbW)
  go_wp2_with fail
  have k0 := fun D os => cell_regrown (show _ = some (itv p0) from HL.out.kd.cell (i := 0) (by simp)) D os
  have k1 := fun D os => cell_regrown (show _ = some (itv p1) from HL.out.kd.cell (i := 1) (by simp)) D os
  have k2 := fun D os => cell_regrown (show _ = some (itv p2) from HL.out.kd.cell (i := 2) (by simp)) D os
  simp only [Nat.add_zero] at k0
  refine A6 6 2 [62, 66] [pcV { data := #[32, 101, 108, 115, 101, 32] } 0 0 0, pcV { data := #[] } p2 0 0] #[.string { data := #[32, 101, 108, 115, 101, 32] }, .int .i64 0, .int .i64 0, .int .i64 0, .string { data := #[] }, .int .i64 p2, .int .i64 0, .int .i64 0] [tP [32, 101, 108, 115, 101, 32], nP p2] _ (by rfl) (by kernel_rfl) (by kernel_rfl) (by rfl) ?al ?go
  case al =>
   intro a w K hA h
   refine Bh rfl rfl ?_
   simp [Bo, go_sem] at hA
   go_simp
   exact h
  case go =>
   simp only [List.take_succ_cons, List.take_zero, List.drop_succ_cons, List.drop_zero]
   repeat (refine A9 (fun K hK => ?_); go_simp; first | (refine hK _ ?_; clear hK K) | (apply Exists.intro; refine ⟨fun _ => ?_, hK _ ?_⟩; (first | with_reducible exact Ch _ _ | with_reducible exact Cj _ _ | exact Ay _ _ _ rfl _); clear hK K))
   refine Bn ⟨by simp [Bo, go_sem], ?_⟩
   intro g W hbW hl
   replace hbW := zz hbW
   go_wp2_with (go_at_call 82; refine (Ap (HL.out.wr.carry hbW.out) (k := 2) rfl hl (by simp; omega)).mono ?_; rintro e V2 ⟨rfl, hw2, hf2⟩; replace HL := zz (HL.out.put hbW.out hw2 hf2); clear hw2 hf2 hl hbW)
   go_wp2_with fail
   refine bodyPost_end (v := .tuple #[]) (by simp [results, Tryz.results116]) rfl ?_
   exact HL.out.done (by first | rfl | simp)
theorem a6g {w : World} {b : Nat} {E : Env} {X : List Pc} {t : Int} {out : List UInt8} (h : Wr w b E X t out) (hX : X.length ≤ 80000000) (ln cl sz num : Int) (tx : ByteArray) {a : Option Addr} {cap : Nat} {p0 p1 : Nat} (hk : Cq b w a [p0, p1]) :
  Calls Tryz.prog 116 #[pR b, .agg #[.int .u8 10, .int .i64 ln, .int .i64 cl, .int .i64 sz, .int .i64 num, .string tx], .slice a 2 cap] w (Put b E X t out [tP [119, 104, 105, 108, 101, 32], nP p0, tP [32], nP p1] w) := by
 have HL := zz (Lv.start h hk #[.int .u8 10, .int .i64 ln, .int .i64 cl, .int .i64 sz, .int .i64 num, .string tx] 37 ⟨by decide, by decide⟩)
 obtain ⟨g0, o0, rfl⟩ := hk.addr (by simp)
 clear h hk
 go_enter Tryz.func116, Tryz.ntmps116
 go_wp2_with fail
 have k0 := fun D os => cell_regrown (show _ = some (itv p0) from HL.out.kd.cell (i := 0) (by simp)) D os
 have k1 := fun D os => cell_regrown (show _ = some (itv p1) from HL.out.kd.cell (i := 1) (by simp)) D os
 simp only [Nat.add_zero] at k0
 refine A6 11 4 [72, 76, 77, 81] [pcV { data := #[119, 104, 105, 108, 101, 32] } 0 0 0, pcV { data := #[] } p0 0 0, pcV { data := #[32] } 0 0 0, pcV { data := #[] } p1 0 0] #[.string { data := #[119, 104, 105, 108, 101, 32] }, .int .i64 0, .int .i64 0, .int .i64 0, .string { data := #[] }, .int .i64 p0, .int .i64 0, .int .i64 0, .string { data := #[32] }, .int .i64 0, .int .i64 0, .int .i64 0, .string { data := #[] }, .int .i64 p1, .int .i64 0, .int .i64 0] [tP [119, 104, 105, 108, 101, 32], nP p0, tP [32], nP p1] _ (by rfl) (by kernel_rfl) (by kernel_rfl) (by rfl) ?al ?go
 case al =>
  intro a w K hA h
  refine Bh rfl rfl ?_
  simp [Bo, go_sem] at hA
  go_simp
  exact h
 case go =>
  simp only [List.take_succ_cons, List.take_zero, List.drop_succ_cons, List.drop_zero]
  repeat (refine A9 (fun K hK => ?_); go_simp; first | (refine hK _ ?_; clear hK K) | (apply Exists.intro; refine ⟨fun _ => ?_, hK _ ?_⟩; (first | with_reducible exact Ch _ _ | with_reducible exact Cj _ _ | exact Ay _ _ _ rfl _); clear hK K))
  refine Bn ⟨by simp [Bo, go_sem], ?_⟩
  intro g W hbW hl
  replace hbW := zz hbW
  go_wp2_with (go_at_call 82; refine (Ap (HL.out.wr.carry hbW.out) (k := 4) rfl hl (by simp; omega)).mono ?_; rintro e V1 ⟨rfl, hw2, hf2⟩; replace HL := zz (HL.out.put hbW.out hw2 hf2); clear hw2 hf2 hl hbW)
  go_wp2_with fail
  refine bodyPost_end (v := .tuple #[]) (by simp [results, Tryz.results116]) rfl ?_
  exact HL.out.done (by first | rfl | simp)
theorem a1l {w : World} {b : Nat} {E : Env} {X : List Pc} {t : Int} {out : List UInt8} (h : Wr w b E X t out) (hX : X.length ≤ 80000000) (ln cl sz num : Int) (tx : ByteArray) {a : Option Addr} {cap : Nat} (hk : Cq b w a []) :
  Calls Tryz.prog 116 #[pR b, .agg #[.int .u8 11, .int .i64 ln, .int .i64 cl, .int .i64 sz, .int .i64 num, .string tx], .slice a 0 cap] w (Put b E X t out ([tP [114, 101, 116, 117, 114, 110]] ++ [tP [59]]) w) := by
 have HL := zz (Lv.start h hk #[.int .u8 11, .int .i64 ln, .int .i64 cl, .int .i64 sz, .int .i64 num, .string tx] 37 ⟨by decide, by decide⟩)
 clear h hk
 go_enter Tryz.func116, Tryz.ntmps116
 have hbW := zz (Below.refl (w.alloc (.cells #[.int .u8 11, .int .i64 ln, .int .i64 cl, .int .i64 sz, .int .i64 num, .string tx] 37)).heap.size (w.alloc (.cells #[.int .u8 11, .int .i64 ln, .int .i64 cl, .int .i64 sz, .int .i64 num, .string tx] 37)))
 go_wp2_with fail
 refine (B7 _ _).mono ?_
 rintro e w1 ⟨rfl, hb1⟩
 replace hbW := zz (Ab hbW.out hb1)
 go_wp2_with fail
 refine (Ap (P := [tP [114, 101, 116, 117, 114, 110]]) (k := 1) (HL.out.wr.carry (Ab hbW.out (Aa w1 _))) rfl (LiesP.made (news := #[.string { data := #[114, 101, 116, 117, 114, 110] }, .int .i64 0, .int .i64 0, .int .i64 0]) w1 rfl) (by simp; omega)).mono ?_
 rintro e V1 ⟨rfl, hw2, hf2⟩
 replace HL := zz (HL.out.put (Ab hbW.out (Aa w1 _)) hw2 hf2)
 clear hw2 hf2 hb1 hbW
 have hbW := zz (Below.refl V1.heap.size V1)
 go_wp2_with fail
 refine (B7 _ _).mono ?_
 rintro e w1 ⟨rfl, hb1⟩
 replace hbW := zz (Ab hbW.out hb1)
 go_wp2_with fail
 refine (Ap (P := [tP [59]]) (k := 1) (HL.out.wr.carry (Ab hbW.out (Aa w1 _))) rfl (LiesP.made (news := #[.string { data := #[59] }, .int .i64 0, .int .i64 0, .int .i64 0]) w1 rfl) (by simp; omega)).mono ?_
 rintro e V2 ⟨rfl, hw2, hf2⟩
 replace HL := zz (HL.out.put (Ab hbW.out (Aa w1 _)) hw2 hf2)
 clear hw2 hf2 hb1 hbW
 go_wp2_with fail
 refine bodyPost_end (v := .tuple #[]) (by simp [results, Tryz.results116]) rfl ?_
 exact HL.out.done (by first | rfl | simp)
theorem a1k {w : World} {b : Nat} {E : Env} {X : List Pc} {t : Int} {out : List UInt8} (h : Wr w b E X t out) (hX : X.length ≤ 80000000) (ln cl sz num : Int) (tx : ByteArray) {a : Option Addr} {cap : Nat} {p0 : Nat} (hk : Cq b w a [p0]) :
  Calls Tryz.prog 116 #[pR b, .agg #[.int .u8 11, .int .i64 ln, .int .i64 cl, .int .i64 sz, .int .i64 num, .string tx], .slice a 1 cap] w (Put b E X t out ([tP [114, 101, 116, 117, 114, 110]] ++ [tP [32], nP p0] ++ [tP [59]]) w) := by
 have HL := zz (Lv.start h hk #[.int .u8 11, .int .i64 ln, .int .i64 cl, .int .i64 sz, .int .i64 num, .string tx] 37 ⟨by decide, by decide⟩)
 obtain ⟨g0, o0, rfl⟩ := hk.addr (by simp)
 clear h hk
 go_enter Tryz.func116, Tryz.ntmps116
 have hbW := zz (Below.refl (w.alloc (.cells #[.int .u8 11, .int .i64 ln, .int .i64 cl, .int .i64 sz, .int .i64 num, .string tx] 37)).heap.size (w.alloc (.cells #[.int .u8 11, .int .i64 ln, .int .i64 cl, .int .i64 sz, .int .i64 num, .string tx] 37)))
 go_wp2_with fail
 refine (B7 _ _).mono ?_
 rintro e w1 ⟨rfl, hb1⟩
 replace hbW := zz (Ab hbW.out hb1)
 go_wp2_with fail
 refine (Ap (P := [tP [114, 101, 116, 117, 114, 110]]) (k := 1) (HL.out.wr.carry (Ab hbW.out (Aa w1 _))) rfl (LiesP.made (news := #[.string { data := #[114, 101, 116, 117, 114, 110] }, .int .i64 0, .int .i64 0, .int .i64 0]) w1 rfl) (by simp; omega)).mono ?_
 rintro e V1 ⟨rfl, hw2, hf2⟩
 replace HL := zz (HL.out.put (Ab hbW.out (Aa w1 _)) hw2 hf2)
 clear hw2 hf2 hb1 hbW
 go_wp2_with fail
 have k0 := fun D os => cell_regrown (show _ = some (itv p0) from HL.out.kd.cell (i := 0) (by simp)) D os
 simp only [Nat.add_zero] at k0
 refine A6 6 2 [94, 98] [pcV { data := #[32] } 0 0 0, pcV { data := #[] } p0 0 0] #[.string { data := #[32] }, .int .i64 0, .int .i64 0, .int .i64 0, .string { data := #[] }, .int .i64 p0, .int .i64 0, .int .i64 0] [tP [32], nP p0] _ (by rfl) (by kernel_rfl) (by kernel_rfl) (by rfl) ?al ?go
 case al =>
  intro a w K hA h
  refine Bh rfl rfl ?_
  simp [Bo, go_sem] at hA
  go_simp
  exact h
 case go =>
  simp only [List.take_succ_cons, List.take_zero, List.drop_succ_cons, List.drop_zero]
  repeat (refine A9 (fun K hK => ?_); go_simp; first | (refine hK _ ?_; clear hK K) | (apply Exists.intro; refine ⟨fun _ => ?_, hK _ ?_⟩; (first | with_reducible exact Ch _ _ | with_reducible exact Cj _ _ | exact Ay _ _ _ rfl _); clear hK K))
  refine Bn ⟨by simp [Bo, go_sem], ?_⟩
  intro g W hbW hl
  replace hbW := zz hbW
  go_wp2_with (go_at_call 82; refine (Ap (HL.out.wr.carry hbW.out) (k := 2) rfl hl (by simp; omega)).mono ?_; rintro e V2 ⟨rfl, hw2, hf2⟩; replace HL := zz (HL.out.put hbW.out hw2 hf2); clear hw2 hf2 hl hbW)
  have hbW := zz (Below.refl V2.heap.size V2)
  go_wp2_with fail
  refine (B7 _ _).mono ?_
  rintro e w1 ⟨rfl, hb1⟩
  replace hbW := zz (Ab hbW.out hb1)
  go_wp2_with fail
  refine (Ap (P := [tP [59]]) (k := 1) (HL.out.wr.carry (Ab hbW.out (Aa w1 _))) rfl (LiesP.made (news := #[.string { data := #[59] }, .int .i64 0, .int .i64 0, .int .i64 0]) w1 rfl) (by simp; omega)).mono ?_
  rintro e V3 ⟨rfl, hw2, hf2⟩
  replace HL := zz (HL.out.put (Ab hbW.out (Aa w1 _)) hw2 hf2)
  clear hw2 hf2 hb1 hbW
  go_wp2_with fail
  refine bodyPost_end (v := .tuple #[]) (by simp [results, Tryz.results116]) rfl ?_
  exact HL.out.done (by first | rfl | simp)
theorem a6f {w : World} {b : Nat} {E : Env} {X : List Pc} {t : Int} {out : List UInt8} (h : Wr w b E X t out) (hX : X.length ≤ 80000000) (ln cl sz num : Int) (tx : ByteArray) {a : Option Addr} {cap : Nat} {p0 : Nat} (hk : Cq b w a [p0]) :
  Calls Tryz.prog 116 #[pR b, .agg #[.int .u8 12, .int .i64 ln, .int .i64 cl, .int .i64 sz, .int .i64 num, .string tx], .slice a 1 cap] w (Put b E X t out [tP [112, 114, 105, 110, 116, 32], nP p0, tP [59]] w) := by
 have HL := zz (Lv.start h hk #[.int .u8 12, .int .i64 ln, .int .i64 cl, .int .i64 sz, .int .i64 num, .string tx] 37 ⟨by decide, by decide⟩)
 obtain ⟨g0, o0, rfl⟩ := hk.addr (by simp)
 clear h hk
 go_enter Tryz.func116, Tryz.ntmps116
 go_wp2_with fail
 have k0 := fun D os => cell_regrown (show _ = some (itv p0) from HL.out.kd.cell (i := 0) (by simp)) D os
 simp only [Nat.add_zero] at k0
 refine A6 7 3 [108, 112, 113] [pcV { data := #[112, 114, 105, 110, 116, 32] } 0 0 0, pcV { data := #[] } p0 0 0, pcV { data := #[59] } 0 0 0] #[.string { data := #[112, 114, 105, 110, 116, 32] }, .int .i64 0, .int .i64 0, .int .i64 0, .string { data := #[] }, .int .i64 p0, .int .i64 0, .int .i64 0, .string { data := #[59] }, .int .i64 0, .int .i64 0, .int .i64 0] [tP [112, 114, 105, 110, 116, 32], nP p0, tP [59]] _ (by rfl) (by kernel_rfl) (by kernel_rfl) (by rfl) ?al ?go
 case al =>
  intro a w K hA h
  refine Bh rfl rfl ?_
  simp [Bo, go_sem] at hA
  go_simp
  exact h
 case go =>
  simp only [List.take_succ_cons, List.take_zero, List.drop_succ_cons, List.drop_zero]
  repeat (refine A9 (fun K hK => ?_); go_simp; first | (refine hK _ ?_; clear hK K) | (apply Exists.intro; refine ⟨fun _ => ?_, hK _ ?_⟩; (first | with_reducible exact Ch _ _ | with_reducible exact Cj _ _ | exact Ay _ _ _ rfl _); clear hK K))
  refine Bn ⟨by simp [Bo, go_sem], ?_⟩
  intro g W hbW hl
  replace hbW := zz hbW
  go_wp2_with (go_at_call 82; refine (Ap (HL.out.wr.carry hbW.out) (k := 3) rfl hl (by simp; omega)).mono ?_; rintro e V1 ⟨rfl, hw2, hf2⟩; replace HL := zz (HL.out.put hbW.out hw2 hf2); clear hw2 hf2 hl hbW)
  go_wp2_with fail
  refine bodyPost_end (v := .tuple #[]) (by simp [results, Tryz.results116]) rfl ?_
  exact HL.out.done (by first | rfl | simp)
theorem a6e {w : World} {b : Nat} {E : Env} {X : List Pc} {t : Int} {out : List UInt8} (h : Wr w b E X t out) (hX : X.length ≤ 80000000) (ln cl sz num : Int) (tx : ByteArray) {a : Option Addr} {cap : Nat} {p0 : Nat} (hk : Cq b w a [p0]) :
  Calls Tryz.prog 116 #[pR b, .agg #[.int .u8 13, .int .i64 ln, .int .i64 cl, .int .i64 sz, .int .i64 num, .string tx], .slice a 1 cap] w (Put b E X t out [nP p0, tP [59]] w) := by
 have HL := zz (Lv.start h hk #[.int .u8 13, .int .i64 ln, .int .i64 cl, .int .i64 sz, .int .i64 num, .string tx] 37 ⟨by decide, by decide⟩)
 obtain ⟨g0, o0, rfl⟩ := hk.addr (by simp)
 clear h hk
 go_enter Tryz.func116, Tryz.ntmps116
 have k0 : _ = some (itv p0) := HL.out.kd.cell (i := 0) (by simp)
 simp only [Nat.add_zero] at k0
 have hbW := zz (Below.refl (w.alloc (.cells #[.int .u8 13, .int .i64 ln, .int .i64 cl, .int .i64 sz, .int .i64 num, .string tx] 37)).heap.size (w.alloc (.cells #[.int .u8 13, .int .i64 ln, .int .i64 cl, .int .i64 sz, .int .i64 num, .string tx] 37)))
 go_wp2_with fail
 refine (Hm _ _).mono ?_
 rintro e w1 ⟨rfl, hb1⟩
 replace hbW := zz (Ab hbW.out hb1)
 go_wp2_with fail
 refine (B7 _ _).mono ?_
 rintro e w1 ⟨rfl, hb1⟩
 replace hbW := zz (Ab hbW.out hb1)
 go_wp2_with fail
 refine (Ap (P := [nP p0, tP [59]]) (k := 2) (HL.out.wr.carry (Ab hbW.out (Aa w1 _))) rfl (LiesP.made (news := #[.string { data := #[] }, .int .i64 p0, .int .i64 0, .int .i64 0, .string { data := #[59] }, .int .i64 0, .int .i64 0, .int .i64 0]) w1 rfl) (by simp; omega)).mono ?_
 rintro e V1 ⟨rfl, hw2, hf2⟩
 replace HL := zz (HL.out.put (Ab hbW.out (Aa w1 _)) hw2 hf2)
 clear hw2 hf2 hb1 hbW
 clear k0
 go_wp2_with fail
 refine bodyPost_end (v := .tuple #[]) (by simp [results, Tryz.results116]) rfl ?_
 exact HL.out.done (by first | rfl | simp)
end Go.Proofs.YtoaplbljflhheaaGreat
