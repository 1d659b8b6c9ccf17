/-
 Contracts and plain facts on the way to PrettyBack. Conditions: as each says.
-/
import Derived.Test.YtoaplbljflhheaaGreatBbt
import Derived.Test.YtoaplbljflhheaaGreatBae
import Derived.Test.YtoaplbljflhheaaGreatBav
import Derived.Test.YtoaplbljflhheaaGreatBai
set_option maxHeartbeats 40000000
set_option maxRecDepth 100000
set_option linter.unusedVariables false
set_option linter.unusedSimpArgs false
namespace Go.Proofs.YtoaplbljflhheaaGreat
open _root_.Go.Proofs.Tryz
section
open Go.RowKit Go.Sort
theorem b5l {w : World} {b : Nat} {E : Env} {X : List Pc} {t : Int} {out : List UInt8} (h : Wr w b E X t out) (hX : X.length <= 80000000) (ln cl sz num : Int) (tx : ByteArray) {a : Option Addr} {cap : Nat} {m : Nat} {ps : List Nat} (hm : Hid (ps.length = m)) (hm2 : m <= 1000000) (hk : D3 b w a ps) :
  Calls prog 119 #[pR b, .agg #[.int .u8 27, .int .i64 ln, .int .i64 cl, .int .i64 sz, .int .i64 num, .string tx], .slice a m cap] w (Put b E X t out ([tP tx.data.toList, tP [40]] ++ (Aw ps) ++ [tP [41]]) w) := by
 have HL := zz (Lv.start h hk #[.int .u8 27, .int .i64 ln, .int .i64 cl, .int .i64 sz, .int .i64 num, .string tx] 37 ⟨by decide, by decide⟩);clear h hk;go_enter func119, ntmps119;have hbW := zz (Below.refl (w.alloc (.cells #[.int .u8 27, .int .i64 ln, .int .i64 cl, .int .i64 sz, .int .i64 num, .string tx] 37)).heap.size (w.alloc (.cells #[.int .u8 27, .int .i64 ln, .int .i64 cl, .int .i64 sz, .int .i64 num, .string tx] 37)));go_wp2_with fail;refine (Cy _ _).mono ?_;rintro e w1 ⟨rfl, hb1⟩;replace hbW := zz (Ab hbW.out hb1);go_wp2_with fail;refine (Cy _ _).mono ?_;rintro e w1 ⟨rfl, hb1⟩;replace hbW := zz (Ab hbW.out hb1);go_wp2_with fail;refine (Ar (P := [tP tx.data.toList, tP [40]]) (k := 2) (HL.out.wr.carry (Ab hbW.out (Aa w1 _))) rfl (LiesP.made (news := #[.string tx, .int .i64 0, .int .i64 0, .int .i64 0, .string { data := #[40] }, .int .i64 0, .int .i64 0, .int .i64 0]) w1 rfl) (by simp; omega)).mono ?_;rintro e V1 ⟨rfl, hw2, hf2⟩;replace HL := zz (HL.out.put (Ab hbW.out (Aa w1 _)) hw2 hf2);clear hw2 hf2 hb1 hbW;go_wp2_with fail;refine (It HL.out.wr (by simp; omega) hm hm2 HL.out.kd).mono ?_;rintro e V2 ⟨rfl, hw2, hf2⟩;replace HL := zz (HL.out.put (Below.refl _ _) hw2 hf2);clear hw2 hf2;have hbW := zz (Below.refl V2.heap.size V2);go_wp2_with fail;refine (Cy _ _).mono ?_;rintro e w1 ⟨rfl, hb1⟩;replace hbW := zz (Ab hbW.out hb1);go_wp2_with fail;refine (Ar (P := [tP [41]]) (k := 1) (HL.out.wr.carry (Ab hbW.out (Aa w1 _))) rfl (LiesP.made (news := #[.string { data := #[41] }, .int .i64 0, .int .i64 0, .int .i64 0]) w1 rfl) (by have := Hr ps; have := hm.out; simp; omega)).mono ?_;rintro e V3 ⟨rfl, hw2, hf2⟩;replace HL := zz (HL.out.put (Ab hbW.out (Aa w1 _)) hw2 hf2);clear hw2 hf2 hb1 hbW;go_wp2_with fail;refine bodyPost_end (v := .tuple #[]) (by simp [results, results119]) rfl ?_;exact HL.out.done (by first | rfl | simp)
theorem b5k {w : World} {b : Nat} {E : Env} {X : List Pc} {t : Int} {out : List UInt8} (h : Wr w b E X t out) (hX : X.length <= 80000000) (ln cl sz num : Int) (tx : ByteArray) {a : Option Addr} {cap : Nat} {p0 p1 : Nat} (hk : D3 b w a [p0, p1]) :
  Calls prog 119 #[pR b, .agg #[.int .u8 28, .int .i64 ln, .int .i64 cl, .int .i64 sz, .int .i64 num, .string tx], .slice a 2 cap] w (Put b E X t out [oP p0 8, tP [91], nP p1, tP [93]] w) := by
 have HL := zz (Lv.start h hk #[.int .u8 28, .int .i64 ln, .int .i64 cl, .int .i64 sz, .int .i64 num, .string tx] 37 ⟨by decide, by decide⟩);obtain ⟨g0, o0, rfl⟩ := hk.addr (by simp);clear h hk;go_enter func119, ntmps119;go_wp2_with fail;have k0 := fun D os => cell_regrown (show _ = some (itv p0) from HL.out.kd.cell (i := 0) (by simp)) D os
 have k1 := fun D os => cell_regrown (show _ = some (itv p1) from HL.out.kd.cell (i := 1) (by simp)) D os
 simp only [Nat.add_zero] at k0;refine A5 11 4 [30, 31, 35, 36] [pcV { data := #[] } p0 8 0, pcV { data := #[91] } 0 0 0, pcV { data := #[] } p1 0 0, pcV { data := #[93] } 0 0 0] #[.string { data := #[] }, .int .i64 p0, .int .i64 8, .int .i64 0, .string { data := #[91] }, .int .i64 0, .int .i64 0, .int .i64 0, .string { data := #[] }, .int .i64 p1, .int .i64 0, .int .i64 0, .string { data := #[93] }, .int .i64 0, .int .i64 0, .int .i64 0] [oP p0 8, tP [91], nP p1, tP [93]] _ (by rfl) (by kernel_rfl) (by kernel_rfl) (by rfl) ?al ?go
 case al =>
  intro a w K hA h;refine Bw rfl rfl ?_;simp [Ca, go_sem] at hA;go_simp;exact h
 case go =>
  simp only [List.take_succ_cons, List.take_zero, List.drop_succ_cons, List.drop_zero]
  repeat (refine Be (fun K hK => ?_); go_simp; first | (refine hK _ ?_; clear hK K) | (apply Exists.intro; refine ⟨fun _ => ?_, hK _ ?_⟩; (first | with_reducible exact Dn _ _ | with_reducible exact Dp _ _ | exact A3 _ _ _ rfl _); clear hK K))
  refine B8 ⟨by simp [Ca, go_sem], ?_⟩;intro g W hbW hl;replace hbW := zz hbW;go_wp2_with (go_at_call 82; refine (Ar (HL.out.wr.carry hbW.out) (k := 4) rfl hl (by simp; omega)).mono ?_; rintro e V1 ⟨rfl, hw2, hf2⟩; replace HL := zz (HL.out.put hbW.out hw2 hf2); clear hw2 hf2 hl hbW);go_wp2_with fail;refine bodyPost_end (v := .tuple #[]) (by simp [results, results119]) rfl ?_;exact HL.out.done (by first | rfl | simp)
theorem b5j {w : World} {b : Nat} {E : Env} {X : List Pc} {t : Int} {out : List UInt8} (h : Wr w b E X t out) (hX : X.length <= 80000000) (ln cl sz num : Int) (tx : ByteArray) {a : Option Addr} {cap : Nat} {p0 : Nat} (hk : D3 b w a [p0]) :
  Calls prog 119 #[pR b, .agg #[.int .u8 29, .int .i64 ln, .int .i64 cl, .int .i64 sz, .int .i64 num, .string tx], .slice a 1 cap] w (Put b E X t out [oP p0 8, tP [46], tP tx.data.toList] w) := by
 have HL := zz (Lv.start h hk #[.int .u8 29, .int .i64 ln, .int .i64 cl, .int .i64 sz, .int .i64 num, .string tx] 37 ⟨by decide, by decide⟩);obtain ⟨g0, o0, rfl⟩ := hk.addr (by simp);clear h hk;go_enter func119, ntmps119;go_wp2_with fail;have e5 := fun D os => cell_regrown (HL.out.cell 5 (v := .string tx) rfl) D os
 have k0 := fun D os => cell_regrown (show _ = some (itv p0) from HL.out.kd.cell (i := 0) (by simp)) D os
 simp only [Nat.add_zero] at k0;refine A5 9 3 [45, 46, 49] [pcV { data := #[] } p0 8 0, pcV { data := #[46] } 0 0 0, pcV tx 0 0 0] #[.string { data := #[] }, .int .i64 p0, .int .i64 8, .int .i64 0, .string { data := #[46] }, .int .i64 0, .int .i64 0, .int .i64 0, .string tx, .int .i64 0, .int .i64 0, .int .i64 0] [oP p0 8, tP [46], tP tx.data.toList] _ (by rfl) (by kernel_rfl) (by kernel_rfl) (by rfl) ?al ?go
 case al =>
  intro a w K hA h;refine Bw rfl rfl ?_;simp [Ca, go_sem] at hA;go_simp;exact h
 case go =>
  simp only [List.take_succ_cons, List.take_zero, List.drop_succ_cons, List.drop_zero]
  repeat (refine Be (fun K hK => ?_); go_simp; first | (refine hK _ ?_; clear hK K) | (apply Exists.intro; refine ⟨fun _ => ?_, hK _ ?_⟩; (first | with_reducible exact Dn _ _ | with_reducible exact Dp _ _ | exact A3 _ _ _ rfl _); clear hK K))
  refine B8 ⟨by simp [Ca, go_sem], ?_⟩;intro g W hbW hl;replace hbW := zz hbW;go_wp2_with (go_at_call 82; refine (Ar (HL.out.wr.carry hbW.out) (k := 3) rfl hl (by simp; omega)).mono ?_; rintro e V1 ⟨rfl, hw2, hf2⟩; replace HL := zz (HL.out.put hbW.out hw2 hf2); clear hw2 hf2 hl hbW);go_wp2_with fail;refine bodyPost_end (v := .tuple #[]) (by simp [results, results119]) rfl ?_;exact HL.out.done (by first | rfl | simp)
theorem b5i {w : World} {b : Nat} {E : Env} {X : List Pc} {t : Int} {out : List UInt8} (h : Wr w b E X t out) (hX : X.length <= 80000000) (ln cl sz num : Int) (tx : ByteArray) {a : Option Addr} {cap : Nat} {p0 : Nat} (hs : num ∈ sgE.map (·.1)) (hk : D3 b w a [p0]) :
  Calls prog 119 #[pR b, .agg #[.int .u8 30, .int .i64 ln, .int .i64 cl, .int .i64 sz, .int .i64 num, .string tx], .slice a 1 cap] w (Put b E X t out [tP (opS num).1, oP p0 7] w) := by
 have HL := zz (Lv.start h hk #[.int .u8 30, .int .i64 ln, .int .i64 cl, .int .i64 sz, .int .i64 num, .string tx] 37 ⟨by decide, by decide⟩);obtain ⟨g0, o0, rfl⟩ := hk.addr (by simp);clear h hk;go_enter func119, ntmps119;go_wp2_with fail;have k0 := fun D os => cell_regrown (show _ = some (itv p0) from HL.out.kd.cell (i := 0) (by simp)) D os
 simp only [Nat.add_zero] at k0;have c1 := fun D os => cell_regrown HL.out.wr.cells.2.1 D os
 have e4 := fun D os => cell_regrown (HL.out.cell 4 (v := .int .i64 num) rfl) D os
 obtain ⟨s, hs1⟩ : ∃ s, bs (opS num).1 = s := ⟨_, rfl⟩;obtain ⟨lv, hlv⟩ : ∃ lv, (opS num).2 = lv := ⟨_, rfl⟩;have HM := fun D os => Pu (n := num) (mb := E.mb) (w := grow (redrawn (w.alloc (.cells #[.int .u8 30, .int .i64 ln, .int .i64 cl, .int .i64 sz, .int .i64 num, .string tx] 37)) D) os) (((below_regrown _ D os).block E.mb (by have := HL.out.wr.1.mlow; have := HL.out.wr.lt; omega)).trans HL.out.wr.1.map) hs
 simp only [sgV, hs1, hlv] at HM;have HG := fun D os => b5d s lv (grow (redrawn (w.alloc (.cells #[.int .u8 30, .int .i64 ln, .int .i64 cl, .int .i64 sz, .int .i64 num, .string tx] 37)) D) os)
 refine A5 14 2 [63, 67] [pcV s 0 0 0, pcV { data := #[] } p0 7 0] #[.string s, .int .i64 0, .int .i64 0, .int .i64 0, .string { data := #[] }, .int .i64 p0, .int .i64 7, .int .i64 0] [tP (opS num).1, oP p0 7] _ (by rfl) (by kernel_rfl) (by kernel_rfl) (by rw [<- hs1]; rfl) ?al ?go
 case al =>
  intro a w K hA h;refine Bw rfl rfl ?_;simp [Ca, go_sem] at hA;go_simp;exact h
 case go =>
  simp only [List.take_succ_cons, List.take_zero, List.drop_succ_cons, List.drop_zero]
  repeat (refine Be (fun K hK => ?_); go_simp; first | (refine hK _ ?_; clear hK K) | (apply Exists.intro; refine ⟨fun _ => ?_, hK _ ?_⟩; (first | with_reducible exact Dn _ _ | with_reducible exact Dp _ _ | exact A3 _ _ _ rfl _); clear hK K))
  refine B8 ⟨by simp [Ca, go_sem], ?_⟩;intro g W hbW hl;replace hbW := zz hbW;go_wp2_with (go_at_call 82; refine (Ar (HL.out.wr.carry hbW.out) (k := 2) rfl hl (by simp; omega)).mono ?_; rintro e V1 ⟨rfl, hw2, hf2⟩; replace HL := zz (HL.out.put hbW.out hw2 hf2); clear hw2 hf2 hl hbW);go_wp2_with fail;refine bodyPost_end (v := .tuple #[]) (by simp [results, results119]) rfl ?_;exact HL.out.done (by first | rfl | simp)
end
end Go.Proofs.YtoaplbljflhheaaGreat
