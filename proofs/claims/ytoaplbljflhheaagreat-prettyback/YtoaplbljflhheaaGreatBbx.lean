/-
 Contracts and plain facts on the way to PrettyBack. Conditions: as each says.
-/
import Derived.Test.YtoaplbljflhheaaGreatBbv
set_option maxHeartbeats 40000000
set_option maxRecDepth 100000
set_option linter.unusedVariables false
set_option linter.unusedSimpArgs false
namespace Go.Proofs.YtoaplbljflhheaaGreat
open _root_.Go.Proofs.Tryz
section
open Go.RowKit Go.Sort
def b5c (x : List UInt8) (ps : List Nat) (k pr pb : Nat) (none : Bool) : List Pc := [tP [102, 110, 32], tP x, tP [40]] ++ Aw (ps.take k) ++ [tP [41]] ++ (if none = true then [] else [tP [58, 32], nP pr]) ++ [tP [32], nP pb]
theorem c0h {w : World} {b : Nat} {E : Env} {X : List Pc} {t : Int} {out : List UInt8} (h : Wr w b E X t out) (hX : X.length <= 80000000) (ln cl sz : Int) (tx : ByteArray) {a : Option Addr} {m cap k : Nat} {ps : List Nat} (hm : Hid (ps.length = m)) (hk2 : m = k + 2) (hm2 : m <= 1000000) (hc : m <= cap) (hk : D3 b w a ps)
  {pr pb : Nat} (hpr : Hid (ps.getD k 0 = pr)) (hpb : Hid (ps.getD (k + 1) 0 = pb)) (hpn : pr < E.n) :
  Calls prog 152 #[pR b, .agg #[.int .u8 4, .int .i64 ln, .int .i64 cl, .int .i64 sz, .int .i64 (k : Nat), .string tx], .slice a m cap] w (Put b E X t out (b5c tx.data.toList ps k pr pb (decide ((nd E.l pr).kind = 14))) w) := by
 by_cases hkd : (nd E.l pr).kind = 14
 ·rw [decide_eq_true hkd];have := b5b h hX ln cl sz tx hm hk2 hm2 hc hk hpr hpb hpn hkd;simpa [b5c] using this
 ·rw [decide_eq_false hkd];have := b5a h hX ln cl sz tx hm hk2 hm2 hc hk hpr hpb hpn hkd;simpa [b5c] using this
theorem c0q {w : World} {b : Nat} {E : Env} {X : List Pc} {t : Int} {out : List UInt8} (h : Wr w b E X t out) (hX : X.length <= 80000000) (ln cl sz : Int) (tx : ByteArray) {a : Option Addr} {m cap k : Nat} {ps : List Nat} (hm : Hid (ps.length = m)) (hk2 : Hid (m = k + 2)) (hm2 : m <= 1000000) (hc : m <= cap) (hk : D3 b w a ps)
  {pr pb : Nat} (hpr : Hid (ps.getD k 0 = pr)) (hpb : Hid (ps.getD (k + 1) 0 = pb)) (hpn : pr < E.n) :
  Calls prog 115 #[pR b, .agg #[.int .u8 4, .int .i64 ln, .int .i64 cl, .int .i64 sz, .int .i64 (k : Nat), .string tx], .slice a m cap] w (Put b E X t out (b5c tx.data.toList ps k pr pb (decide ((nd E.l pr).kind = 14))) w) := by
 have HL := zz (Lv.start h hk #[.int .u8 4, .int .i64 ln, .int .i64 cl, .int .i64 sz, .int .i64 (k : Nat), .string tx] 37 ⟨by decide, by decide⟩);clear h hk;go_enter func115, ntmps115;go_wp2_with fail;refine (c0h HL.out.wr hX ln cl sz tx hm hk2.out hm2 hc HL.out.kd hpr hpb hpn).mono ?_;rintro e V1 ⟨rfl, hw2, hf2⟩;replace HL := zz (HL.out.put (Below.refl _ _) hw2 hf2);clear hw2 hf2;go_wp2_with fail;refine bodyPost_end (v := .tuple #[]) (by simp [results, results115]) rfl ?_;exact HL.out.done (by first | rfl | simp)
def Ei (ps : List Nat) : List Pc := ps.flatMap fun k => [nP k, tP [10]]
theorem a0u (ps : List Nat) : (Ei ps).length = 2 * ps.length := by
 induction ps with
 | nil => rfl
 | cons k r ih => rw [Ei, List.flatMap_cons, List.length_append]; rw [Ei] at ih; rw [ih]; simp; omega
theorem Wz {ps : List Nat} {i : Nat} (h : i < ps.length) : Ei (ps.take (i + 1)) = Ei (ps.take i) ++ [nP (ps.getD i 0), tP [10]] := by
 rw [O4 h, Ei, Ei, List.flatMap_append]; rfl
theorem c0t {w : World} {b : Nat} {E : Env} {X : List Pc} {t : Int} {out : List UInt8} (h : Wr w b E X t out) (hX : X.length <= 80000000) (ln cl sz num : Int) (tx : ByteArray) {a : Option Addr} {m cap : Nat} {ps : List Nat} (hm : Hid (ps.length = m)) (hm2 : m <= 1000000) (hk : D3 b w a ps) :
  Calls prog 115 #[pR b, .agg #[.int .u8 1, .int .i64 ln, .int .i64 cl, .int .i64 sz, .int .i64 num, .string tx], .slice a m cap] w (Put b E X t out (Ei ps) w) := by
 have HR : Hid (a1s w b E X t out a ps (fun i => Ei (ps.take i)) m (.int .i64 0) (w.alloc (.cells #[.int .u8 1, .int .i64 ln, .int .i64 cl, .int .i64 sz, .int .i64 num, .string tx] 37))) := zz ⟨0, Nat.zero_le _, rfl, by simpa [Ei] using h.carry (Aa w _), Fw.below (Aa w _) (Nat.le_of_lt h.lt), hk.carry (Aa w _)⟩;clear h hk;go_enter func115, ntmps115;go_wp2_with fail
 go_loopw [14] (fun j wr => a1s w b E X t out a ps (fun i => Ei (ps.take i)) m j wr) (fun j _ => m - (intOf j).toNat)
 case atStart => exact HR.out
 case round =>
  clear HR;obtain ⟨i, hi, rfl, hw, hf, hkk⟩ := hrel;have HF := zz hf;have HK := zz hkk;have hbr := hw.lt;by_cases hlt : i < m
  ·have hlt' : i < ps.length := by rw [hm.out]; exact hlt
   obtain ⟨g0, o0, rfl⟩ := hkk.addr (by omega);have hc := hkk.cell hlt';obtain ⟨k, hkp⟩ : ∃ k, ps.getD i 0 = k := ⟨_, rfl⟩;rw [hkp] at hc
   have HL : Hid ((X ++ Ei (ps.take i)).length <= 99000000) := zz (by
    have := a0u (ps.take i)
    simp only [List.length_append, this, List.length_take]; omega)
   have HW := zz hw;have HE : Hid (Ei (ps.take (i + 1)) = Ei (ps.take i) ++ [nP k, tP [10]]) := zz (by rw [Wz hlt', hkp]);clear hw hf hkk hkp hlt';go_wp2_with fail;refine (Lk _ _).mono ?_;rintro e w1 ⟨rfl, hb1⟩;replace hb1 := zz hb1;go_wp2_with fail;refine (Cy _ _).mono ?_;rintro e w2 ⟨rfl, hb2⟩;replace hb2 := zz (Ab hb1.out hb2);go_wp2_with fail;refine (Ar (P := [nP k, tP [10]]) (k := 2) (HW.out.carry (Ab hb2.out (Aa w2 _))) rfl (LiesP.made (news := #[.string { data := #[] }, .int .i64 k, .int .i64 0, .int .i64 0, .string { data := #[10] }, .int .i64 0, .int .i64 0, .int .i64 0]) w2 rfl) (by have := HL.out; omega)).mono ?_;rintro e V2 ⟨rfl, hw2, hf2⟩;have hFb := zz ((Fw.below (Ab hb2.out (Aa w2 (.cells #[.string { data := #[] }, .int .i64 k, .int .i64 0, .int .i64 0, .string { data := #[10] }, .int .i64 0, .int .i64 0, .int .i64 0] 71))) (Nat.le_of_lt hbr)).trans hf2);replace hw2 := zz hw2;clear hf2 hb2;go_wp2_with fail
   go_roundw
   case rel => exact ⟨i + 1, hlt, by go_num, by show Wr _ _ _ (X ++ Ei (ps.take (i + 1))) _ _; rw [HE.out, <- List.append_assoc]; exact hw2.out, HF.out.trans hFb.out, HK.out.fw hFb.out⟩
   case measure => simp [intOf]; omega
  ·have HW : Hid (Wr wr b E (X ++ Ei ps) t out) := zz (by
    have hw' : Wr wr b E (X ++ Ei (ps.take i)) t out := hw;rw [List.take_of_length_le (by rw [hm.out]; omega)] at hw'
    exact hw')
   clear hw hf hkk;go_wp2_with fail;refine bodyPost_end (v := .tuple #[]) (by simp [results, results115]) rfl ?_;exact ⟨rfl, HW.out, HF.out⟩
end
section
open Go.RowKit Go.Sort
theorem b55 {w : World} {b : Nat} {E : Env} {X : List Pc} {t : Int} {out : List UInt8} (h : Wr w b E X t out) (hX : X.length <= 80000000) (s : ByteArray) (lv : Nat) (hl : lv <= 8) {a : Option Addr} {cap : Nat} {p0 p1 : Nat} (hk : D3 b w a [p0, p1]) :
  Calls prog 157 #[pR b, .agg #[.string s, .int .i64 lv], .slice a 2 cap] w (Put b E X t out [oP p0 (Fh lv), tP [32], tP s.data.toList, tP [32], oP p1 (lv + 1)] w) := by
 by_cases h3 : lv = 3
 ·subst h3; exact c2w h hX s hk
 ·by_cases h4 : lv = 4
  ·subst h4; exact c2v h hX s hk
  ·rw [show Fh lv = lv by unfold Fh; rw [if_neg (by omega)]];exact b1b h hX s lv hl h3 h4 hk
theorem D3.tail {b : Nat} {w : World} {g o p : Nat} {ps : List Nat} (h : D3 b w (some ⟨g, o, none⟩) (p :: ps)) : D3 b w (some ⟨g, o + 1, none⟩) ps := fun i hi => by
 obtain ⟨g', o', cs, fz, h1, h2, h3, h4⟩ := h (i + 1) (by simp; omega);cases h1;exact ⟨g, o + 1, cs, fz, rfl, h2, h3, by rw [show o + 1 + i = o + (i + 1) by omega]; simpa using h4⟩
theorem D3.nil {b : Nat} {w : World} {a : Option Addr} : D3 b w a [] := fun i hi => absurd hi (by simp)
theorem c4a {c : Prop} [Decidable c] {a b : Nat} (ha : a <= 7) (hb : b <= 7) : (if c then a else b) <= 7 := by split <;> assumption
theorem b8p (n : Int) : (opS n).2 <= 7 := by
 unfold opS;simp only [apply_ite Prod.snd]
 repeat (refine c4a (by decide) ?_)
 decide
theorem b5h {w : World} {b : Nat} {E : Env} {X : List Pc} {t : Int} {out : List UInt8} (h : Wr w b E X t out) (hX : X.length <= 80000000) (ln cl sz num : Int) (tx : ByteArray) {a : Option Addr} {cap : Nat} {p0 p1 : Nat} (hs : num ∈ sgE.map (·.1)) (hk : D3 b w a [p0, p1]) :
  Calls prog 119 #[pR b, .agg #[.int .u8 31, .int .i64 ln, .int .i64 cl, .int .i64 sz, .int .i64 num, .string tx], .slice a 2 cap] w (Put b E X t out [oP p0 (Fh (opS num).2), tP [32], tP (opS num).1, tP [32], oP p1 ((opS num).2 + 1)] w) := by
 have HL := zz (Lv.start h hk #[.int .u8 31, .int .i64 ln, .int .i64 cl, .int .i64 sz, .int .i64 num, .string tx] 37 ⟨by decide, by decide⟩);obtain ⟨g0, o0, rfl⟩ := hk.addr (by simp);clear h hk;go_enter func119, ntmps119;have c1 := fun D os => cell_regrown HL.out.wr.cells.2.1 D os
 have e4 := fun D os => cell_regrown (HL.out.cell 4 (v := .int .i64 num) rfl) D os
 obtain ⟨s, hs1⟩ : ∃ s, bs (opS num).1 = s := ⟨_, rfl⟩;obtain ⟨lv, hlv⟩ : ∃ lv, (opS num).2 = lv := ⟨_, rfl⟩;have HM := fun D os => Pu (n := num) (mb := E.mb) (w := grow (redrawn (w.alloc (.cells #[.int .u8 31, .int .i64 ln, .int .i64 cl, .int .i64 sz, .int .i64 num, .string tx] 37)) D) os) (((below_regrown _ D os).block E.mb (by have := HL.out.wr.1.mlow; have := HL.out.wr.lt; omega)).trans HL.out.wr.1.map) hs
 simp only [sgV, hs1, hlv] at HM;go_wp2_with fail;refine Ce 9 (by kernel_rfl) (by kernel_rfl) ?_;simp only [List.take_succ_cons, List.take_zero, List.drop_succ_cons, List.drop_zero]
 repeat (quiet_step (fail))
 refine wpQuiet_nil ?_;rintro _ ⟨⟨dq, osq⟩, rfl⟩;have hb := below_regrown (w.alloc (.cells #[.int .u8 31, .int .i64 ln, .int .i64 cl, .int .i64 sz, .int .i64 num, .string tx] 37)) dq osq;generalize grow (redrawn (w.alloc (.cells #[.int .u8 31, .int .i64 ln, .int .i64 cl, .int .i64 sz, .int .i64 num, .string tx] 37)) dq) osq = w1 at *;replace hb := zz hb;clear c1 e4 HM;rw [hlv, show (opS num).1 = s.data.toList by rw [<- hs1, B9]];go_wp2_with fail;refine (b55 (HL.out.wr.carry hb.out) hX s lv (by have := b8p num; omega) (HL.out.kd.carry hb.out)).mono ?_;rintro e V2 ⟨rfl, hw2, hf2⟩;replace HL := zz (HL.out.put hb.out hw2 hf2);clear hw2 hf2 hb;go_wp2_with fail;refine bodyPost_end (v := .tuple #[]) (by simp [results, results119]) rfl ?_;exact HL.out.done (by first | rfl | simp)
theorem b0x {w : World} {b : Nat} {E : Env} {X : List Pc} {t : Int} {out : List UInt8} (h : Wr w b E X t out) (hX : X.length <= 80000000) (ln cl sz num : Int) (tx : ByteArray) {a : Option Addr} {cap : Nat} {p0 : Nat} (hc : 1 <= cap) (hk : D3 b w a [p0]) :
  Calls prog 119 #[pR b, .agg #[.int .u8 32, .int .i64 ln, .int .i64 cl, .int .i64 sz, .int .i64 num, .string tx], .slice a 1 cap] w (Put b E X t out ([tP [109, 97, 107, 101, 32], nP p0, tP [40]] ++ Aw [] ++ [tP [41]]) w) := by
 have HL := zz (Lv.start h hk #[.int .u8 32, .int .i64 ln, .int .i64 cl, .int .i64 sz, .int .i64 num, .string tx] 37 ⟨by decide, by decide⟩);obtain ⟨g0, o0, rfl⟩ := hk.addr (by simp);have hc1 : (1 : Int) <= cap := by omega
 clear h hk;go_enter func119, ntmps119;go_wp2_with fail;have k0 := fun D os => cell_regrown (show _ = some (itv p0) from HL.out.kd.cell (i := 0) (by simp)) D os
 simp only [Nat.add_zero] at k0;refine A5 7 3 [85, 89, 90] [pcV { data := #[109, 97, 107, 101, 32] } 0 0 0, pcV { data := #[] } p0 0 0, pcV { data := #[40] } 0 0 0] #[.string { data := #[109, 97, 107, 101, 32] }, .int .i64 0, .int .i64 0, .int .i64 0, .string { data := #[] }, .int .i64 p0, .int .i64 0, .int .i64 0, .string { data := #[40] }, .int .i64 0, .int .i64 0, .int .i64 0] [tP [109, 97, 107, 101, 32], nP p0, tP [40]] _ (by rfl) (by kernel_rfl) (by kernel_rfl) (by rfl) ?al ?go
 case al =>
  intro a w K hA h;refine Bw rfl rfl ?_;simp [Ca, go_sem] at hA;go_simp;exact h
 case go =>
  simp only [List.take_succ_cons, List.take_zero, List.drop_succ_cons, List.drop_zero]
  repeat (refine Be (fun K hK => ?_); go_simp; first | (refine hK _ ?_; clear hK K) | (apply Exists.intro; refine ⟨fun _ => ?_, hK _ ?_⟩; (first | with_reducible exact Dn _ _ | with_reducible exact Dp _ _ | exact A3 _ _ _ rfl _); clear hK K))
  refine B8 ⟨by simp [Ca, go_sem], ?_⟩;intro g W hbW hl;replace hbW := zz hbW;go_wp2_with (go_at_call 82; refine (Ar (HL.out.wr.carry hbW.out) (k := 3) rfl hl (by simp; omega)).mono ?_; rintro e V1 ⟨rfl, hw2, hf2⟩; replace HL := zz (HL.out.put hbW.out hw2 hf2); clear hw2 hf2 hl hbW);go_wp2_with fail
  all_goals (refine (It HL.out.wr (by simp; omega) (ps := []) (m := 0) (zz rfl) (by omega) D3.nil).mono ?_; rintro e V2 ⟨rfl, hw2, hf2⟩; replace HL := zz (HL.out.put (Below.refl _ _) hw2 hf2); clear hw2 hf2; have hbW := zz (Below.refl V2.heap.size V2); go_wp2_with fail; refine (Cy _ _).mono ?_; rintro e w1 ⟨rfl, hb1⟩; replace hbW := zz (Ab hbW.out hb1); go_wp2_with fail; refine (Ar (P := [tP [41]]) (k := 1) (HL.out.wr.carry (Ab hbW.out (Aa w1 _))) rfl (LiesP.made (news := #[.string { data := #[41] }, .int .i64 0, .int .i64 0, .int .i64 0]) w1 rfl) (by simp [Aw]; omega)).mono ?_; rintro e V3 ⟨rfl, hw2, hf2⟩; replace HL := zz (HL.out.put (Ab hbW.out (Aa w1 _)) hw2 hf2); clear hw2 hf2 hb1 hbW; go_wp2_with fail; refine bodyPost_end (v := .tuple #[]) (by simp [results, results119]) rfl ?_; exact HL.out.done (by first | rfl | simp))
theorem b0w {w : World} {b : Nat} {E : Env} {X : List Pc} {t : Int} {out : List UInt8} (h : Wr w b E X t out) (hX : X.length <= 80000000) (ln cl sz num : Int) (tx : ByteArray) {a : Option Addr} {cap : Nat} {p0 p1 : Nat} (hc : 2 <= cap) (hk : D3 b w a [p0, p1]) :
  Calls prog 119 #[pR b, .agg #[.int .u8 32, .int .i64 ln, .int .i64 cl, .int .i64 sz, .int .i64 num, .string tx], .slice a 2 cap] w (Put b E X t out ([tP [109, 97, 107, 101, 32], nP p0, tP [40]] ++ Aw [p1] ++ [tP [41]]) w) := by
 have HL := zz (Lv.start h hk #[.int .u8 32, .int .i64 ln, .int .i64 cl, .int .i64 sz, .int .i64 num, .string tx] 37 ⟨by decide, by decide⟩);obtain ⟨g0, o0, rfl⟩ := hk.addr (by simp);have hc1 : (1 : Int) <= cap := by omega
 have hc2 : (2 : Int) <= cap := by omega
 clear h hk;go_enter func119, ntmps119;go_wp2_with fail;have k0 := fun D os => cell_regrown (show _ = some (itv p0) from HL.out.kd.cell (i := 0) (by simp)) D os
 simp only [Nat.add_zero] at k0;refine A5 7 3 [85, 89, 90] [pcV { data := #[109, 97, 107, 101, 32] } 0 0 0, pcV { data := #[] } p0 0 0, pcV { data := #[40] } 0 0 0] #[.string { data := #[109, 97, 107, 101, 32] }, .int .i64 0, .int .i64 0, .int .i64 0, .string { data := #[] }, .int .i64 p0, .int .i64 0, .int .i64 0, .string { data := #[40] }, .int .i64 0, .int .i64 0, .int .i64 0] [tP [109, 97, 107, 101, 32], nP p0, tP [40]] _ (by rfl) (by kernel_rfl) (by kernel_rfl) (by rfl) ?al ?go
 case al =>
  intro a w K hA h;refine Bw rfl rfl ?_;simp [Ca, go_sem] at hA;go_simp;exact h
 case go =>
  simp only [List.take_succ_cons, List.take_zero, List.drop_succ_cons, List.drop_zero]
  repeat (refine Be (fun K hK => ?_); go_simp; first | (refine hK _ ?_; clear hK K) | (apply Exists.intro; refine ⟨fun _ => ?_, hK _ ?_⟩; (first | with_reducible exact Dn _ _ | with_reducible exact Dp _ _ | exact A3 _ _ _ rfl _); clear hK K))
  refine B8 ⟨by simp [Ca, go_sem], ?_⟩;intro g W hbW hl;replace hbW := zz hbW;go_wp2_with (go_at_call 82; refine (Ar (HL.out.wr.carry hbW.out) (k := 3) rfl hl (by simp; omega)).mono ?_; rintro e V1 ⟨rfl, hw2, hf2⟩; replace HL := zz (HL.out.put hbW.out hw2 hf2); clear hw2 hf2 hl hbW);go_wp2_with fail
  all_goals (refine (It HL.out.wr (by simp; omega) (ps := [p1]) (m := 1) (zz rfl) (by omega) HL.out.kd.tail).mono ?_; rintro e V2 ⟨rfl, hw2, hf2⟩; replace HL := zz (HL.out.put (Below.refl _ _) hw2 hf2); clear hw2 hf2; have hbW := zz (Below.refl V2.heap.size V2); go_wp2_with fail; refine (Cy _ _).mono ?_; rintro e w1 ⟨rfl, hb1⟩; replace hbW := zz (Ab hbW.out hb1); go_wp2_with fail; refine (Ar (P := [tP [41]]) (k := 1) (HL.out.wr.carry (Ab hbW.out (Aa w1 _))) rfl (LiesP.made (news := #[.string { data := #[41] }, .int .i64 0, .int .i64 0, .int .i64 0]) w1 rfl) (by simp [Aw]; omega)).mono ?_; rintro e V3 ⟨rfl, hw2, hf2⟩; replace HL := zz (HL.out.put (Ab hbW.out (Aa w1 _)) hw2 hf2); clear hw2 hf2 hb1 hbW; go_wp2_with fail; refine bodyPost_end (v := .tuple #[]) (by simp [results, results119]) rfl ?_; exact HL.out.done (by first | rfl | simp))
end
end Go.Proofs.YtoaplbljflhheaaGreat
