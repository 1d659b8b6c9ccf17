/-
 Contracts and plain facts on the way to PrettyWrites. Conditions: as each says.
-/
import Derived.Test.YtoaplbljflhheaaGreatWbo
set_option maxHeartbeats 40000000
set_option maxRecDepth 100000
set_option linter.unusedVariables false
set_option linter.unusedSimpArgs false
namespace Go.Proofs.YtoaplbljflhheaaGreat
open Go.RowKit Go.Sort
theorem a5w {w : World} {b : Nat} {E : Env} {X : List Pc} {t : Int} {out : List UInt8} (h : Wr w b E X t out) (hX : X.length ≤ 80000000) (ln cl sz num : Int) (tx : ByteArray) {a : Option Addr} {cap : Nat} (hk : Cq b w a []) :
  Calls Tryz.prog 117 #[pR b, .agg #[.int .u8 15, .int .i64 ln, .int .i64 cl, .int .i64 sz, .int .i64 num, .string tx], .slice a 0 cap] w (Put b E X t out [tP [105, 110, 116]] w) := by
 have HL := zz (Lv.start h hk #[.int .u8 15, .int .i64 ln, .int .i64 cl, .int .i64 sz, .int .i64 num, .string tx] 37 ⟨by decide, by decide⟩)
 clear h hk
 go_enter Tryz.func117, Tryz.ntmps117
 have hbW := zz (Below.refl (w.alloc (.cells #[.int .u8 15, .int .i64 ln, .int .i64 cl, .int .i64 sz, .int .i64 num, .string tx] 37)).heap.size (w.alloc (.cells #[.int .u8 15, .int .i64 ln, .int .i64 cl, .int .i64 sz, .int .i64 num, .string tx] 37)))
 go_wp2_with fail
 refine (B7 _ _).mono ?_
 rintro e w1 ⟨rfl, hb1⟩
 replace hbW := zz (Ab hbW.out hb1)
 go_wp2_with fail
 refine (Ap (P := [tP [105, 110, 116]]) (k := 1) (HL.out.wr.carry (Ab hbW.out (Aa w1 _))) rfl (LiesP.made (news := #[.string { data := #[105, 110, 116] }, .int .i64 0, .int .i64 0, .int .i64 0]) w1 rfl) (by simp; omega)).mono ?_
 rintro e V1 ⟨rfl, hw2, hf2⟩
 replace HL := zz (HL.out.put (Ab hbW.out (Aa w1 _)) hw2 hf2)
 clear hw2 hf2 hb1 hbW
 go_wp2_with fail
 refine bodyPost_end (v := .tuple #[]) (by simp [results, Tryz.results117]) rfl ?_
 exact HL.out.done (by first | rfl | simp)
theorem a5v {w : World} {b : Nat} {E : Env} {X : List Pc} {t : Int} {out : List UInt8} (h : Wr w b E X t out) (hX : X.length ≤ 80000000) (ln cl sz num : Int) (tx : ByteArray) {a : Option Addr} {cap : Nat} (hk : Cq b w a []) :
  Calls Tryz.prog 117 #[pR b, .agg #[.int .u8 16, .int .i64 ln, .int .i64 cl, .int .i64 sz, .int .i64 num, .string tx], .slice a 0 cap] w (Put b E X t out [tP [98, 111, 111, 108]] w) := by
 have HL := zz (Lv.start h hk #[.int .u8 16, .int .i64 ln, .int .i64 cl, .int .i64 sz, .int .i64 num, .string tx] 37 ⟨by decide, by decide⟩)
 clear h hk
 go_enter Tryz.func117, Tryz.ntmps117
 have hbW := zz (Below.refl (w.alloc (.cells #[.int .u8 16, .int .i64 ln, .int .i64 cl, .int .i64 sz, .int .i64 num, .string tx] 37)).heap.size (w.alloc (.cells #[.int .u8 16, .int .i64 ln, .int .i64 cl, .int .i64 sz, .int .i64 num, .string tx] 37)))
 go_wp2_with fail
 refine (B7 _ _).mono ?_
 rintro e w1 ⟨rfl, hb1⟩
 replace hbW := zz (Ab hbW.out hb1)
 go_wp2_with fail
 refine (Ap (P := [tP [98, 111, 111, 108]]) (k := 1) (HL.out.wr.carry (Ab hbW.out (Aa w1 _))) rfl (LiesP.made (news := #[.string { data := #[98, 111, 111, 108] }, .int .i64 0, .int .i64 0, .int .i64 0]) w1 rfl) (by simp; omega)).mono ?_
 rintro e V1 ⟨rfl, hw2, hf2⟩
 replace HL := zz (HL.out.put (Ab hbW.out (Aa w1 _)) hw2 hf2)
 clear hw2 hf2 hb1 hbW
 go_wp2_with fail
 refine bodyPost_end (v := .tuple #[]) (by simp [results, Tryz.results117]) rfl ?_
 exact HL.out.done (by first | rfl | simp)
theorem a5u {w : World} {b : Nat} {E : Env} {X : List Pc} {t : Int} {out : List UInt8} (h : Wr w b E X t out) (hX : X.length ≤ 80000000) (ln cl sz num : Int) (tx : ByteArray) {a : Option Addr} {cap : Nat} (hk : Cq b w a []) :
  Calls Tryz.prog 117 #[pR b, .agg #[.int .u8 17, .int .i64 ln, .int .i64 cl, .int .i64 sz, .int .i64 num, .string tx], .slice a 0 cap] w (Put b E X t out [tP [115, 116, 114]] w) := by
 have HL := zz (Lv.start h hk #[.int .u8 17, .int .i64 ln, .int .i64 cl, .int .i64 sz, .int .i64 num, .string tx] 37 ⟨by decide, by decide⟩)
 clear h hk
 go_enter Tryz.func117, Tryz.ntmps117
 have hbW := zz (Below.refl (w.alloc (.cells #[.int .u8 17, .int .i64 ln, .int .i64 cl, .int .i64 sz, .int .i64 num, .string tx] 37)).heap.size (w.alloc (.cells #[.int .u8 17, .int .i64 ln, .int .i64 cl, .int .i64 sz, .int .i64 num, .string tx] 37)))
 go_wp2_with fail
 refine (B7 _ _).mono ?_
 rintro e w1 ⟨rfl, hb1⟩
 replace hbW := zz (Ab hbW.out hb1)
 go_wp2_with fail
 refine (Ap (P := [tP [115, 116, 114]]) (k := 1) (HL.out.wr.carry (Ab hbW.out (Aa w1 _))) rfl (LiesP.made (news := #[.string { data := #[115, 116, 114] }, .int .i64 0, .int .i64 0, .int .i64 0]) w1 rfl) (by simp; omega)).mono ?_
 rintro e V1 ⟨rfl, hw2, hf2⟩
 replace HL := zz (HL.out.put (Ab hbW.out (Aa w1 _)) hw2 hf2)
 clear hw2 hf2 hb1 hbW
 go_wp2_with fail
 refine bodyPost_end (v := .tuple #[]) (by simp [results, Tryz.results117]) rfl ?_
 exact HL.out.done (by first | rfl | simp)
theorem a5t {w : World} {b : Nat} {E : Env} {X : List Pc} {t : Int} {out : List UInt8} (h : Wr w b E X t out) (hX : X.length ≤ 80000000) (ln cl sz num : Int) (tx : ByteArray) {a : Option Addr} {cap : Nat} (hk : Cq b w a []) :
  Calls Tryz.prog 117 #[pR b, .agg #[.int .u8 18, .int .i64 ln, .int .i64 cl, .int .i64 sz, .int .i64 num, .string tx], .slice a 0 cap] w (Put b E X t out [tP [99, 111, 109, 112]] w) := by
 have HL := zz (Lv.start h hk #[.int .u8 18, .int .i64 ln, .int .i64 cl, .int .i64 sz, .int .i64 num, .string tx] 37 ⟨by decide, by decide⟩)
 clear h hk
 go_enter Tryz.func117, Tryz.ntmps117
 have hbW := zz (Below.refl (w.alloc (.cells #[.int .u8 18, .int .i64 ln, .int .i64 cl, .int .i64 sz, .int .i64 num, .string tx] 37)).heap.size (w.alloc (.cells #[.int .u8 18, .int .i64 ln, .int .i64 cl, .int .i64 sz, .int .i64 num, .string tx] 37)))
 go_wp2_with fail
 refine (B7 _ _).mono ?_
 rintro e w1 ⟨rfl, hb1⟩
 replace hbW := zz (Ab hbW.out hb1)
 go_wp2_with fail
 refine (Ap (P := [tP [99, 111, 109, 112]]) (k := 1) (HL.out.wr.carry (Ab hbW.out (Aa w1 _))) rfl (LiesP.made (news := #[.string { data := #[99, 111, 109, 112] }, .int .i64 0, .int .i64 0, .int .i64 0]) w1 rfl) (by simp; omega)).mono ?_
 rintro e V1 ⟨rfl, hw2, hf2⟩
 replace HL := zz (HL.out.put (Ab hbW.out (Aa w1 _)) hw2 hf2)
 clear hw2 hf2 hb1 hbW
 go_wp2_with fail
 refine bodyPost_end (v := .tuple #[]) (by simp [results, Tryz.results117]) rfl ?_
 exact HL.out.done (by first | rfl | simp)
theorem a5s {w : World} {b : Nat} {E : Env} {X : List Pc} {t : Int} {out : List UInt8} (h : Wr w b E X t out) (hX : X.length ≤ 80000000) (ln cl sz num : Int) (tx : ByteArray) {a : Option Addr} {cap : Nat} (hk : Cq b w a []) :
  Calls Tryz.prog 117 #[pR b, .agg #[.int .u8 19, .int .i64 ln, .int .i64 cl, .int .i64 sz, .int .i64 num, .string tx], .slice a 0 cap] w (Put b E X t out [tP tx.data.toList] w) := by
 have HL := zz (Lv.start h hk #[.int .u8 19, .int .i64 ln, .int .i64 cl, .int .i64 sz, .int .i64 num, .string tx] 37 ⟨by decide, by decide⟩)
 clear h hk
 go_enter Tryz.func117, Tryz.ntmps117
 have hbW := zz (Below.refl (w.alloc (.cells #[.int .u8 19, .int .i64 ln, .int .i64 cl, .int .i64 sz, .int .i64 num, .string tx] 37)).heap.size (w.alloc (.cells #[.int .u8 19, .int .i64 ln, .int .i64 cl, .int .i64 sz, .int .i64 num, .string tx] 37)))
 go_wp2_with fail
 refine (B7 _ _).mono ?_
 rintro e w1 ⟨rfl, hb1⟩
 replace hbW := zz (Ab hbW.out hb1)
 go_wp2_with fail
 refine (Ap (P := [tP tx.data.toList]) (k := 1) (HL.out.wr.carry (Ab hbW.out (Aa w1 _))) rfl (LiesP.made (news := #[.string tx, .int .i64 0, .int .i64 0, .int .i64 0]) w1 rfl) (by simp; omega)).mono ?_
 rintro e V1 ⟨rfl, hw2, hf2⟩
 replace HL := zz (HL.out.put (Ab hbW.out (Aa w1 _)) hw2 hf2)
 clear hw2 hf2 hb1 hbW
 go_wp2_with fail
 refine bodyPost_end (v := .tuple #[]) (by simp [results, Tryz.results117]) rfl ?_
 exact HL.out.done (by first | rfl | simp)
theorem a5r {w : World} {b : Nat} {E : Env} {X : List Pc} {t : Int} {out : List UInt8} (h : Wr w b E X t out) (hX : X.length ≤ 80000000) (ln cl sz num : Int) (tx : ByteArray) {a : Option Addr} {cap : Nat} {p0 : Nat} (hk : Cq b w a [p0]) :
  Calls Tryz.prog 117 #[pR b, .agg #[.int .u8 20, .int .i64 ln, .int .i64 cl, .int .i64 sz, .int .i64 num, .string tx], .slice a 1 cap] w (Put b E X t out [tP [91], nP p0, tP [93]] w) := by
 have HL := zz (Lv.start h hk #[.int .u8 20, .int .i64 ln, .int .i64 cl, .int .i64 sz, .int .i64 num, .string tx] 37 ⟨by decide, by decide⟩)
 obtain ⟨g0, o0, rfl⟩ := hk.addr (by simp)
 clear h hk
 go_enter Tryz.func117, Tryz.ntmps117
 go_wp2_with fail
 have k0 := fun D os => cell_regrown (show _ = some (itv p0) from HL.out.kd.cell (i := 0) (by simp)) D os
 simp only [Nat.add_zero] at k0
 refine A6 7 3 [43, 47, 48] [pcV { data := #[91] } 0 0 0, pcV { data := #[] } p0 0 0, pcV { data := #[93] } 0 0 0] #[.string { data := #[91] }, .int .i64 0, .int .i64 0, .int .i64 0, .string { data := #[] }, .int .i64 p0, .int .i64 0, .int .i64 0, .string { data := #[93] }, .int .i64 0, .int .i64 0, .int .i64 0] [tP [91], nP p0, tP [93]] _ (by rfl) (by kernel_rfl) (by kernel_rfl) (by rfl) ?al ?go
 case al =>
  intro a w K hA h
  refine Bh rfl rfl ?_
  simp [Bo, go_sem] at hA
  go_simp
  exact h
 case go =>
  simp only [List.take_succ_cons, List.take_zero, List.drop_succ_cons, List.drop_zero]
  repeat (refine A9 (fun K hK => ?_); go_simp; first | (refine hK _ ?_; clear hK K) | (apply Exists.intro; refine ⟨fun _ => ?_, hK _ ?_⟩; (first | with_reducible exact Ch _ _ | with_reducible exact Cj _ _ | exact Ay _ _ _ rfl _); clear hK K))
  refine Bn ⟨by simp [Bo, go_sem], ?_⟩
  intro g W hbW hl
  replace hbW := zz hbW
  go_wp2_with (go_at_call 82; refine (Ap (HL.out.wr.carry hbW.out) (k := 3) rfl hl (by simp; omega)).mono ?_; rintro e V1 ⟨rfl, hw2, hf2⟩; replace HL := zz (HL.out.put hbW.out hw2 hf2); clear hw2 hf2 hl hbW)
  go_wp2_with fail
  refine bodyPost_end (v := .tuple #[]) (by simp [results, Tryz.results117]) rfl ?_
  exact HL.out.done (by first | rfl | simp)
end Go.Proofs.YtoaplbljflhheaaGreat
namespace Go.Proofs.YtoaplbljflhheaaGreat
open Go.RowKit Go.Sort
theorem b6a (kk : Nat) (hK : Hid (kk = 1 ∨ kk = 2 ∨ kk = 6 ∨ kk = 27 ∨ kk = 3 ∨ kk = 5 ∨ kk = 20 ∨ kk = 7 ∨ kk = 10 ∨ kk = 12)) (b o n cap : Nat) (l : List Nd) (w : World) (hn : Hid (l.length = n)) (hl : n ≤ 1000000) (hr : Hid (Li w b o l)) (k : Nat) (hk : k < n) (hok : Hid (Ok (sz l) n k)) (xs : List Nat) (hxs : Hid (Ai (sz l) k = xs)) (hxn : Hid (∀ x, x ∈ xs → x < n)) (hxl : xs.length ≤ 1000000)
  (num : Int) (hnum : Ax num) (hkd : Hid (Ag l k = kk)) (hnm : Hid ((nd l k).num = num)) (q : Bool) (hq : Hid (Di (decide (k = 0)) kk num (xs.map (Ag l)) = q)) :
  Calls Tryz.prog 27 #[.slice (some ⟨b, o, none⟩) n cap, .int .i64 (k : Nat)] w fun e w' => e = .returned (.bool q) ∧ Below w.heap.size w w' := by
 have HC0 := zz (fun w2 (h : Below w.heap.size w w2) => show w2.cell? ⟨b, o + k * 6, none⟩ = some (.int .u8 (kk : Nat)) by
  rw [((hr.out.carry h) k (by rw [hn.out]; exact hk)).1.c0, show (nd l k).kind = kk from hkd.out])
 have HC4 := zz (fun w2 (h : Below w.heap.size w w2) => show w2.cell? ⟨b, o + k * 6 + 4, none⟩ = some (.int .i64 num) by
  rw [((hr.out.carry h) k (by rw [hn.out]; exact hk)).1.c4, hnm.out])
 have HKI := zz (Ib b o n cap l w hn hl hr k hk hok xs hxs)
 clear hkd hnm
 go_enter Tryz.func27, Tryz.ntmps27
 go_wp2_with fail
 refine HKI.out.mono ?_
 rintro e w1 ⟨v, rfl, hown, hb1⟩
 obtain ⟨a', cap', rfl, hcell⟩ := Aq hown
 replace hcell := zz hcell
 replace hb1 := zz hb1
 clear hown HKI
 go_wp2_with fail
 go_loopw [6, 17] (fun v j wr => a5e l xs w1 v j wr) (fun _ j _ => xs.length - (intOf j).toNat)
 case atStart => exact ⟨0, Nat.zero_le _, rfl, Kq [] rfl (Nat.le_refl _) 0 rfl (by decide), Aa _ _⟩
 case round =>
  obtain ⟨i, hi, rfl, ho, hbel⟩ := hrel
  have hsz := hbel.size
  by_cases hlt : i < xs.length
  ·obtain ⟨g, rfl, _, hc⟩ := hcell.out i hlt
   have hxm := hxn.out _ (F0 hlt)
   obtain ⟨x, hx⟩ : ∃ x, xs.getD i 0 = x := ⟨_, rfl⟩
   rw [hx] at hc hxm
   have hc' := Ad hbel hc
   obtain ⟨hat, hwf⟩ := (hr.out.carry (Ab hb1.out hbel)) x (by rw [hn.out]; exact hxm)
   obtain ⟨c0, c1, c2, c3, c4, c5⟩ := hat
   obtain ⟨kd, ln, cl, s, nm, tx, hN⟩ : ∃ kd ln cl s nm tx, nd l x = ⟨kd, ln, cl, s, nm, tx⟩ := ⟨_, _, _, _, _, _, rfl⟩
   rw [hN] at c0 c1 c2 c3 c4 c5
   simp only at c0 c1 c2 c3 c4 c5
   have hkk : srt (Ag l (xs.getD i 0)) = srt kd := by rw [hx, Ag, hN]
   replace hkk := zz hkk
   have HB := zz hbel
   replace ho := zz ho
   clear hc hN hx hwf hbel
   go_wp2_with fail
   refine (Mv ⟨kd, ln, cl, s, nm, tx⟩ _).mono ?_
   rintro e w2 ⟨rfl, hb2⟩
   replace ho := zz (Du ho.out hb2)
   have hsz2 := hb2.size
   replace hb2 := zz (Ab HB.out hb2)
   clear HB
   have hlen : ((xs.take i).map fun x => srt (Ag l x)).length + 1 ≤ 100000000 := by simp; omega
   go_wp2_with (at_builtin; refine A5 rfl _ _ rfl w1.heap.size u6 _ [srt kd] 1 rfl rfl rfl rfl ho.out (by omega) hlen ?_; intro v2 w3 ho2 hb3; replace ho2 := zz ho2; replace hb3 := zz (hb2.out.trans hb3))
   go_roundw
   case rel => exact a5e.step (wr := wr) hlt (by go_num) (by rw [hkk.out]; exact ho2.out) hb3.out
   case measure => simp [intOf]; omega
  ·have hil : i = xs.length := by omega
   subst hil
   rw [List.take_length] at ho
   have htx := Fu ho
   have hS : (xs.map fun x => srt (Ag l x)) = (xs.map (Ag l)).map srt := by simp
   rw [hS] at htx
   have HC0' := HC0.out wr (Ab hb1.out hbel)
   have HC4' := HC4.out wr (Ab hb1.out hbel)
   have HB := zz (Ab hb1.out hbel)
   have hHd : Hid ((xs.map (Ag l)).headD 0 = (if xs.length = 0 then 0 else Ag l (xs.getD 0 0))) := zz (by cases xs <;> rfl)
   obtain ⟨ks, hks⟩ : ∃ ks, xs.map (Ag l) = ks := ⟨_, rfl⟩
   have hkl : ks.length = xs.length := by rw [← hks, List.length_map]
   rw [hks] at htx hHd hq
   replace hkl := zz hkl
   obtain ⟨T, hT⟩ : ∃ T, bs (ks.map srt) = T := ⟨_, rfl⟩
   rw [hT] at htx
   have hTl : T.toList = ks.map srt := by rw [ByteArray.toList_eq, ← hT, Bk]
   replace hTl := zz hTl
   have hTz : T.size = xs.length := by rw [← hT, An, List.length_map, hkl.out]
   replace hTz := zz hTz
   obtain ⟨fk, hfk⟩ : ∃ fk, hdK ks = fk := ⟨_, rfl⟩
   have hfk0 := hHd.out
   rw [show ks.headD 0 = fk from hfk] at hfk0
   clear hS hks hHd hlt ho
   by_cases hx0 : xs.length = 0
   ·rw [if_pos hx0] at hfk0
    subst hfk0
    have e0 : ¬ (0 : Int) < (xs.length : Int) := by omega
    rw [hx0] at hTz
    have d0 := fun O => Ah HC0' O
    have d4 := fun O => Ah HC4' O
    replace hT := zz hT
    replace hfk := zz hfk
    clear HC0' HC4' hbel
    rcases hK.out with rfl | rfl | rfl | rfl | rfl | rfl | rfl | rfl | rfl | rfl
    ·by_cases hk0 : k = 0
     ·have g0 : ((k : Int) == 0) = true := by rw [hk0]; rfl
      have HO := zz (fun w => D2 T 100 w q (by rw [hTz.out]; omega) (zz (by rw [← ByteArray.toList_eq, hTl.out]; have := hq.out; rw [Di, decide_eq_true hk0, Bool.true_and] at this; exact this)))
      clear hk0
      go_wp2_with fail
      refine (HO.out _).mono ?_
      rintro e w9 ⟨rfl, rfl⟩
      go_wp2_with fail
      go_ret
      exact ⟨rfl, Ab HB.out (Aa wr _)⟩
     ·have g0 : ((k : Int) == 0) = false := by rw [beq_eq_false_iff_ne]; omega
      obtain rfl : q = false := by rw [← hq.out]; simp [Di, hk0]
      go_wp2_with fail
      go_ret
      exact ⟨rfl, Ab HB.out (Aa wr _)⟩
    ·have HO := zz (fun w => D2 T 102 w q (by rw [hTz.out]; omega) (zz (by rw [← ByteArray.toList_eq, hTl.out]; exact hq.out)))
     go_wp2_with fail
     refine (HO.out _).mono ?_
     rintro e w9 ⟨rfl, rfl⟩
     go_wp2_with fail
     go_ret
     exact ⟨rfl, Ab HB.out (Aa wr _)⟩
    ·have HO := zz (fun w => D2 T 115 w q (by rw [hTz.out]; omega) (zz (by rw [← ByteArray.toList_eq, hTl.out]; exact hq.out)))
     go_wp2_with fail
     refine (HO.out _).mono ?_
     rintro e w9 ⟨rfl, rfl⟩
     go_wp2_with fail
     go_ret
     exact ⟨rfl, Ab HB.out (Aa wr _)⟩
    ·have HO := zz (fun w => D2 T 101 w q (by rw [hTz.out]; omega) (zz (by rw [← ByteArray.toList_eq, hTl.out]; exact hq.out)))
     go_wp2_with fail
     refine (HO.out _).mono ?_
     rintro e w9 ⟨rfl, rfl⟩
     go_wp2_with fail
     go_ret
     exact ⟨rfl, Ab HB.out (Aa wr _)⟩
    ·have t1 : (T.toList == [116]) = q := by rw [hTl.out]; exact hq.out
     go_wp2_with fail
     go_ret
     exact ⟨rfl, Ab HB.out (Aa wr _)⟩
    ·have t1 : (T.toList == [116]) = q := by rw [hTl.out]; exact hq.out
     go_wp2_with fail
     go_ret
     exact ⟨rfl, Ab HB.out (Aa wr _)⟩
    ·have t1 : (T.toList == [116]) = q := by rw [hTl.out]; exact hq.out
     go_wp2_with fail
     go_ret
     exact ⟨rfl, Ab HB.out (Aa wr _)⟩
    ·have t1 : (T.toList == [116, 101]) = q := by rw [hTl.out]; exact hq.out
     go_wp2_with fail
     go_ret
     exact ⟨rfl, Ab HB.out (Aa wr _)⟩
    ·have t1 : (T.toList == [101, 98]) = q := by rw [hTl.out]; exact hq.out
     go_wp2_with fail
     go_ret
     exact ⟨rfl, Ab HB.out (Aa wr _)⟩
    ·have t1 : (T.toList == [101]) = q := by rw [hTl.out]; exact hq.out
     go_wp2_with fail
     go_ret
     exact ⟨rfl, Ab HB.out (Aa wr _)⟩
   ·rw [if_neg hx0] at hfk0
    obtain ⟨g, rfl, _, hc⟩ := hcell.out 0 (by omega)
    have hxm := hxn.out _ (F0 (x := xs) (k := 0) (by omega))
    obtain ⟨x, hx⟩ : ∃ x, xs.getD 0 0 = x := ⟨_, rfl⟩
    rw [hx] at hc hxm hfk0
    have hc' := Ad hbel hc
    obtain ⟨hat, hwf⟩ := (hr.out.carry HB.out) x (by rw [hn.out]; exact hxm)
    obtain ⟨c0, c1, c2, c3, c4, c5⟩ := hat
    obtain ⟨kd, ln, cl, s, nm, tx, hN⟩ : ∃ kd ln cl s nm tx, nd l x = ⟨kd, ln, cl, s, nm, tx⟩ := ⟨_, _, _, _, _, _, rfl⟩
    rw [hN] at c0 c1 c2 c3 c4 c5
    simp only at c0 c1 c2 c3 c4 c5
    obtain rfl : fk = kd := by rw [hfk0, Ag, hN]
    have hx1 : 0 < xs.length := by omega
    have e0 : (0 : Int) < (xs.length : Int) := by omega
    replace hT := zz hT
    replace hfk := zz hfk
    have d0 := fun O => Ah HC0' O
    have d4 := fun O => Ah HC4' O
    replace hc' := fun O => Ah hc' O
    replace c0 := fun O => Ah c0 O
    replace c1 := fun O => Ah c1 O
    replace c2 := fun O => Ah c2 O
    replace c3 := fun O => Ah c3 O
    replace c4 := fun O => Ah c4 O
    replace c5 := fun O => Ah c5 O
    clear hc hN hx hfk0 hwf hx0 HC0' HC4' hbel
    rcases hK.out with rfl | rfl | rfl | rfl | rfl | rfl | rfl | rfl | rfl | rfl
    ·by_cases hk0 : k = 0
     ·have g0 : ((k : Int) == 0) = true := by rw [hk0]; rfl
      have HO := zz (fun w => D2 T 100 w q (by rw [hTz.out]; omega) (zz (by rw [← ByteArray.toList_eq, hTl.out]; have := hq.out; rw [Di, decide_eq_true hk0, Bool.true_and] at this; exact this)))
      clear hk0
      go_wp2_with fail
      refine (HO.out _).mono ?_
      rintro e w9 ⟨rfl, rfl⟩
      go_wp2_with fail
      go_ret
      exact ⟨rfl, Ab HB.out (Aa wr _)⟩
     ·have g0 : ((k : Int) == 0) = false := by rw [beq_eq_false_iff_ne]; omega
      obtain rfl : q = false := by rw [← hq.out]; simp [Di, hk0]
      go_wp2_with fail
      go_ret
      exact ⟨rfl, Ab HB.out (Aa wr _)⟩
    ·have HO := zz (fun w => D2 T 102 w q (by rw [hTz.out]; omega) (zz (by rw [← ByteArray.toList_eq, hTl.out]; exact hq.out)))
     go_wp2_with fail
     refine (HO.out _).mono ?_
     rintro e w9 ⟨rfl, rfl⟩
     go_wp2_with fail
     go_ret
     exact ⟨rfl, Ab HB.out (Aa wr _)⟩
    ·have HO := zz (fun w => D2 T 115 w q (by rw [hTz.out]; omega) (zz (by rw [← ByteArray.toList_eq, hTl.out]; exact hq.out)))
     go_wp2_with fail
     refine (HO.out _).mono ?_
     rintro e w9 ⟨rfl, rfl⟩
     go_wp2_with fail
     go_ret
     exact ⟨rfl, Ab HB.out (Aa wr _)⟩
    ·have HO := zz (fun w => D2 T 101 w q (by rw [hTz.out]; omega) (zz (by rw [← ByteArray.toList_eq, hTl.out]; exact hq.out)))
     go_wp2_with fail
     refine (HO.out _).mono ?_
     rintro e w9 ⟨rfl, rfl⟩
     go_wp2_with fail
     go_ret
     exact ⟨rfl, Ab HB.out (Aa wr _)⟩
    ·have t1 : (T.toList == [116]) = q := by rw [hTl.out]; exact hq.out
     go_wp2_with fail
     go_ret
     exact ⟨rfl, Ab HB.out (Aa wr _)⟩
    ·have t1 : (T.toList == [116]) = q := by rw [hTl.out]; exact hq.out
     go_wp2_with fail
     go_ret
     exact ⟨rfl, Ab HB.out (Aa wr _)⟩
    ·have t1 : (T.toList == [116]) = q := by rw [hTl.out]; exact hq.out
     go_wp2_with fail
     go_ret
     exact ⟨rfl, Ab HB.out (Aa wr _)⟩
    ·have t1 : (T.toList == [116, 101]) = q := by rw [hTl.out]; exact hq.out
     go_wp2_with fail
     go_ret
     exact ⟨rfl, Ab HB.out (Aa wr _)⟩
    ·have t1 : (T.toList == [101, 98]) = q := by rw [hTl.out]; exact hq.out
     go_wp2_with fail
     go_ret
     exact ⟨rfl, Ab HB.out (Aa wr _)⟩
    ·have t1 : (T.toList == [101]) = q := by rw [hTl.out]; exact hq.out
     go_wp2_with fail
     go_ret
     exact ⟨rfl, Ab HB.out (Aa wr _)⟩
end Go.Proofs.YtoaplbljflhheaaGreat
namespace Go.Proofs.YtoaplbljflhheaaGreat
theorem C5 (c : Nat) : (c = 14 ∧ srt c = 48) ∨ (15 ≤ c ∧ c ≤ 20 ∧ srt c = 116) ∨ (21 ≤ c ∧ c ≤ 32 ∧ srt c = 101) ∨ (7 ≤ c ∧ c ≤ 13 ∧ srt c = 115) ∨ (c = 6 ∧ srt c = 98) ∨ (c = 5 ∧ srt c = 112) ∨ (c = 3 ∧ srt c = 102) ∨ ((c = 2 ∨ c = 4) ∧ srt c = 100) ∨ ((c < 2 ∨ 32 < c) ∧ srt c = 45) := by
 unfold srt
 repeat' split
 all_goals (first | (simp; done) | (simp; omega))
theorem a86 (c : Nat) : (srt c == 116) = Cv c := by
 rw [Bool.eq_iff_iff, beq_iff_eq]; unfold Cv; rw [decide_eq_true_eq]
 rcases C5 c with ⟨h, e⟩ | ⟨h, h', e⟩ | ⟨h, h', e⟩ | ⟨h, h', e⟩ | ⟨h, e⟩ | ⟨h, e⟩ | ⟨h, e⟩ | ⟨h, e⟩ | ⟨h, e⟩ <;> rw [e] <;> simp <;> omega
theorem Vy (c : Nat) : (srt c == 101) = Bc c := by
 rw [Bool.eq_iff_iff, beq_iff_eq]; unfold Bc; rw [decide_eq_true_eq]
 rcases C5 c with ⟨h, e⟩ | ⟨h, h', e⟩ | ⟨h, h', e⟩ | ⟨h, h', e⟩ | ⟨h, e⟩ | ⟨h, e⟩ | ⟨h, e⟩ | ⟨h, e⟩ | ⟨h, e⟩ <;> rw [e] <;> simp <;> omega
theorem s98 (c : Nat) : (srt c == 98) = [6].contains c := by
 rw [Bool.eq_iff_iff, beq_iff_eq, List.contains_iff_mem, List.mem_singleton]
 rcases C5 c with ⟨h, e⟩ | ⟨h, h', e⟩ | ⟨h, h', e⟩ | ⟨h, h', e⟩ | ⟨h, e⟩ | ⟨h, e⟩ | ⟨h, e⟩ | ⟨h, e⟩ | ⟨h, e⟩ <;> rw [e] <;> simp <;> omega
theorem b5o (c : Nat) : (srt c == 116 || srt c == 48) = D3 c := by
 rw [Bool.eq_iff_iff, Bool.or_eq_true, beq_iff_eq, beq_iff_eq]; unfold D3; rw [decide_eq_true_eq]
 rcases C5 c with ⟨h, e⟩ | ⟨h, h', e⟩ | ⟨h, h', e⟩ | ⟨h, h', e⟩ | ⟨h, e⟩ | ⟨h, e⟩ | ⟨h, e⟩ | ⟨h, e⟩ | ⟨h, e⟩ <;> rw [e] <;> simp <;> omega
theorem It (z : Nat) (p : Nat → Bool) (hp : ∀ c, decide ((srt c).toNat = z) = p c) (ks : List Nat) : a0y z (ks.map srt) = ks.all p := by
 unfold a0y
 rw [List.all_map]
 congr 1
 funext c
 exact hp c
theorem b6p (c : Nat) : decide ((srt c).toNat = 115) = Dh c := by
 unfold Dh; rw [decide_eq_decide]
 rcases C5 c with ⟨h, e⟩ | ⟨h, h', e⟩ | ⟨h, h', e⟩ | ⟨h, h', e⟩ | ⟨h, e⟩ | ⟨h, e⟩ | ⟨h, e⟩ | ⟨h, e⟩ | ⟨h, e⟩ <;> rw [e] <;> simp <;> omega
theorem b6s (c : Nat) : decide ((srt c).toNat = 101) = Bc c := by
 unfold Bc; rw [decide_eq_decide]
 rcases C5 c with ⟨h, e⟩ | ⟨h, h', e⟩ | ⟨h, h', e⟩ | ⟨h, h', e⟩ | ⟨h, e⟩ | ⟨h, e⟩ | ⟨h, e⟩ | ⟨h, e⟩ | ⟨h, e⟩ <;> rw [e] <;> simp <;> omega
theorem b6t (c : Nat) : decide ((srt c).toNat = 100) = [2, 4].contains c := by
 rw [Bool.eq_iff_iff, decide_eq_true_eq, List.contains_iff_mem]
 simp only [List.mem_cons, List.not_mem_nil, or_false]
 rcases C5 c with ⟨h, e⟩ | ⟨h, h', e⟩ | ⟨h, h', e⟩ | ⟨h, h', e⟩ | ⟨h, e⟩ | ⟨h, e⟩ | ⟨h, e⟩ | ⟨h, e⟩ | ⟨h, e⟩ <;> rw [e] <;> simp <;> omega
theorem b6r (c : Nat) : decide ((srt c).toNat = 102) = [3].contains c := by
 rw [Bool.eq_iff_iff, decide_eq_true_eq, List.contains_iff_mem, List.mem_singleton]
 rcases C5 c with ⟨h, e⟩ | ⟨h, h', e⟩ | ⟨h, h', e⟩ | ⟨h, h', e⟩ | ⟨h, e⟩ | ⟨h, e⟩ | ⟨h, e⟩ | ⟨h, e⟩ | ⟨h, e⟩ <;> rw [e] <;> simp <;> omega
theorem b6q (c : Nat) : decide ((srt c).toNat = 112) = [5].contains c := by
 rw [Bool.eq_iff_iff, decide_eq_true_eq, List.contains_iff_mem, List.mem_singleton]
 rcases C5 c with ⟨h, e⟩ | ⟨h, h', e⟩ | ⟨h, h', e⟩ | ⟨h, h', e⟩ | ⟨h, e⟩ | ⟨h, e⟩ | ⟨h, e⟩ | ⟨h, e⟩ | ⟨h, e⟩ <;> rw [e] <;> simp <;> omega
theorem b2b (ks : List Nat) : A3 [] ks = ks.isEmpty := by cases ks <;> simp [A3]
theorem Ng (p : Nat → Bool) (ks : List Nat) : A3 [p] ks = match ks with | [a] => p a | _ => false := by
 match ks with
 | [] => simp [A3]
 | [a] => simp [A3, List.range_succ]
 | a :: b :: t => simp [A3]
theorem Px (p p' : Nat → Bool) (ks : List Nat) : A3 [p, p'] ks = match ks with | [a, b] => p a && p' b | _ => false := by
 match ks with
 | [] => simp [A3]
 | [a] => simp [A3]
 | [a, b] => simp [A3, List.range_succ]
 | a :: b :: c :: t => simp [A3]
theorem b4l (p p' p'' : Nat → Bool) (ks : List Nat) : A3 [p, p', p''] ks = match ks with | [a, b, c] => p a && (p' b && p'' c) | _ => false := by
 match ks with
 | [] => simp [A3]
 | [a] => simp [A3]
 | [a, b] => simp [A3]
 | [a, b, c] => simp [A3, List.range_succ, Bool.and_assoc]
 | a :: b :: c :: d :: t => simp [A3]
theorem a2u (x : UInt8) (ks : List Nat) : (ks.map srt == [x]) = match ks with | [a] => srt a == x | _ => false := by
 match ks with
 | [] => rfl
 | [a] => simp
 | a :: b :: t => simp
theorem a7e (x y : UInt8) (ks : List Nat) : (ks.map srt == [x, y]) = match ks with | [a, b] => (srt a == x) && (srt b == y) | _ => false := by
 match ks with
 | [] => rfl
 | [a] => simp
 | [a, b] => simp
 | a :: b :: c :: t => simp
theorem b51 (x y z : UInt8) (ks : List Nat) : (ks.map srt == [x, y, z]) = match ks with | [a, b, c] => (srt a == x) && ((srt b == y) && (srt c == z)) | _ => false := by
 match ks with
 | [] => rfl
 | [a] => simp
 | [a, b] => simp
 | [a, b, c] => simp
 | a :: b :: c :: d :: t => simp
theorem b44 (ks : List Nat) : (ks.map srt == []) = ks.isEmpty := by cases ks <;> rfl
theorem b6b (root : Bool) (num : Int) (ks : List Nat) : Di root 4 num ks = C2 4 num ks := by
 show (decide (2 ≤ ks.length) && (((ks.length : Int) - 2 == num) && (a0y 112 ((ks.map srt).take (ks.length - 2)) && (((ks.map srt).getD (ks.length - 2) 0 == 116 || (ks.map srt).getD (ks.length - 2) 0 == 48) && (ks.map srt).getD (ks.length - 1) 0 == 98)))) = Gz num [5].contains (A3 [D3, [6].contains]) ks
 unfold Gz
 by_cases h2 : 2 ≤ ks.length
 ·obtain ⟨m, hm⟩ : ∃ m, ks.length = m + 2 := ⟨ks.length - 2, by omega⟩
  have hd : ∃ a b, ks = ks.take m ++ [a, b] := by
   have hl : (ks.drop m).length = 2 := by rw [List.length_drop, hm]; omega
   match h : ks.drop m, hl with
   | [a, b], _ => exact ⟨a, b, by rw [← h, List.take_append_drop]⟩
  obtain ⟨a, b, hab⟩ := hd
  obtain ⟨pre, hpre⟩ : ∃ pre, ks.take m = pre := ⟨_, rfl⟩
  have hpl : pre.length = m := by rw [← hpre, List.length_take]; omega
  rw [hpre] at hab
  subst hab
  clear hpre
  have e1 : (pre ++ [a, b]).length = m + 2 := hm
  rw [e1, decide_eq_true (by omega : 2 ≤ m + 2), Bool.true_and, show m + 2 - 2 = m by omega, show m + 2 - 1 = m + 1 by omega]
  have g1 : ((pre ++ [a, b]).map srt).getD m 0 = srt a := by
   rw [List.map_append]; simp [List.getD, List.getElem?_append_right, hpl]
  have g2 : ((pre ++ [a, b]).map srt).getD (m + 1) 0 = srt b := by
   rw [List.map_append]; simp [List.getD, List.getElem?_append_right, hpl]
  have g3 : ((pre ++ [a, b]).map srt).take m = pre.map srt := by
   rw [List.map_append, List.take_append_of_le_length (by simp [hpl]), List.take_of_length_le (by simp [hpl])]
  rw [g1, g2, g3, b5o, s98, It 112 _ b6q]
  by_cases hnum : num = m
  ·subst hnum
   rw [show (((m + 2 : Nat) : Int) - 2 == (m : Int)) = true by rw [beq_iff_eq]; omega, Bool.true_and, show decide (0 ≤ (m : Int) ∧ (m : Int) ≤ ((m + 2 : Nat) : Int)) = true by simp; omega, Bool.true_and, Int.toNat_natCast]
   rw [List.take_append_of_le_length (by omega), List.take_of_length_le (by omega), List.drop_append_of_le_length (by omega), List.drop_of_length_le (by omega), List.nil_append, Px]
  ·rw [show (((m + 2 : Nat) : Int) - 2 == num) = false by rw [beq_eq_false_iff_ne]; omega, Bool.false_and]
   by_cases hr : 0 ≤ num ∧ num ≤ ((m + 2 : Nat) : Int)
   ·have : A3 [D3, [6].contains] ((pre ++ [a, b]).drop num.toNat) = false := by
     unfold A3
     rw [decide_eq_false, Bool.false_and]
     rw [List.length_drop, e1]
     show ¬ _ = 2
     omega
    rw [this]; simp
   ·rw [decide_eq_false hr, Bool.false_and]
 ·rw [decide_eq_false h2, Bool.false_and]
  have : A3 [D3, [6].contains] (ks.drop num.toNat) = false := by
   unfold A3
   rw [decide_eq_false, Bool.false_and]
   rw [List.length_drop]
   show ¬ _ = 2
   omega
  rw [this]; simp
theorem Ru (root : Bool) (k : Nat) (num : Int) (ks : List Nat) (h1 : 1 ≤ k) (h2 : k ≤ 32) (hr : k = 1 → root = true) : Di root k num ks = C2 k num ks := by
 have e : ∀ k, (14 ≤ k ∧ k ≤ 19) ∨ (21 ≤ k ∧ k ≤ 26) → Di root k num ks = (ks.map srt == [] && (decide (14 ≤ k) && decide (k ≤ 26))) := by
  intro k hk
  unfold Di
  split <;> first | rfl | omega
 have e' : ∀ k, (14 ≤ k ∧ k ≤ 19) ∨ (21 ≤ k ∧ k ≤ 26) → C2 k num ks = A3 [] ks := by
  intro k hk
  unfold C2
  split <;> first | rfl | omega
 by_cases hd : (14 ≤ k ∧ k ≤ 19) ∨ (21 ≤ k ∧ k ≤ 26)
 ·rw [e k hd, e' k hd, b44, b2b, show decide (14 ≤ k) = true by simp; omega, show decide (k ≤ 26) = true by simp; omega]
  simp
 ·have hk : k = 1 ∨ k = 2 ∨ k = 3 ∨ k = 4 ∨ k = 5 ∨ k = 6 ∨ k = 7 ∨ k = 8 ∨ k = 9 ∨ k = 10 ∨ k = 11 ∨ k = 12 ∨ k = 13 ∨ k = 20 ∨ k = 27 ∨ k = 28 ∨ k = 29 ∨ k = 30 ∨ k = 31 ∨ k = 32 := by omega
  clear e e' hd h1 h2
  rcases hk with rfl | rfl | rfl | rfl | rfl | rfl | rfl | rfl | rfl | rfl | rfl | rfl | rfl | rfl | rfl | rfl | rfl | rfl | rfl | rfl
  ·rw [hr rfl]; simp only [Di, C2, Bool.true_and]; exact It 100 _ b6t ks
  ·exact It 102 _ b6r ks
  ·simp only [Di, C2]; rw [a2u, Ng]; simp only [a86]
  ·exact b6b root num ks
  ·simp only [Di, C2]; rw [a2u, Ng]; simp only [a86]
  ·exact It 115 _ b6p ks
  ·simp only [Di, C2]; rw [a7e, Px]; simp only [a86, Vy]
  ·simp only [Di, C2]; rw [a7e, Px]
   match ks with
   | [] => rfl
   | [a] => rfl
   | [a, b] =>
    simp only [Vy, hdK, List.headD_cons]
    rw [Bool.eq_iff_iff]
    simp [Bc]
    omega
   | a :: b :: c :: t => rfl
  ·simp only [Di, C2]; rw [a7e, Px, b51, b4l]; simp only [Vy, s98]
  ·simp only [Di, C2]; rw [a7e, Px]; simp only [Vy, s98]
  ·simp only [Di, C2]; rw [b44, b2b, a2u, Ng]; simp only [Vy]
  ·simp only [Di, C2]; rw [a2u, Ng]; simp only [Vy]
  ·simp only [Di, C2]; rw [a2u, Ng]
   match ks with
   | [] => rfl
   | [a] =>
    simp only [Vy, hdK, List.headD_cons]
    rw [Bool.eq_iff_iff]
    simp [Bc]
    omega
   | a :: b :: t => rfl
  ·simp only [Di, C2]; rw [a2u, Ng]; simp only [a86]
  ·exact It 101 _ b6s ks
  ·simp only [Di, C2]; rw [a7e, Px]; simp only [Vy]
  ·simp only [Di, C2]; rw [a2u, Ng]; simp only [Vy]
  ·simp only [Di, C2]; rw [a2u, Ng]; simp only [Vy]
  ·simp only [Di, C2]; rw [a7e, Px]; simp only [Vy]
  ·simp only [Di, C2]; rw [a2u, Ng, a7e, Px]
   match ks with
   | [] => rfl
   | [a] =>
    simp only [a86, hdK, List.headD_cons]
    rw [Bool.eq_iff_iff]
    simp [Cv]
    omega
   | [a, b] =>
    simp only [a86, Vy, hdK, List.headD_cons]
    rw [Bool.eq_iff_iff]
    simp [Cv, Bc]
    omega
   | a :: b :: c :: t => rfl
theorem b2k (root : Bool) (k : Nat) (num : Int) (ks : List Nat) (h : k = 0 ∨ 33 ≤ k) : Di root k num ks = false := by
 have e : Di root k num ks = (ks.map srt == [] && (decide (14 ≤ k) && decide (k ≤ 26))) := by
  unfold Di
  split <;> first | rfl | omega
 rw [e, show (decide (14 ≤ k) && decide (k ≤ 26)) = false by simp; omega, Bool.and_false]
theorem a4l {k : Nat} {num : Int} {ks : List Nat} (h : C2 k num ks = true) : ∀ c, c ∈ ks → 2 ≤ c ∧ c ≤ 32 := by
 intro c hc
 have hall : ∀ (p : Nat → Bool) (ks : List Nat), ks.all p = true → (∀ c, p c = true → 2 ≤ c ∧ c ≤ 32) → ∀ c, c ∈ ks → 2 ≤ c ∧ c ≤ 32 := fun p ks h hp c hc => hp c (List.all_eq_true.1 h c hc)
 have hj : ∀ (ps : List (Nat → Bool)) (ks : List Nat), A3 ps ks = true → (∀ i, i < ps.length → ∀ c, (ps.getD i fun _ => false) c = true → 2 ≤ c ∧ c ≤ 32) → ∀ c, c ∈ ks → 2 ≤ c ∧ c ≤ 32 := by
  intro ps ks h hp c hc
  unfold A3 at h
  rw [Bool.and_eq_true, decide_eq_true_eq, List.all_eq_true] at h
  obtain ⟨i, hi, rfl⟩ := List.getElem_of_mem hc
  have := h.2 i (List.mem_range.2 (by omega))
  refine hp i (by omega) _ ?_
  simpa [List.getD, hi] using this
 have pT : ∀ c, Cv c = true → 2 ≤ c ∧ c ≤ 32 := fun c h => by unfold Cv at h; rw [decide_eq_true_eq] at h; omega
 have pE : ∀ c, Bc c = true → 2 ≤ c ∧ c ≤ 32 := fun c h => by unfold Bc at h; rw [decide_eq_true_eq] at h; omega
 have pS : ∀ c, Dh c = true → 2 ≤ c ∧ c ≤ 32 := fun c h => by unfold Dh at h; rw [decide_eq_true_eq] at h; omega
 have pR : ∀ c, D3 c = true → 2 ≤ c ∧ c ≤ 32 := fun c h => by unfold D3 at h; rw [decide_eq_true_eq] at h; omega
 have pI : ∀ l : List Nat, (∀ x, x ∈ l → 2 ≤ x ∧ x ≤ 32) → ∀ c, l.contains c = true → 2 ≤ c ∧ c ≤ 32 := fun l hl c h => hl c (List.contains_iff_mem.1 h)
 have q1 : ∀ p : Nat → Bool, (∀ c, p c = true → 2 ≤ c ∧ c ≤ 32) → ∀ i, i < [p].length → ∀ c, ([p].getD i fun _ => false) c = true → 2 ≤ c ∧ c ≤ 32 := fun p hp i hi c h => by
  match i, hi with
  | 0, _ => exact hp c h
 have q2 : ∀ p p' : Nat → Bool, (∀ c, p c = true → 2 ≤ c ∧ c ≤ 32) → (∀ c, p' c = true → 2 ≤ c ∧ c ≤ 32) → ∀ i, i < [p, p'].length → ∀ c, ([p, p'].getD i fun _ => false) c = true → 2 ≤ c ∧ c ≤ 32 := fun p p' hp hp' i hi c h => by
  match i, hi with
  | 0, _ => exact hp c h
  | 1, _ => exact hp' c h
 have q3 : ∀ p p' p'' : Nat → Bool, (∀ c, p c = true → 2 ≤ c ∧ c ≤ 32) → (∀ c, p' c = true → 2 ≤ c ∧ c ≤ 32) → (∀ c, p'' c = true → 2 ≤ c ∧ c ≤ 32) → ∀ i, i < [p, p', p''].length → ∀ c, ([p, p', p''].getD i fun _ => false) c = true → 2 ≤ c ∧ c ≤ 32 := fun p p' p'' hp hp' hp'' i hi c h => by
  match i, hi with
  | 0, _ => exact hp c h
  | 1, _ => exact hp' c h
  | 2, _ => exact hp'' c h
 have p6 := pI [6] (by decide)
 unfold C2 at h
 split at h
 ·exact hall _ _ h (pI _ (by decide)) c hc
 ·exact hall _ _ h (pI _ (by decide)) c hc
 ·exact hj _ _ h (q1 _ pT) c hc
 ·exact hj _ _ h (q1 _ pT) c hc
 ·exact hj _ _ h (q1 _ pT) c hc
 ·unfold Gz at h
  rw [Bool.and_eq_true, Bool.and_eq_true] at h
  rw [← List.take_append_drop num.toNat ks, List.mem_append] at hc
  rcases hc with hc | hc
  ·exact hall _ _ h.2.1 (pI _ (by decide)) c hc
  ·exact hj _ _ h.2.2 (q2 _ _ pR p6) c hc
 ·exact hall _ _ h pS c hc
 ·exact hj _ _ h (q2 _ _ pT pE) c hc
 ·exact hj _ _ h (q2 _ _ (pI _ (by decide)) pE) c hc
 ·simp only [Bool.or_eq_true] at h
  rcases h with h | h
  ·exact hj _ _ h (q2 _ _ pE p6) c hc
  ·exact hj _ _ h (q3 _ _ _ pE p6 p6) c hc
 ·exact hj _ _ h (q2 _ _ pE p6) c hc
 ·simp only [Bool.or_eq_true] at h
  rcases h with h | h
  ·exact hj _ _ h (fun i hi => absurd hi (by simp)) c hc
  ·exact hj _ _ h (q1 _ pE) c hc
 ·exact hj _ _ h (q1 _ (pI _ (by decide))) c hc
 ·exact hall _ _ h pE c hc
 ·exact hj _ _ h (q1 _ pE) c hc
 ·exact hj _ _ h (q1 _ pE) c hc
 ·exact hj _ _ h (q1 _ pE) c hc
 ·exact hj _ _ h (q2 _ _ pE pE) c hc
 ·exact hj _ _ h (q2 _ _ pE pE) c hc
 ·simp only [Bool.or_eq_true] at h
  rcases h with h | h
  ·exact hj _ _ h (q1 _ (pI _ (by decide))) c hc
  ·exact hj _ _ h (q2 _ _ (pI _ (by decide)) pE) c hc
 ·exact hj _ _ h (fun i hi => absurd hi (by simp)) c hc
def K5 (l : List Nd) (j : Nat) : Bool := Di (decide (j = 0)) (Ag l j) (nd l j).num ((Ai (sz l) j).map (Ag l))
theorem a2s (l : List Nd) (hR : Right (sz l) l.length) (h1 : Ag l 0 = 1) : ((List.range l.length).all fun j => Cb l j && K5 l j) = ((List.range l.length).all fun j => Cb l j && G0 l j) := by
 rw [Bool.eq_iff_iff, List.all_eq_true, List.all_eq_true]
 constructor
 ·intro h j hj
  have := h j hj
  rw [Bool.and_eq_true] at this ⊢
  refine ⟨this.1, ?_⟩
  have hf := this.2
  unfold K5 at hf
  by_cases hk : Ag l j = 0 ∨ 33 ≤ Ag l j
  ·rw [b2k _ _ _ _ hk] at hf; cases hf
  ·by_cases hr : Ag l j = 1 → decide (j = 0) = true
   ·rw [Ru _ _ _ _ (by omega) (by omega) hr] at hf; exact hf
   ·have hk1 : Ag l j = 1 := Classical.byContradiction fun h => hr fun h' => absurd h' h
    have hj0 : decide (j = 0) = false := by cases h : decide (j = 0) with
     | false => rfl
     | true => exact absurd (fun _ => h) hr
    rw [hk1, hj0] at hf
    cases hf
 ·intro h j hj
  have := h j hj
  rw [Bool.and_eq_true] at this ⊢
  refine ⟨this.1, ?_⟩
  have hf := this.2
  have hjn := List.mem_range.1 hj
  unfold K5
  by_cases hj0 : j = 0
  ·subst hj0
   rw [Ru (decide (0 = 0)) (Ag l 0) (nd l 0).num _ (by omega) (by omega) (fun _ => by simp)]; exact hf
  ·obtain ⟨i, hi, hij⟩ := hR.up_some (y := j) (by omega) hjn
   have hm := (hR.kid_iff (i := i) (y := j) (by omega) hjn).2 hi
   have hp := h i (List.mem_range.2 (by omega))
   rw [Bool.and_eq_true] at hp
   have hk := a4l hp.2 (Ag l j) (List.mem_map.2 ⟨j, hm, rfl⟩)
   rw [Ru _ _ _ _ (by omega) (by omega) (fun e => by omega)]; exact hf
end Go.Proofs.YtoaplbljflhheaaGreat
