/-
 Contracts and plain facts on the way to PrettyTerms. Conditions: as each says.
-/
import Derived.Test.YtoaplbljflhheaaGreatTaq
set_option maxHeartbeats 40000000
set_option maxRecDepth 100000
set_option linter.unusedVariables false
set_option linter.unusedSimpArgs false
namespace Go.Proofs.YtoaplbljflhheaaGreat
open Go.RowKit
def Fk (k : Nat) (num : Int) : List Nat → Bool := match k with
 | 1 => fun ks => ks.all [2, 4].contains
 | 2 => fun ks => ks.all [3].contains
 | 3 => Al [Dd]
 | 5 => Al [Dd]
 | 20 => Al [Dd]
 | 4 => Jd num [5].contains (Al [Ip, [6].contains])
 | 6 => fun ks => ks.all F5
 | 7 => Al [Dd, Ak]
 | 8 => Al [[26, 28, 29].contains, Ak]
 | 9 => fun ks => Al [Ak, [6].contains] ks || Al [Ak, [6].contains, [6].contains] ks
 | 10 => Al [Ak, [6].contains]
 | 11 => fun ks => Al [] ks || Al [Ak] ks
 | 13 => Al [[27].contains]
 | 27 => fun ks => ks.all Ak
 | 12 => Al [Ak]
 | 29 => Al [Ak]
 | 30 => Al [Ak]
 | 28 => Al [Ak, Ak]
 | 31 => Al [Ak, Ak]
 | 32 => fun ks => Al [[19].contains] ks || Al [[20].contains, Ak] ks
 | _ => Al []
theorem D2 {w : World} {g : Nat} {a : Nat} (h : w.cell? ⟨g, 0, none⟩ = some (.int .u8 (a : Nat))) (ha : a < 256) : Jo w (some ⟨g, 0, none⟩) [a] := fun i hi => by
 obtain rfl : i = 0 := by simp at hi; omega
 exact ⟨g, 0, rfl, h, ha⟩
theorem b5b {w : World} {g : Nat} {a b : Nat} (h : w.cell? ⟨g, 0, none⟩ = some (.int .u8 (a : Nat))) (h' : w.cell? ⟨g, 1, none⟩ = some (.int .u8 (b : Nat))) (ha : a < 256) (hb : b < 256) : Jo w (some ⟨g, 0, none⟩) [a, b] := fun i hi => by
 match i, hi with
 | 0, _ => exact ⟨g, 0, rfl, h, ha⟩
 | 1, _ => exact ⟨g, 0, rfl, h', hb⟩
theorem b5a {w : World} {g : Nat} {a b c : Nat} (h : w.cell? ⟨g, 0, none⟩ = some (.int .u8 (a : Nat))) (h' : w.cell? ⟨g, 1, none⟩ = some (.int .u8 (b : Nat))) (h'' : w.cell? ⟨g, 2, none⟩ = some (.int .u8 (c : Nat))) (ha : a < 256) (hb : b < 256) (hc : c < 256) : Jo w (some ⟨g, 0, none⟩) [a, b, c] := fun i hi => by
 match i, hi with
 | 0, _ => exact ⟨g, 0, rfl, h, ha⟩
 | 1, _ => exact ⟨g, 0, rfl, h', hb⟩
 | 2, _ => exact ⟨g, 0, rfl, h'', hc⟩
theorem b1i {w : World} {a : Option Addr} : a5v w a [] := fun i hi => by simp at hi
theorem Nw {w : World} {g : Nat} {v : Value} {p : Nat → Bool} (h : w.cell? ⟨g, 0, none⟩ = some v) (hk : KT w v p) : a5v w (some ⟨g, 0, none⟩) [p] := fun i hi => by
 obtain rfl : i = 0 := by simp at hi; omega
 exact ⟨g, 0, v, rfl, h, hk⟩
theorem Pe {w : World} {g : Nat} {v v' : Value} {p p' : Nat → Bool} (h : w.cell? ⟨g, 0, none⟩ = some v) (h' : w.cell? ⟨g, 1, none⟩ = some v') (hk : KT w v p) (hk' : KT w v' p') : a5v w (some ⟨g, 0, none⟩) [p, p'] := fun i hi => by
 match i, hi with
 | 0, _ => exact ⟨g, 0, v, rfl, h, hk⟩
 | 1, _ => exact ⟨g, 0, v', rfl, h', hk'⟩
theorem b41 {w : World} {g : Nat} {v v' v'' : Value} {p p' p'' : Nat → Bool} (h : w.cell? ⟨g, 0, none⟩ = some v) (h' : w.cell? ⟨g, 1, none⟩ = some v') (h'' : w.cell? ⟨g, 2, none⟩ = some v'') (hk : KT w v p) (hk' : KT w v' p') (hk'' : KT w v'' p'') : a5v w (some ⟨g, 0, none⟩) [p, p', p''] := fun i hi => by
 match i, hi with
 | 0, _ => exact ⟨g, 0, v, rfl, h, hk⟩
 | 1, _ => exact ⟨g, 0, v', rfl, h', hk'⟩
 | 2, _ => exact ⟨g, 0, v'', rfl, h'', hk''⟩
theorem A9 {w : World} {v : Value} {p : Nat → Bool} (h : KT w v p) : ∃ f c, v = .func (.func f) #[] c := by
 obtain ⟨f, c, h, _⟩ := h
 exact ⟨f, c, h⟩
theorem A8 {w : World} {v : Value} {p : List Nat → Bool} (h : RT w v p) : ∃ f c, v = .func (.func f) #[] c := by
 obtain ⟨f, c, h, _⟩ := h
 exact ⟨f, c, h⟩
def Mx (w : World) (p : List Nat → Bool) (e : Ending) (w' : World) : Prop := ∃ v, e = .returned v ∧ RT w' v p ∧ Below w.heap.size w w'
theorem b0n (ln cl sz num : Int) (tx : ByteArray) (w : World) (hnum : A4 num) : Calls Tryz.prog 44 #[.agg #[.int .u8 1, .int .i64 ln, .int .i64 cl, .int .i64 sz, .int .i64 num, .string tx]] w (Mx w (Fk 1 num)) := by
 have hA := zz (by go_grown : Below w.heap.size w ((w.alloc (.cells #[.int .u8 1, .int .i64 ln, .int .i64 cl, .int .i64 sz, .int .i64 num, .string tx] 37)).alloc (.cells #[.int .u8 6] 5)))
 go_enter Tryz.func44, Tryz.ntmps44
 go_wp2_with fail
 refine (B8 _ 1 1 [6] _ rfl (by omega) (D2 (by simp [go_sem]) (by omega))).mono ?_
 rintro e w1 ⟨vb, rfl, kb, hb1⟩
 obtain ⟨fb, cb, rfl⟩ := A9 kb
 have d0 : w1.cell? ⟨w.heap.size, 0, none⟩ = some (.int .u8 1) := Ad hb1 (by simp [go_sem])
 have d4 : w1.cell? ⟨w.heap.size, 4, none⟩ = some (.int .i64 num) := Ad hb1 (by simp [go_sem])
 have B1 := zz (Ab hA.out hb1)
 replace kb := zz kb
 clear hb1 hA
 go_wp2_with fail
 refine (B8 _ 2 2 [2, 4] _ rfl (by omega) (b5b (by simp [go_sem]) (by simp [go_sem]) (by omega) (by omega))).mono ?_
 rintro e w2 ⟨va, rfl, ka, hb⟩
 obtain ⟨fa, ca, rfl⟩ := A9 ka
 have B2 := zz (Ab (Ab B1.out (Aa w1 (.cells #[.int .u8 2, .int .u8 4] 5))) hb)
 replace ka := zz ka
 replace kb := zz ((kb.out.carry (Aa w1 (.cells #[.int .u8 2, .int .u8 4] 5))).carry hb)
 clear hb
 go_wp2_with fail
 refine (Gq _ _ _ ka.out).mono ?_
 rintro e w3 ⟨vr, rfl, kr, hb⟩
 obtain ⟨fr, cr, rfl⟩ := A8 kr
 have B3 := zz (Ab B2.out hb)
 replace kr := zz kr
 replace kb := zz (kb.out.carry hb)
 replace ka := zz (ka.out.carry hb)
 clear hb
 go_wp2_with fail
 go_ret
 exact ⟨_, rfl, kr.out, B3.out⟩
theorem b0m (ln cl sz num : Int) (tx : ByteArray) (w : World) (hnum : A4 num) : Calls Tryz.prog 44 #[.agg #[.int .u8 2, .int .i64 ln, .int .i64 cl, .int .i64 sz, .int .i64 num, .string tx]] w (Mx w (Fk 2 num)) := by
 have hA := zz (by go_grown : Below w.heap.size w ((w.alloc (.cells #[.int .u8 2, .int .i64 ln, .int .i64 cl, .int .i64 sz, .int .i64 num, .string tx] 37)).alloc (.cells #[.int .u8 6] 5)))
 go_enter Tryz.func44, Tryz.ntmps44
 go_wp2_with fail
 refine (B8 _ 1 1 [6] _ rfl (by omega) (D2 (by simp [go_sem]) (by omega))).mono ?_
 rintro e w1 ⟨vb, rfl, kb, hb1⟩
 obtain ⟨fb, cb, rfl⟩ := A9 kb
 have d0 : w1.cell? ⟨w.heap.size, 0, none⟩ = some (.int .u8 2) := Ad hb1 (by simp [go_sem])
 have d4 : w1.cell? ⟨w.heap.size, 4, none⟩ = some (.int .i64 num) := Ad hb1 (by simp [go_sem])
 have B1 := zz (Ab hA.out hb1)
 replace kb := zz kb
 clear hb1 hA
 go_wp2_with fail
 refine (B8 _ 1 1 [3] _ rfl (by omega) (D2 (by simp [go_sem]) (by omega))).mono ?_
 rintro e w2 ⟨va, rfl, ka, hb⟩
 obtain ⟨fa, ca, rfl⟩ := A9 ka
 have B2 := zz (Ab (Ab B1.out (Aa w1 (.cells #[.int .u8 3] 5))) hb)
 replace ka := zz ka
 replace kb := zz ((kb.out.carry (Aa w1 (.cells #[.int .u8 3] 5))).carry hb)
 clear hb
 go_wp2_with fail
 refine (Gq _ _ _ ka.out).mono ?_
 rintro e w3 ⟨vr, rfl, kr, hb⟩
 obtain ⟨fr, cr, rfl⟩ := A8 kr
 have B3 := zz (Ab B2.out hb)
 replace kr := zz kr
 replace kb := zz (kb.out.carry hb)
 replace ka := zz (ka.out.carry hb)
 clear hb
 go_wp2_with fail
 go_ret
 exact ⟨_, rfl, kr.out, B3.out⟩
theorem b0l (ln cl sz num : Int) (tx : ByteArray) (w : World) (hnum : A4 num) : Calls Tryz.prog 44 #[.agg #[.int .u8 3, .int .i64 ln, .int .i64 cl, .int .i64 sz, .int .i64 num, .string tx]] w (Mx w (Fk 3 num)) := by
 have hA := zz (by go_grown : Below w.heap.size w ((w.alloc (.cells #[.int .u8 3, .int .i64 ln, .int .i64 cl, .int .i64 sz, .int .i64 num, .string tx] 37)).alloc (.cells #[.int .u8 6] 5)))
 go_enter Tryz.func44, Tryz.ntmps44
 go_wp2_with fail
 refine (B8 _ 1 1 [6] _ rfl (by omega) (D2 (by simp [go_sem]) (by omega))).mono ?_
 rintro e w1 ⟨vb, rfl, kb, hb1⟩
 obtain ⟨fb, cb, rfl⟩ := A9 kb
 have d0 : w1.cell? ⟨w.heap.size, 0, none⟩ = some (.int .u8 3) := Ad hb1 (by simp [go_sem])
 have d4 : w1.cell? ⟨w.heap.size, 4, none⟩ = some (.int .i64 num) := Ad hb1 (by simp [go_sem])
 have B1 := zz (Ab hA.out hb1)
 replace kb := zz kb
 clear hb1 hA
 go_wp2_with fail
 refine (Bo _ 1 1 _ _ rfl (by omega) (Nw (g := w1.heap.size) (v := .func (.func 75) #[] #[]) (by simp [go_sem]) (So _))).mono ?_
 rintro e w2 ⟨vr, rfl, kr, hb⟩
 obtain ⟨fr, cr, rfl⟩ := A8 kr
 have B2 := zz (Ab (Ab B1.out (Aa w1 (.cells #[.func (.func 75) #[] #[]] 96))) hb)
 replace kr := zz kr
 replace kb := zz ((kb.out.carry (Aa w1 (.cells #[.func (.func 75) #[] #[]] 96))).carry hb)
 clear hb
 go_wp2_with fail
 go_ret
 exact ⟨_, rfl, kr.out, B2.out⟩
theorem b0j (ln cl sz num : Int) (tx : ByteArray) (w : World) (hnum : A4 num) : Calls Tryz.prog 44 #[.agg #[.int .u8 5, .int .i64 ln, .int .i64 cl, .int .i64 sz, .int .i64 num, .string tx]] w (Mx w (Fk 5 num)) := by
 have hA := zz (by go_grown : Below w.heap.size w ((w.alloc (.cells #[.int .u8 5, .int .i64 ln, .int .i64 cl, .int .i64 sz, .int .i64 num, .string tx] 37)).alloc (.cells #[.int .u8 6] 5)))
 go_enter Tryz.func44, Tryz.ntmps44
 go_wp2_with fail
 refine (B8 _ 1 1 [6] _ rfl (by omega) (D2 (by simp [go_sem]) (by omega))).mono ?_
 rintro e w1 ⟨vb, rfl, kb, hb1⟩
 obtain ⟨fb, cb, rfl⟩ := A9 kb
 have d0 : w1.cell? ⟨w.heap.size, 0, none⟩ = some (.int .u8 5) := Ad hb1 (by simp [go_sem])
 have d4 : w1.cell? ⟨w.heap.size, 4, none⟩ = some (.int .i64 num) := Ad hb1 (by simp [go_sem])
 have B1 := zz (Ab hA.out hb1)
 replace kb := zz kb
 clear hb1 hA
 go_wp2_with fail
 refine (Bo _ 1 1 _ _ rfl (by omega) (Nw (g := w1.heap.size) (v := .func (.func 75) #[] #[]) (by simp [go_sem]) (So _))).mono ?_
 rintro e w2 ⟨vr, rfl, kr, hb⟩
 obtain ⟨fr, cr, rfl⟩ := A8 kr
 have B2 := zz (Ab (Ab B1.out (Aa w1 (.cells #[.func (.func 75) #[] #[]] 96))) hb)
 replace kr := zz kr
 replace kb := zz ((kb.out.carry (Aa w1 (.cells #[.func (.func 75) #[] #[]] 96))).carry hb)
 clear hb
 go_wp2_with fail
 go_ret
 exact ⟨_, rfl, kr.out, B2.out⟩
theorem a5m (ln cl sz num : Int) (tx : ByteArray) (w : World) (hnum : A4 num) : Calls Tryz.prog 44 #[.agg #[.int .u8 20, .int .i64 ln, .int .i64 cl, .int .i64 sz, .int .i64 num, .string tx]] w (Mx w (Fk 20 num)) := by
 have hA := zz (by go_grown : Below w.heap.size w ((w.alloc (.cells #[.int .u8 20, .int .i64 ln, .int .i64 cl, .int .i64 sz, .int .i64 num, .string tx] 37)).alloc (.cells #[.int .u8 6] 5)))
 go_enter Tryz.func44, Tryz.ntmps44
 go_wp2_with fail
 refine (B8 _ 1 1 [6] _ rfl (by omega) (D2 (by simp [go_sem]) (by omega))).mono ?_
 rintro e w1 ⟨vb, rfl, kb, hb1⟩
 obtain ⟨fb, cb, rfl⟩ := A9 kb
 have d0 : w1.cell? ⟨w.heap.size, 0, none⟩ = some (.int .u8 20) := Ad hb1 (by simp [go_sem])
 have d4 : w1.cell? ⟨w.heap.size, 4, none⟩ = some (.int .i64 num) := Ad hb1 (by simp [go_sem])
 have B1 := zz (Ab hA.out hb1)
 replace kb := zz kb
 clear hb1 hA
 go_wp2_with fail
 refine (Bo _ 1 1 _ _ rfl (by omega) (Nw (g := w1.heap.size) (v := .func (.func 75) #[] #[]) (by simp [go_sem]) (So _))).mono ?_
 rintro e w2 ⟨vr, rfl, kr, hb⟩
 obtain ⟨fr, cr, rfl⟩ := A8 kr
 have B2 := zz (Ab (Ab B1.out (Aa w1 (.cells #[.func (.func 75) #[] #[]] 96))) hb)
 replace kr := zz kr
 replace kb := zz ((kb.out.carry (Aa w1 (.cells #[.func (.func 75) #[] #[]] 96))).carry hb)
 clear hb
 go_wp2_with fail
 go_ret
 exact ⟨_, rfl, kr.out, B2.out⟩
theorem b0i (ln cl sz num : Int) (tx : ByteArray) (w : World) (hnum : A4 num) : Calls Tryz.prog 44 #[.agg #[.int .u8 6, .int .i64 ln, .int .i64 cl, .int .i64 sz, .int .i64 num, .string tx]] w (Mx w (Fk 6 num)) := by
 have hA := zz (by go_grown : Below w.heap.size w ((w.alloc (.cells #[.int .u8 6, .int .i64 ln, .int .i64 cl, .int .i64 sz, .int .i64 num, .string tx] 37)).alloc (.cells #[.int .u8 6] 5)))
 go_enter Tryz.func44, Tryz.ntmps44
 go_wp2_with fail
 refine (B8 _ 1 1 [6] _ rfl (by omega) (D2 (by simp [go_sem]) (by omega))).mono ?_
 rintro e w1 ⟨vb, rfl, kb, hb1⟩
 obtain ⟨fb, cb, rfl⟩ := A9 kb
 have d0 : w1.cell? ⟨w.heap.size, 0, none⟩ = some (.int .u8 6) := Ad hb1 (by simp [go_sem])
 have d4 : w1.cell? ⟨w.heap.size, 4, none⟩ = some (.int .i64 num) := Ad hb1 (by simp [go_sem])
 have B1 := zz (Ab hA.out hb1)
 replace kb := zz kb
 clear hb1 hA
 go_wp2_with fail
 refine (Gq _ _ _ (a7s _)).mono ?_
 rintro e w2 ⟨vr, rfl, kr, hb⟩
 obtain ⟨fr, cr, rfl⟩ := A8 kr
 have B2 := zz (Ab B1.out hb)
 replace kr := zz kr
 replace kb := zz (kb.out.carry hb)
 clear hb
 go_wp2_with fail
 go_ret
 exact ⟨_, rfl, kr.out, B2.out⟩
theorem b0h (ln cl sz num : Int) (tx : ByteArray) (w : World) (hnum : A4 num) : Calls Tryz.prog 44 #[.agg #[.int .u8 7, .int .i64 ln, .int .i64 cl, .int .i64 sz, .int .i64 num, .string tx]] w (Mx w (Fk 7 num)) := by
 have hA := zz (by go_grown : Below w.heap.size w ((w.alloc (.cells #[.int .u8 7, .int .i64 ln, .int .i64 cl, .int .i64 sz, .int .i64 num, .string tx] 37)).alloc (.cells #[.int .u8 6] 5)))
 go_enter Tryz.func44, Tryz.ntmps44
 go_wp2_with fail
 refine (B8 _ 1 1 [6] _ rfl (by omega) (D2 (by simp [go_sem]) (by omega))).mono ?_
 rintro e w1 ⟨vb, rfl, kb, hb1⟩
 obtain ⟨fb, cb, rfl⟩ := A9 kb
 have d0 : w1.cell? ⟨w.heap.size, 0, none⟩ = some (.int .u8 7) := Ad hb1 (by simp [go_sem])
 have d4 : w1.cell? ⟨w.heap.size, 4, none⟩ = some (.int .i64 num) := Ad hb1 (by simp [go_sem])
 have B1 := zz (Ab hA.out hb1)
 replace kb := zz kb
 clear hb1 hA
 go_wp2_with fail
 refine (Bo _ 2 2 _ _ rfl (by omega) (Pe (g := w1.heap.size) (v := .func (.func 75) #[] #[]) (v' := .func (.func 79) #[] #[]) (by simp [go_sem]) (by simp [go_sem]) (So _) (Ev _))).mono ?_
 rintro e w2 ⟨vr, rfl, kr, hb⟩
 obtain ⟨fr, cr, rfl⟩ := A8 kr
 have B2 := zz (Ab (Ab B1.out (Aa w1 (.cells #[.func (.func 75) #[] #[], .func (.func 79) #[] #[]] 96))) hb)
 replace kr := zz kr
 replace kb := zz ((kb.out.carry (Aa w1 (.cells #[.func (.func 75) #[] #[], .func (.func 79) #[] #[]] 96))).carry hb)
 clear hb
 go_wp2_with fail
 go_ret
 exact ⟨_, rfl, kr.out, B2.out⟩
theorem b0g (ln cl sz num : Int) (tx : ByteArray) (w : World) (hnum : A4 num) : Calls Tryz.prog 44 #[.agg #[.int .u8 8, .int .i64 ln, .int .i64 cl, .int .i64 sz, .int .i64 num, .string tx]] w (Mx w (Fk 8 num)) := by
 have hA := zz (by go_grown : Below w.heap.size w ((w.alloc (.cells #[.int .u8 8, .int .i64 ln, .int .i64 cl, .int .i64 sz, .int .i64 num, .string tx] 37)).alloc (.cells #[.int .u8 6] 5)))
 go_enter Tryz.func44, Tryz.ntmps44
 go_wp2_with fail
 refine (B8 _ 1 1 [6] _ rfl (by omega) (D2 (by simp [go_sem]) (by omega))).mono ?_
 rintro e w1 ⟨vb, rfl, kb, hb1⟩
 obtain ⟨fb, cb, rfl⟩ := A9 kb
 have d0 : w1.cell? ⟨w.heap.size, 0, none⟩ = some (.int .u8 8) := Ad hb1 (by simp [go_sem])
 have d4 : w1.cell? ⟨w.heap.size, 4, none⟩ = some (.int .i64 num) := Ad hb1 (by simp [go_sem])
 have B1 := zz (Ab hA.out hb1)
 replace kb := zz kb
 clear hb1 hA
 go_wp2_with fail
 refine (B8 _ 3 3 [26, 28, 29] _ rfl (by omega) (b5a (by simp [go_sem]) (by simp [go_sem]) (by simp [go_sem]) (by omega) (by omega) (by omega))).mono ?_
 rintro e w2 ⟨va, rfl, ka, hb⟩
 obtain ⟨fa, ca, rfl⟩ := A9 ka
 have B2 := zz (Ab (Ab B1.out (Aa w1 (.cells #[.int .u8 26, .int .u8 28, .int .u8 29] 5))) hb)
 replace ka := zz ka
 replace kb := zz ((kb.out.carry (Aa w1 (.cells #[.int .u8 26, .int .u8 28, .int .u8 29] 5))).carry hb)
 clear hb
 go_wp2_with fail
 refine (Bo _ 2 2 _ _ rfl (by omega) (Pe (g := w2.heap.size) (v := .func (.func fa) #[] ca) (v' := .func (.func 79) #[] #[]) (by simp [go_sem]) (by simp [go_sem]) (ka.out.carry (Aa w2 (.cells #[.func (.func fa) #[] ca, .func (.func 79) #[] #[]] 96))) (Ev _))).mono ?_
 rintro e w3 ⟨vr, rfl, kr, hb⟩
 obtain ⟨fr, cr, rfl⟩ := A8 kr
 have B3 := zz (Ab (Ab B2.out (Aa w2 (.cells #[.func (.func fa) #[] ca, .func (.func 79) #[] #[]] 96))) hb)
 replace kr := zz kr
 replace kb := zz ((kb.out.carry (Aa w2 (.cells #[.func (.func fa) #[] ca, .func (.func 79) #[] #[]] 96))).carry hb)
 replace ka := zz ((ka.out.carry (Aa w2 (.cells #[.func (.func fa) #[] ca, .func (.func 79) #[] #[]] 96))).carry hb)
 clear hb
 go_wp2_with fail
 go_ret
 exact ⟨_, rfl, kr.out, B3.out⟩
theorem b0f (ln cl sz num : Int) (tx : ByteArray) (w : World) (hnum : A4 num) : Calls Tryz.prog 44 #[.agg #[.int .u8 9, .int .i64 ln, .int .i64 cl, .int .i64 sz, .int .i64 num, .string tx]] w (Mx w (Fk 9 num)) := by
 have hA := zz (by go_grown : Below w.heap.size w ((w.alloc (.cells #[.int .u8 9, .int .i64 ln, .int .i64 cl, .int .i64 sz, .int .i64 num, .string tx] 37)).alloc (.cells #[.int .u8 6] 5)))
 go_enter Tryz.func44, Tryz.ntmps44
 go_wp2_with fail
 refine (B8 _ 1 1 [6] _ rfl (by omega) (D2 (by simp [go_sem]) (by omega))).mono ?_
 rintro e w1 ⟨vb, rfl, kb, hb1⟩
 obtain ⟨fb, cb, rfl⟩ := A9 kb
 have d0 : w1.cell? ⟨w.heap.size, 0, none⟩ = some (.int .u8 9) := Ad hb1 (by simp [go_sem])
 have d4 : w1.cell? ⟨w.heap.size, 4, none⟩ = some (.int .i64 num) := Ad hb1 (by simp [go_sem])
 have B1 := zz (Ab hA.out hb1)
 replace kb := zz kb
 clear hb1 hA
 go_wp2_with fail
 refine (Bo _ 2 2 _ _ rfl (by omega) (Pe (g := w1.heap.size) (v := .func (.func 79) #[] #[]) (v' := .func (.func fb) #[] cb) (by simp [go_sem]) (by simp [go_sem]) (Ev _) (kb.out.carry (Aa w1 (.cells #[.func (.func 79) #[] #[], .func (.func fb) #[] cb] 96))))).mono ?_
 rintro e w2 ⟨va, rfl, ka, hb⟩
 obtain ⟨fa, ca, rfl⟩ := A8 ka
 have B2 := zz (Ab (Ab B1.out (Aa w1 (.cells #[.func (.func 79) #[] #[], .func (.func fb) #[] cb] 96))) hb)
 replace ka := zz ka
 replace kb := zz ((kb.out.carry (Aa w1 (.cells #[.func (.func 79) #[] #[], .func (.func fb) #[] cb] 96))).carry hb)
 clear hb
 go_wp2_with fail
 refine (Bo _ 3 3 _ _ rfl (by omega) (b41 (g := w2.heap.size) (v := .func (.func 79) #[] #[]) (v' := .func (.func fb) #[] cb) (v'' := .func (.func fb) #[] cb) (by simp [go_sem]) (by simp [go_sem]) (by simp [go_sem]) (Ev _) (kb.out.carry (Aa w2 (.cells #[.func (.func 79) #[] #[], .func (.func fb) #[] cb, .func (.func fb) #[] cb] 96))) (kb.out.carry (Aa w2 (.cells #[.func (.func 79) #[] #[], .func (.func fb) #[] cb, .func (.func fb) #[] cb] 96))))).mono ?_
 rintro e w3 ⟨vc, rfl, kc, hb⟩
 obtain ⟨fc, cc, rfl⟩ := A8 kc
 have B3 := zz (Ab (Ab B2.out (Aa w2 (.cells #[.func (.func 79) #[] #[], .func (.func fb) #[] cb, .func (.func fb) #[] cb] 96))) hb)
 replace kc := zz kc
 replace kb := zz ((kb.out.carry (Aa w2 (.cells #[.func (.func 79) #[] #[], .func (.func fb) #[] cb, .func (.func fb) #[] cb] 96))).carry hb)
 replace ka := zz ((ka.out.carry (Aa w2 (.cells #[.func (.func 79) #[] #[], .func (.func fb) #[] cb, .func (.func fb) #[] cb] 96))).carry hb)
 clear hb
 go_wp2_with fail
 refine (J4 _ _ _ _ _ ka.out kc.out).mono ?_
 rintro e w4 ⟨vr, rfl, kr, hb⟩
 obtain ⟨fr, cr, rfl⟩ := A8 kr
 have B4 := zz (Ab B3.out hb)
 replace kr := zz kr
 replace kb := zz (kb.out.carry hb)
 replace ka := zz (ka.out.carry hb)
 replace kc := zz (kc.out.carry hb)
 clear hb
 go_wp2_with fail
 go_ret
 exact ⟨_, rfl, kr.out, B4.out⟩
theorem a5q (ln cl sz num : Int) (tx : ByteArray) (w : World) (hnum : A4 num) : Calls Tryz.prog 44 #[.agg #[.int .u8 10, .int .i64 ln, .int .i64 cl, .int .i64 sz, .int .i64 num, .string tx]] w (Mx w (Fk 10 num)) := by
 have hA := zz (by go_grown : Below w.heap.size w ((w.alloc (.cells #[.int .u8 10, .int .i64 ln, .int .i64 cl, .int .i64 sz, .int .i64 num, .string tx] 37)).alloc (.cells #[.int .u8 6] 5)))
 go_enter Tryz.func44, Tryz.ntmps44
 go_wp2_with fail
 refine (B8 _ 1 1 [6] _ rfl (by omega) (D2 (by simp [go_sem]) (by omega))).mono ?_
 rintro e w1 ⟨vb, rfl, kb, hb1⟩
 obtain ⟨fb, cb, rfl⟩ := A9 kb
 have d0 : w1.cell? ⟨w.heap.size, 0, none⟩ = some (.int .u8 10) := Ad hb1 (by simp [go_sem])
 have d4 : w1.cell? ⟨w.heap.size, 4, none⟩ = some (.int .i64 num) := Ad hb1 (by simp [go_sem])
 have B1 := zz (Ab hA.out hb1)
 replace kb := zz kb
 clear hb1 hA
 go_wp2_with fail
 refine (Bo _ 2 2 _ _ rfl (by omega) (Pe (g := w1.heap.size) (v := .func (.func 79) #[] #[]) (v' := .func (.func fb) #[] cb) (by simp [go_sem]) (by simp [go_sem]) (Ev _) (kb.out.carry (Aa w1 (.cells #[.func (.func 79) #[] #[], .func (.func fb) #[] cb] 96))))).mono ?_
 rintro e w2 ⟨vr, rfl, kr, hb⟩
 obtain ⟨fr, cr, rfl⟩ := A8 kr
 have B2 := zz (Ab (Ab B1.out (Aa w1 (.cells #[.func (.func 79) #[] #[], .func (.func fb) #[] cb] 96))) hb)
 replace kr := zz kr
 replace kb := zz ((kb.out.carry (Aa w1 (.cells #[.func (.func 79) #[] #[], .func (.func fb) #[] cb] 96))).carry hb)
 clear hb
 go_wp2_with fail
 go_ret
 exact ⟨_, rfl, kr.out, B2.out⟩
theorem a5p (ln cl sz num : Int) (tx : ByteArray) (w : World) (hnum : A4 num) : Calls Tryz.prog 44 #[.agg #[.int .u8 11, .int .i64 ln, .int .i64 cl, .int .i64 sz, .int .i64 num, .string tx]] w (Mx w (Fk 11 num)) := by
 have hA := zz (by go_grown : Below w.heap.size w ((w.alloc (.cells #[.int .u8 11, .int .i64 ln, .int .i64 cl, .int .i64 sz, .int .i64 num, .string tx] 37)).alloc (.cells #[.int .u8 6] 5)))
 go_enter Tryz.func44, Tryz.ntmps44
 go_wp2_with fail
 refine (B8 _ 1 1 [6] _ rfl (by omega) (D2 (by simp [go_sem]) (by omega))).mono ?_
 rintro e w1 ⟨vb, rfl, kb, hb1⟩
 obtain ⟨fb, cb, rfl⟩ := A9 kb
 have d0 : w1.cell? ⟨w.heap.size, 0, none⟩ = some (.int .u8 11) := Ad hb1 (by simp [go_sem])
 have d4 : w1.cell? ⟨w.heap.size, 4, none⟩ = some (.int .i64 num) := Ad hb1 (by simp [go_sem])
 have B1 := zz (Ab hA.out hb1)
 replace kb := zz kb
 clear hb1 hA
 go_wp2_with fail
 refine (Bo _ 0 0 [] _ rfl (by omega) b1i).mono ?_
 rintro e w2 ⟨va, rfl, ka, hb⟩
 obtain ⟨fa, ca, rfl⟩ := A8 ka
 have B2 := zz (Ab B1.out hb)
 replace ka := zz ka
 replace kb := zz (kb.out.carry hb)
 clear hb
 go_wp2_with fail
 refine (Bo _ 1 1 _ _ rfl (by omega) (Nw (g := w2.heap.size) (v := .func (.func 79) #[] #[]) (by simp [go_sem]) (Ev _))).mono ?_
 rintro e w3 ⟨vc, rfl, kc, hb⟩
 obtain ⟨fc, cc, rfl⟩ := A8 kc
 have B3 := zz (Ab (Ab B2.out (Aa w2 (.cells #[.func (.func 79) #[] #[]] 96))) hb)
 replace kc := zz kc
 replace kb := zz ((kb.out.carry (Aa w2 (.cells #[.func (.func 79) #[] #[]] 96))).carry hb)
 replace ka := zz ((ka.out.carry (Aa w2 (.cells #[.func (.func 79) #[] #[]] 96))).carry hb)
 clear hb
 go_wp2_with fail
 refine (J4 _ _ _ _ _ ka.out kc.out).mono ?_
 rintro e w4 ⟨vr, rfl, kr, hb⟩
 obtain ⟨fr, cr, rfl⟩ := A8 kr
 have B4 := zz (Ab B3.out hb)
 replace kr := zz kr
 replace kb := zz (kb.out.carry hb)
 replace ka := zz (ka.out.carry hb)
 replace kc := zz (kc.out.carry hb)
 clear hb
 go_wp2_with fail
 go_ret
 exact ⟨_, rfl, kr.out, B4.out⟩
theorem a5n (ln cl sz num : Int) (tx : ByteArray) (w : World) (hnum : A4 num) : Calls Tryz.prog 44 #[.agg #[.int .u8 13, .int .i64 ln, .int .i64 cl, .int .i64 sz, .int .i64 num, .string tx]] w (Mx w (Fk 13 num)) := by
 have hA := zz (by go_grown : Below w.heap.size w ((w.alloc (.cells #[.int .u8 13, .int .i64 ln, .int .i64 cl, .int .i64 sz, .int .i64 num, .string tx] 37)).alloc (.cells #[.int .u8 6] 5)))
 go_enter Tryz.func44, Tryz.ntmps44
 go_wp2_with fail
 refine (B8 _ 1 1 [6] _ rfl (by omega) (D2 (by simp [go_sem]) (by omega))).mono ?_
 rintro e w1 ⟨vb, rfl, kb, hb1⟩
 obtain ⟨fb, cb, rfl⟩ := A9 kb
 have d0 : w1.cell? ⟨w.heap.size, 0, none⟩ = some (.int .u8 13) := Ad hb1 (by simp [go_sem])
 have d4 : w1.cell? ⟨w.heap.size, 4, none⟩ = some (.int .i64 num) := Ad hb1 (by simp [go_sem])
 have B1 := zz (Ab hA.out hb1)
 replace kb := zz kb
 clear hb1 hA
 go_wp2_with fail
 refine (B8 _ 1 1 [27] _ rfl (by omega) (D2 (by simp [go_sem]) (by omega))).mono ?_
 rintro e w2 ⟨va, rfl, ka, hb⟩
 obtain ⟨fa, ca, rfl⟩ := A9 ka
 have B2 := zz (Ab (Ab B1.out (Aa w1 (.cells #[.int .u8 27] 5))) hb)
 replace ka := zz ka
 replace kb := zz ((kb.out.carry (Aa w1 (.cells #[.int .u8 27] 5))).carry hb)
 clear hb
 go_wp2_with fail
 refine (Bo _ 1 1 _ _ rfl (by omega) (Nw (g := w2.heap.size) (v := .func (.func fa) #[] ca) (by simp [go_sem]) (ka.out.carry (Aa w2 (.cells #[.func (.func fa) #[] ca] 96))))).mono ?_
 rintro e w3 ⟨vr, rfl, kr, hb⟩
 obtain ⟨fr, cr, rfl⟩ := A8 kr
 have B3 := zz (Ab (Ab B2.out (Aa w2 (.cells #[.func (.func fa) #[] ca] 96))) hb)
 replace kr := zz kr
 replace kb := zz ((kb.out.carry (Aa w2 (.cells #[.func (.func fa) #[] ca] 96))).carry hb)
 replace ka := zz ((ka.out.carry (Aa w2 (.cells #[.func (.func fa) #[] ca] 96))).carry hb)
 clear hb
 go_wp2_with fail
 go_ret
 exact ⟨_, rfl, kr.out, B3.out⟩
theorem a5l (ln cl sz num : Int) (tx : ByteArray) (w : World) (hnum : A4 num) : Calls Tryz.prog 44 #[.agg #[.int .u8 27, .int .i64 ln, .int .i64 cl, .int .i64 sz, .int .i64 num, .string tx]] w (Mx w (Fk 27 num)) := by
 have hA := zz (by go_grown : Below w.heap.size w ((w.alloc (.cells #[.int .u8 27, .int .i64 ln, .int .i64 cl, .int .i64 sz, .int .i64 num, .string tx] 37)).alloc (.cells #[.int .u8 6] 5)))
 go_enter Tryz.func44, Tryz.ntmps44
 go_wp2_with fail
 refine (B8 _ 1 1 [6] _ rfl (by omega) (D2 (by simp [go_sem]) (by omega))).mono ?_
 rintro e w1 ⟨vb, rfl, kb, hb1⟩
 obtain ⟨fb, cb, rfl⟩ := A9 kb
 have d0 : w1.cell? ⟨w.heap.size, 0, none⟩ = some (.int .u8 27) := Ad hb1 (by simp [go_sem])
 have d4 : w1.cell? ⟨w.heap.size, 4, none⟩ = some (.int .i64 num) := Ad hb1 (by simp [go_sem])
 have B1 := zz (Ab hA.out hb1)
 replace kb := zz kb
 clear hb1 hA
 go_wp2_with fail
 refine (Gq _ _ _ (Ev _)).mono ?_
 rintro e w2 ⟨vr, rfl, kr, hb⟩
 obtain ⟨fr, cr, rfl⟩ := A8 kr
 have B2 := zz (Ab B1.out hb)
 replace kr := zz kr
 replace kb := zz (kb.out.carry hb)
 clear hb
 go_wp2_with fail
 go_ret
 exact ⟨_, rfl, kr.out, B2.out⟩
theorem a5o (ln cl sz num : Int) (tx : ByteArray) (w : World) (hnum : A4 num) : Calls Tryz.prog 44 #[.agg #[.int .u8 12, .int .i64 ln, .int .i64 cl, .int .i64 sz, .int .i64 num, .string tx]] w (Mx w (Fk 12 num)) := by
 have hA := zz (by go_grown : Below w.heap.size w ((w.alloc (.cells #[.int .u8 12, .int .i64 ln, .int .i64 cl, .int .i64 sz, .int .i64 num, .string tx] 37)).alloc (.cells #[.int .u8 6] 5)))
 go_enter Tryz.func44, Tryz.ntmps44
 go_wp2_with fail
 refine (B8 _ 1 1 [6] _ rfl (by omega) (D2 (by simp [go_sem]) (by omega))).mono ?_
 rintro e w1 ⟨vb, rfl, kb, hb1⟩
 obtain ⟨fb, cb, rfl⟩ := A9 kb
 have d0 : w1.cell? ⟨w.heap.size, 0, none⟩ = some (.int .u8 12) := Ad hb1 (by simp [go_sem])
 have d4 : w1.cell? ⟨w.heap.size, 4, none⟩ = some (.int .i64 num) := Ad hb1 (by simp [go_sem])
 have B1 := zz (Ab hA.out hb1)
 replace kb := zz kb
 clear hb1 hA
 go_wp2_with fail
 refine (Bo _ 1 1 _ _ rfl (by omega) (Nw (g := w1.heap.size) (v := .func (.func 79) #[] #[]) (by simp [go_sem]) (Ev _))).mono ?_
 rintro e w2 ⟨vr, rfl, kr, hb⟩
 obtain ⟨fr, cr, rfl⟩ := A8 kr
 have B2 := zz (Ab (Ab B1.out (Aa w1 (.cells #[.func (.func 79) #[] #[]] 96))) hb)
 replace kr := zz kr
 replace kb := zz ((kb.out.carry (Aa w1 (.cells #[.func (.func 79) #[] #[]] 96))).carry hb)
 clear hb
 go_wp2_with fail
 go_ret
 exact ⟨_, rfl, kr.out, B2.out⟩
theorem a5j (ln cl sz num : Int) (tx : ByteArray) (w : World) (hnum : A4 num) : Calls Tryz.prog 44 #[.agg #[.int .u8 29, .int .i64 ln, .int .i64 cl, .int .i64 sz, .int .i64 num, .string tx]] w (Mx w (Fk 29 num)) := by
 have hA := zz (by go_grown : Below w.heap.size w ((w.alloc (.cells #[.int .u8 29, .int .i64 ln, .int .i64 cl, .int .i64 sz, .int .i64 num, .string tx] 37)).alloc (.cells #[.int .u8 6] 5)))
 go_enter Tryz.func44, Tryz.ntmps44
 go_wp2_with fail
 refine (B8 _ 1 1 [6] _ rfl (by omega) (D2 (by simp [go_sem]) (by omega))).mono ?_
 rintro e w1 ⟨vb, rfl, kb, hb1⟩
 obtain ⟨fb, cb, rfl⟩ := A9 kb
 have d0 : w1.cell? ⟨w.heap.size, 0, none⟩ = some (.int .u8 29) := Ad hb1 (by simp [go_sem])
 have d4 : w1.cell? ⟨w.heap.size, 4, none⟩ = some (.int .i64 num) := Ad hb1 (by simp [go_sem])
 have B1 := zz (Ab hA.out hb1)
 replace kb := zz kb
 clear hb1 hA
 go_wp2_with fail
 refine (Bo _ 1 1 _ _ rfl (by omega) (Nw (g := w1.heap.size) (v := .func (.func 79) #[] #[]) (by simp [go_sem]) (Ev _))).mono ?_
 rintro e w2 ⟨vr, rfl, kr, hb⟩
 obtain ⟨fr, cr, rfl⟩ := A8 kr
 have B2 := zz (Ab (Ab B1.out (Aa w1 (.cells #[.func (.func 79) #[] #[]] 96))) hb)
 replace kr := zz kr
 replace kb := zz ((kb.out.carry (Aa w1 (.cells #[.func (.func 79) #[] #[]] 96))).carry hb)
 clear hb
 go_wp2_with fail
 go_ret
 exact ⟨_, rfl, kr.out, B2.out⟩
theorem a5i (ln cl sz num : Int) (tx : ByteArray) (w : World) (hnum : A4 num) : Calls Tryz.prog 44 #[.agg #[.int .u8 30, .int .i64 ln, .int .i64 cl, .int .i64 sz, .int .i64 num, .string tx]] w (Mx w (Fk 30 num)) := by
 have hA := zz (by go_grown : Below w.heap.size w ((w.alloc (.cells #[.int .u8 30, .int .i64 ln, .int .i64 cl, .int .i64 sz, .int .i64 num, .string tx] 37)).alloc (.cells #[.int .u8 6] 5)))
 go_enter Tryz.func44, Tryz.ntmps44
 go_wp2_with fail
 refine (B8 _ 1 1 [6] _ rfl (by omega) (D2 (by simp [go_sem]) (by omega))).mono ?_
 rintro e w1 ⟨vb, rfl, kb, hb1⟩
 obtain ⟨fb, cb, rfl⟩ := A9 kb
 have d0 : w1.cell? ⟨w.heap.size, 0, none⟩ = some (.int .u8 30) := Ad hb1 (by simp [go_sem])
 have d4 : w1.cell? ⟨w.heap.size, 4, none⟩ = some (.int .i64 num) := Ad hb1 (by simp [go_sem])
 have B1 := zz (Ab hA.out hb1)
 replace kb := zz kb
 clear hb1 hA
 go_wp2_with fail
 refine (Bo _ 1 1 _ _ rfl (by omega) (Nw (g := w1.heap.size) (v := .func (.func 79) #[] #[]) (by simp [go_sem]) (Ev _))).mono ?_
 rintro e w2 ⟨vr, rfl, kr, hb⟩
 obtain ⟨fr, cr, rfl⟩ := A8 kr
 have B2 := zz (Ab (Ab B1.out (Aa w1 (.cells #[.func (.func 79) #[] #[]] 96))) hb)
 replace kr := zz kr
 replace kb := zz ((kb.out.carry (Aa w1 (.cells #[.func (.func 79) #[] #[]] 96))).carry hb)
 clear hb
 go_wp2_with fail
 go_ret
 exact ⟨_, rfl, kr.out, B2.out⟩
theorem a5k (ln cl sz num : Int) (tx : ByteArray) (w : World) (hnum : A4 num) : Calls Tryz.prog 44 #[.agg #[.int .u8 28, .int .i64 ln, .int .i64 cl, .int .i64 sz, .int .i64 num, .string tx]] w (Mx w (Fk 28 num)) := by
 have hA := zz (by go_grown : Below w.heap.size w ((w.alloc (.cells #[.int .u8 28, .int .i64 ln, .int .i64 cl, .int .i64 sz, .int .i64 num, .string tx] 37)).alloc (.cells #[.int .u8 6] 5)))
 go_enter Tryz.func44, Tryz.ntmps44
 go_wp2_with fail
 refine (B8 _ 1 1 [6] _ rfl (by omega) (D2 (by simp [go_sem]) (by omega))).mono ?_
 rintro e w1 ⟨vb, rfl, kb, hb1⟩
 obtain ⟨fb, cb, rfl⟩ := A9 kb
 have d0 : w1.cell? ⟨w.heap.size, 0, none⟩ = some (.int .u8 28) := Ad hb1 (by simp [go_sem])
 have d4 : w1.cell? ⟨w.heap.size, 4, none⟩ = some (.int .i64 num) := Ad hb1 (by simp [go_sem])
 have B1 := zz (Ab hA.out hb1)
 replace kb := zz kb
 clear hb1 hA
 go_wp2_with fail
 refine (Bo _ 2 2 _ _ rfl (by omega) (Pe (g := w1.heap.size) (v := .func (.func 79) #[] #[]) (v' := .func (.func 79) #[] #[]) (by simp [go_sem]) (by simp [go_sem]) (Ev _) (Ev _))).mono ?_
 rintro e w2 ⟨vr, rfl, kr, hb⟩
 obtain ⟨fr, cr, rfl⟩ := A8 kr
 have B2 := zz (Ab (Ab B1.out (Aa w1 (.cells #[.func (.func 79) #[] #[], .func (.func 79) #[] #[]] 96))) hb)
 replace kr := zz kr
 replace kb := zz ((kb.out.carry (Aa w1 (.cells #[.func (.func 79) #[] #[], .func (.func 79) #[] #[]] 96))).carry hb)
 clear hb
 go_wp2_with fail
 go_ret
 exact ⟨_, rfl, kr.out, B2.out⟩
theorem a5h (ln cl sz num : Int) (tx : ByteArray) (w : World) (hnum : A4 num) : Calls Tryz.prog 44 #[.agg #[.int .u8 31, .int .i64 ln, .int .i64 cl, .int .i64 sz, .int .i64 num, .string tx]] w (Mx w (Fk 31 num)) := by
 have hA := zz (by go_grown : Below w.heap.size w ((w.alloc (.cells #[.int .u8 31, .int .i64 ln, .int .i64 cl, .int .i64 sz, .int .i64 num, .string tx] 37)).alloc (.cells #[.int .u8 6] 5)))
 go_enter Tryz.func44, Tryz.ntmps44
 go_wp2_with fail
 refine (B8 _ 1 1 [6] _ rfl (by omega) (D2 (by simp [go_sem]) (by omega))).mono ?_
 rintro e w1 ⟨vb, rfl, kb, hb1⟩
 obtain ⟨fb, cb, rfl⟩ := A9 kb
 have d0 : w1.cell? ⟨w.heap.size, 0, none⟩ = some (.int .u8 31) := Ad hb1 (by simp [go_sem])
 have d4 : w1.cell? ⟨w.heap.size, 4, none⟩ = some (.int .i64 num) := Ad hb1 (by simp [go_sem])
 have B1 := zz (Ab hA.out hb1)
 replace kb := zz kb
 clear hb1 hA
 go_wp2_with fail
 refine (Bo _ 2 2 _ _ rfl (by omega) (Pe (g := w1.heap.size) (v := .func (.func 79) #[] #[]) (v' := .func (.func 79) #[] #[]) (by simp [go_sem]) (by simp [go_sem]) (Ev _) (Ev _))).mono ?_
 rintro e w2 ⟨vr, rfl, kr, hb⟩
 obtain ⟨fr, cr, rfl⟩ := A8 kr
 have B2 := zz (Ab (Ab B1.out (Aa w1 (.cells #[.func (.func 79) #[] #[], .func (.func 79) #[] #[]] 96))) hb)
 replace kr := zz kr
 replace kb := zz ((kb.out.carry (Aa w1 (.cells #[.func (.func 79) #[] #[], .func (.func 79) #[] #[]] 96))).carry hb)
 clear hb
 go_wp2_with fail
 go_ret
 exact ⟨_, rfl, kr.out, B2.out⟩
theorem a5g (ln cl sz num : Int) (tx : ByteArray) (w : World) (hnum : A4 num) : Calls Tryz.prog 44 #[.agg #[.int .u8 32, .int .i64 ln, .int .i64 cl, .int .i64 sz, .int .i64 num, .string tx]] w (Mx w (Fk 32 num)) := by
 have hA := zz (by go_grown : Below w.heap.size w ((w.alloc (.cells #[.int .u8 32, .int .i64 ln, .int .i64 cl, .int .i64 sz, .int .i64 num, .string tx] 37)).alloc (.cells #[.int .u8 6] 5)))
 go_enter Tryz.func44, Tryz.ntmps44
 go_wp2_with fail
 refine (B8 _ 1 1 [6] _ rfl (by omega) (D2 (by simp [go_sem]) (by omega))).mono ?_
 rintro e w1 ⟨vb, rfl, kb, hb1⟩
 obtain ⟨fb, cb, rfl⟩ := A9 kb
 have d0 : w1.cell? ⟨w.heap.size, 0, none⟩ = some (.int .u8 32) := Ad hb1 (by simp [go_sem])
 have d4 : w1.cell? ⟨w.heap.size, 4, none⟩ = some (.int .i64 num) := Ad hb1 (by simp [go_sem])
 have B1 := zz (Ab hA.out hb1)
 replace kb := zz kb
 clear hb1 hA
 go_wp2_with fail
 refine (B8 _ 1 1 [19] _ rfl (by omega) (D2 (by simp [go_sem]) (by omega))).mono ?_
 rintro e w2 ⟨va, rfl, ka, hb⟩
 obtain ⟨fa, ca, rfl⟩ := A9 ka
 have B2 := zz (Ab (Ab B1.out (Aa w1 (.cells #[.int .u8 19] 5))) hb)
 replace ka := zz ka
 replace kb := zz ((kb.out.carry (Aa w1 (.cells #[.int .u8 19] 5))).carry hb)
 clear hb
 go_wp2_with fail
 refine (Bo _ 1 1 _ _ rfl (by omega) (Nw (g := w2.heap.size) (v := .func (.func fa) #[] ca) (by simp [go_sem]) (ka.out.carry (Aa w2 (.cells #[.func (.func fa) #[] ca] 96))))).mono ?_
 rintro e w3 ⟨vc, rfl, kc, hb⟩
 obtain ⟨fc, cc, rfl⟩ := A8 kc
 have B3 := zz (Ab (Ab B2.out (Aa w2 (.cells #[.func (.func fa) #[] ca] 96))) hb)
 replace kc := zz kc
 replace kb := zz ((kb.out.carry (Aa w2 (.cells #[.func (.func fa) #[] ca] 96))).carry hb)
 replace ka := zz ((ka.out.carry (Aa w2 (.cells #[.func (.func fa) #[] ca] 96))).carry hb)
 clear hb
 go_wp2_with fail
 refine (B8 _ 1 1 [20] _ rfl (by omega) (D2 (by simp [go_sem]) (by omega))).mono ?_
 rintro e w4 ⟨vd, rfl, kd, hb⟩
 obtain ⟨fd, cd, rfl⟩ := A9 kd
 have B4 := zz (Ab (Ab B3.out (Aa w3 (.cells #[.int .u8 20] 5))) hb)
 replace kd := zz kd
 replace kb := zz ((kb.out.carry (Aa w3 (.cells #[.int .u8 20] 5))).carry hb)
 replace ka := zz ((ka.out.carry (Aa w3 (.cells #[.int .u8 20] 5))).carry hb)
 replace kc := zz ((kc.out.carry (Aa w3 (.cells #[.int .u8 20] 5))).carry hb)
 clear hb
 go_wp2_with fail
 refine (Bo _ 2 2 _ _ rfl (by omega) (Pe (g := w4.heap.size) (v := .func (.func fd) #[] cd) (v' := .func (.func 79) #[] #[]) (by simp [go_sem]) (by simp [go_sem]) (kd.out.carry (Aa w4 (.cells #[.func (.func fd) #[] cd, .func (.func 79) #[] #[]] 96))) (Ev _))).mono ?_
 rintro e w5 ⟨vf, rfl, kf, hb⟩
 obtain ⟨ff, cf, rfl⟩ := A8 kf
 have B5 := zz (Ab (Ab B4.out (Aa w4 (.cells #[.func (.func fd) #[] cd, .func (.func 79) #[] #[]] 96))) hb)
 replace kf := zz kf
 replace kb := zz ((kb.out.carry (Aa w4 (.cells #[.func (.func fd) #[] cd, .func (.func 79) #[] #[]] 96))).carry hb)
 replace ka := zz ((ka.out.carry (Aa w4 (.cells #[.func (.func fd) #[] cd, .func (.func 79) #[] #[]] 96))).carry hb)
 replace kc := zz ((kc.out.carry (Aa w4 (.cells #[.func (.func fd) #[] cd, .func (.func 79) #[] #[]] 96))).carry hb)
 replace kd := zz ((kd.out.carry (Aa w4 (.cells #[.func (.func fd) #[] cd, .func (.func 79) #[] #[]] 96))).carry hb)
 clear hb
 go_wp2_with fail
 refine (J4 _ _ _ _ _ kc.out kf.out).mono ?_
 rintro e w6 ⟨vr, rfl, kr, hb⟩
 obtain ⟨fr, cr, rfl⟩ := A8 kr
 have B6 := zz (Ab B5.out hb)
 replace kr := zz kr
 replace kb := zz (kb.out.carry hb)
 replace ka := zz (ka.out.carry hb)
 replace kc := zz (kc.out.carry hb)
 replace kd := zz (kd.out.carry hb)
 replace kf := zz (kf.out.carry hb)
 clear hb
 go_wp2_with fail
 go_ret
 exact ⟨_, rfl, kr.out, B6.out⟩
theorem b0k (ln cl sz num : Int) (tx : ByteArray) (w : World) (hnum : A4 num) : Calls Tryz.prog 44 #[.agg #[.int .u8 4, .int .i64 ln, .int .i64 cl, .int .i64 sz, .int .i64 num, .string tx]] w (Mx w (Fk 4 num)) := by
 have hA := zz (by go_grown : Below w.heap.size w ((w.alloc (.cells #[.int .u8 4, .int .i64 ln, .int .i64 cl, .int .i64 sz, .int .i64 num, .string tx] 37)).alloc (.cells #[.int .u8 6] 5)))
 go_enter Tryz.func44, Tryz.ntmps44
 go_wp2_with fail
 refine (B8 _ 1 1 [6] _ rfl (by omega) (D2 (by simp [go_sem]) (by omega))).mono ?_
 rintro e w1 ⟨vb, rfl, kb, hb1⟩
 obtain ⟨fb, cb, rfl⟩ := A9 kb
 have d0 : w1.cell? ⟨w.heap.size, 0, none⟩ = some (.int .u8 4) := Ad hb1 (by simp [go_sem])
 have d4 : w1.cell? ⟨w.heap.size, 4, none⟩ = some (.int .i64 num) := Ad hb1 (by simp [go_sem])
 have B1 := zz (Ab hA.out hb1)
 replace kb := zz kb
 clear hb1 hA
 go_wp2_with fail
 go_region_held3 (fun w' => w'.cell? ⟨w.heap.size, 4, none⟩ = some (.int .i64 num)) (go_keep)
  (first
   | (go_at_call 72; refine (B8 _ 1 1 [5] _ rfl (by omega) (D2 (by simp [go_sem]) (by omega))).mono ?_; rintro e w2 ⟨va, rfl, ka, hb⟩; obtain ⟨fa, ca, rfl⟩ := A9 ka; have d5 := Ad (b := w.heap.size) (o := 4) hb (by first | exact Bq d4 _ | exact Bq (Bq d4 _) _); obtain ⟨hc, hf⟩ := Df hb; have hz := hb.size; simp only [World.size_alloc, World.size_drew] at hc hf hz; have B2 := zz (Ab B1.out (Ab (by go_grown) hb)); replace kb := zz (kb.out.carry (Ab (by go_grown) hb)); replace ka := zz ka; clear hb)
   | (go_at_call 74; refine (Bo _ 2 2 [Ip, [6].contains] _ rfl (by omega) (Pe (v := .func (.func 77) #[] #[]) (v' := .func (.func fb) #[] cb) (by simp [go_sem, *]) (by simp [go_sem, *]) (b11 _) (kb.out.carry (by go_grown)))).mono ?_; rintro e w3 ⟨vr, rfl, kr, hb⟩; obtain ⟨fr, cr, rfl⟩ := A8 kr; have d6 := Ad (b := w.heap.size) (o := 4) hb (by first | exact d5 | exact Bq d5 _); have B3 := zz (Ab B2.out (Ab (by go_grown) hb)); replace ka := zz (ka.out.carry (Ab (by go_grown) hb)); replace kr := zz kr; clear hb)
   | (go_at_call 76; refine (R8 num hnum _ _ _ _ _ ka.out kr.out).mono ?_; rintro e w4 ⟨vl, rfl, kl, hb⟩; have d7 := Ad (b := w.heap.size) (o := 4) hb d6; have B4 := zz (Ab B3.out hb); replace kl := zz kl; clear hb))
 all_goals (go_wp2_with fail; go_ret; exact ⟨_, rfl, kl.out, B4.out⟩)
theorem Wf (k : Nat) (hk : k ≠ 1 ∧ k ≠ 2 ∧ k ≠ 3 ∧ k ≠ 5 ∧ k ≠ 20 ∧ k ≠ 4 ∧ k ≠ 6 ∧ k ≠ 7 ∧ k ≠ 8 ∧ k ≠ 9 ∧ k ≠ 10 ∧ k ≠ 11 ∧ k ≠ 13 ∧ k ≠ 27 ∧ k ≠ 12 ∧ k ≠ 29 ∧ k ≠ 30 ∧ k ≠ 28 ∧ k ≠ 31 ∧ k ≠ 32) (ln cl sz num : Int) (tx : ByteArray) (w : World) (hnum : A4 num) : Calls Tryz.prog 44 #[.agg #[.int .u8 (k : Nat), .int .i64 ln, .int .i64 cl, .int .i64 sz, .int .i64 num, .string tx]] w (Mx w (Al [])) := by
 have e1 : ((k : Int) == 1) = false := by rw [beq_eq_false_iff_ne]; omega
 have e2 : ((k : Int) == 2) = false := by rw [beq_eq_false_iff_ne]; omega
 have e3 : ((k : Int) == 3) = false := by rw [beq_eq_false_iff_ne]; omega
 have e5 : ((k : Int) == 5) = false := by rw [beq_eq_false_iff_ne]; omega
 have e20 : ((k : Int) == 20) = false := by rw [beq_eq_false_iff_ne]; omega
 have e4 : ((k : Int) == 4) = false := by rw [beq_eq_false_iff_ne]; omega
 have e6 : ((k : Int) == 6) = false := by rw [beq_eq_false_iff_ne]; omega
 have e7 : ((k : Int) == 7) = false := by rw [beq_eq_false_iff_ne]; omega
 have e8 : ((k : Int) == 8) = false := by rw [beq_eq_false_iff_ne]; omega
 have e9 : ((k : Int) == 9) = false := by rw [beq_eq_false_iff_ne]; omega
 have e10 : ((k : Int) == 10) = false := by rw [beq_eq_false_iff_ne]; omega
 have e11 : ((k : Int) == 11) = false := by rw [beq_eq_false_iff_ne]; omega
 have e13 : ((k : Int) == 13) = false := by rw [beq_eq_false_iff_ne]; omega
 have e27 : ((k : Int) == 27) = false := by rw [beq_eq_false_iff_ne]; omega
 have e12 : ((k : Int) == 12) = false := by rw [beq_eq_false_iff_ne]; omega
 have e29 : ((k : Int) == 29) = false := by rw [beq_eq_false_iff_ne]; omega
 have e30 : ((k : Int) == 30) = false := by rw [beq_eq_false_iff_ne]; omega
 have e28 : ((k : Int) == 28) = false := by rw [beq_eq_false_iff_ne]; omega
 have e31 : ((k : Int) == 31) = false := by rw [beq_eq_false_iff_ne]; omega
 have e32 : ((k : Int) == 32) = false := by rw [beq_eq_false_iff_ne]; omega
 clear hk
 have hA := zz (by go_grown : Below w.heap.size w ((w.alloc (.cells #[.int .u8 (k : Nat), .int .i64 ln, .int .i64 cl, .int .i64 sz, .int .i64 num, .string tx] 37)).alloc (.cells #[.int .u8 6] 5)))
 go_enter Tryz.func44, Tryz.ntmps44
 go_wp2_with fail
 refine (B8 _ 1 1 [6] _ rfl (by omega) (D2 (by simp [go_sem]) (by omega))).mono ?_
 rintro e w1 ⟨vb, rfl, kb, hb1⟩
 obtain ⟨fb, cb, rfl⟩ := A9 kb
 have d0 : w1.cell? ⟨w.heap.size, 0, none⟩ = some (.int .u8 (k : Nat)) := Ad hb1 (by simp [go_sem])
 have d4 : w1.cell? ⟨w.heap.size, 4, none⟩ = some (.int .i64 num) := Ad hb1 (by simp [go_sem])
 have B1 := zz (Ab hA.out hb1)
 replace kb := zz kb
 clear hb1 hA
 go_wp2_with fail
 refine (Bo _ 0 0 [] _ rfl (by omega) b1i).mono ?_
 rintro e w2 ⟨vr, rfl, kr, hb⟩
 obtain ⟨fr, cr, rfl⟩ := A8 kr
 have B2 := zz (Ab B1.out hb)
 replace kr := zz kr
 replace kb := zz (kb.out.carry hb)
 clear hb
 go_wp2_with fail
 go_ret
 exact ⟨_, rfl, kr.out, B2.out⟩
end Go.Proofs.YtoaplbljflhheaaGreat
