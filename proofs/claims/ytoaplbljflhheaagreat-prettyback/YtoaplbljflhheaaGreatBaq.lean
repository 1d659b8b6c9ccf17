/-
 Contracts and plain facts on the way to PrettyBack. Conditions: as each says.
-/
import Derived.Test.YtoaplbljflhheaaGreatBan
set_option maxHeartbeats 40000000
set_option maxRecDepth 100000
set_option linter.unusedVariables false
set_option linter.unusedSimpArgs false
namespace Go.Proofs.YtoaplbljflhheaaGreat
open _root_.Go.Proofs.Tryz
section
open Go.RowKit
def Hl (k : Nat) (num : Int) : List Nat -> Bool := match k with
 | 1 => fun ks => ks.all [2, 4].contains
 | 2 => fun ks => ks.all [3].contains
 | 3 => Ak [Ck]
 | 5 => Ak [Ck]
 | 20 => Ak [Ck]
 | 4 => Iu num [5].contains (Ak [Fi, [6].contains])
 | 6 => fun ks => ks.all Dt
 | 7 => Ak [Ck, Am]
 | 8 => Ak [[26, 28, 29].contains, Am]
 | 9 => fun ks => Ak [Am, [6].contains] ks || Ak [Am, [6].contains, [6].contains] ks
 | 10 => Ak [Am, [6].contains]
 | 11 => fun ks => Ak [] ks || Ak [Am] ks
 | 13 => Ak [[27].contains]
 | 27 => fun ks => ks.all Am
 | 12 => Ak [Am]
 | 29 => Ak [Am]
 | 30 => Ak [Am]
 | 28 => Ak [Am, Am]
 | 31 => Ak [Am, Am]
 | 32 => fun ks => Ak [[19].contains] ks || Ak [[20].contains, Am] ks
 | _ => Ak []
theorem Xq {w : World} {g : Nat} {a : Nat} (h : w.cell? ⟨g, 0, none⟩ = some (.int .u8 (a : Nat))) (ha : a < 256) : M1 w (some ⟨g, 0, none⟩) [a] := fun i hi => by
 obtain rfl : i = 0 := by simp at hi; omega
 exact ⟨g, 0, rfl, h, ha⟩
theorem c2i {w : World} {g : Nat} {a b : Nat} (h : w.cell? ⟨g, 0, none⟩ = some (.int .u8 (a : Nat))) (h' : w.cell? ⟨g, 1, none⟩ = some (.int .u8 (b : Nat))) (ha : a < 256) (hb : b < 256) : M1 w (some ⟨g, 0, none⟩) [a, b] := fun i hi => by
 match i, hi with
 | 0, _ => exact ⟨g, 0, rfl, h, ha⟩
 | 1, _ => exact ⟨g, 0, rfl, h', hb⟩
theorem c2h {w : World} {g : Nat} {a b c : Nat} (h : w.cell? ⟨g, 0, none⟩ = some (.int .u8 (a : Nat))) (h' : w.cell? ⟨g, 1, none⟩ = some (.int .u8 (b : Nat))) (h'' : w.cell? ⟨g, 2, none⟩ = some (.int .u8 (c : Nat))) (ha : a < 256) (hb : b < 256) (hc : c < 256) : M1 w (some ⟨g, 0, none⟩) [a, b, c] := fun i hi => by
 match i, hi with
 | 0, _ => exact ⟨g, 0, rfl, h, ha⟩
 | 1, _ => exact ⟨g, 0, rfl, h', hb⟩
 | 2, _ => exact ⟨g, 0, rfl, h'', hc⟩
theorem b7b {w : World} {a : Option Addr} : b1r w a [] := fun i hi => by simp at hi
theorem a2b {w : World} {g : Nat} {v : Value} {p : Nat -> Bool} (h : w.cell? ⟨g, 0, none⟩ = some v) (hk : KT w v p) : b1r w (some ⟨g, 0, none⟩) [p] := fun i hi => by
 obtain rfl : i = 0 := by simp at hi; omega
 exact ⟨g, 0, v, rfl, h, hk⟩
theorem Wd {w : World} {g : Nat} {v v' : Value} {p p' : Nat -> Bool} (h : w.cell? ⟨g, 0, none⟩ = some v) (h' : w.cell? ⟨g, 1, none⟩ = some v') (hk : KT w v p) (hk' : KT w v' p') : b1r w (some ⟨g, 0, none⟩) [p, p'] := fun i hi => by
 match i, hi with
 | 0, _ => exact ⟨g, 0, v, rfl, h, hk⟩
 | 1, _ => exact ⟨g, 0, v', rfl, h', hk'⟩
theorem c1r {w : World} {g : Nat} {v v' v'' : Value} {p p' p'' : Nat -> Bool} (h : w.cell? ⟨g, 0, none⟩ = some v) (h' : w.cell? ⟨g, 1, none⟩ = some v') (h'' : w.cell? ⟨g, 2, none⟩ = some v'') (hk : KT w v p) (hk' : KT w v' p') (hk'' : KT w v'' p'') : b1r w (some ⟨g, 0, none⟩) [p, p', p''] := fun i hi => by
 match i, hi with
 | 0, _ => exact ⟨g, 0, v, rfl, h, hk⟩
 | 1, _ => exact ⟨g, 0, v', rfl, h', hk'⟩
 | 2, _ => exact ⟨g, 0, v'', rfl, h'', hk''⟩
theorem Ja {w : World} {v : Value} {p : Nat -> Bool} (h : KT w v p) : ∃ f c, v = .func (.func f) #[] c := by
 obtain ⟨f, c, h, _⟩ := h;exact ⟨f, c, h⟩
theorem Cg {w : World} {v : Value} {p : List Nat -> Bool} (h : RT w v p) : ∃ f c, v = .func (.func f) #[] c := by
 obtain ⟨f, c, h, _⟩ := h;exact ⟨f, c, h⟩
def c2z (w : World) (p : List Nat -> Bool) (e : Ending) (w' : World) : Prop := ∃ v, e = .returned v ∧ RT w' v p ∧ Below w.heap.size w w'
theorem a6q {w w1 : World} {v0 v1 v2 v3 v4 v5 : Value} {O : Obj} (hb : Below ((w.alloc (.cells #[v0, v1, v2, v3, v4, v5] 37)).alloc O).heap.size ((w.alloc (.cells #[v0, v1, v2, v3, v4, v5] 37)).alloc O) w1) : w1.cell? ⟨w.heap.size, 0, none⟩ = some v0 ∧ w1.cell? ⟨w.heap.size, 4, none⟩ = some v4 :=
 ⟨Ac hb (by simp [go_sem]), Ac hb (by simp [go_sem])⟩
theorem a6o (K : Int) (hK : K = 1 ∨ K = 2 ∨ K = 3 ∨ K = 5 ∨ K = 20 ∨ K = 4 ∨ K = 6 ∨ K = 7 ∨ K = 8 ∨ K = 9 ∨ K = 10 ∨ K = 11 ∨ K = 13 ∨ K = 27 ∨ K = 12 ∨ K = 29 ∨ K = 30 ∨ K = 28 ∨ K = 31 ∨ K = 32) (ln cl sz num : Int) (tx : ByteArray) (w : World) (hnum : Bg num) : Calls prog 44 #[.agg #[.int .u8 K, .int .i64 ln, .int .i64 cl, .int .i64 sz, .int .i64 num, .string tx]] w (c2z w (Hl K.toNat num)) := by
 rcases hK with rfl | rfl | rfl | rfl | rfl | rfl | rfl | rfl | rfl | rfl | rfl | rfl | rfl | rfl | rfl | rfl | rfl | rfl | rfl | rfl
 all_goals
  go_enter func44, ntmps44;go_wp2_with fail;refine (Mo _ 1 1 [6] _ rfl (by omega) (Xq (by simp [go_sem]) (by omega))).mono ?_;rintro e w1 ⟨vb, rfl, kb, hb1⟩;obtain ⟨fb, cb, rfl⟩ := Ja kb;obtain ⟨d0, d4⟩ := a6q hb1;have B1 := zz (Ab (by go_grown) hb1 : Below w.heap.size w w1);replace kb := zz kb;clear hb1;go_wp2_with fail
 ·refine (Mo _ 2 2 [2, 4] _ rfl (by omega) (c2i (by simp [go_sem]) (by simp [go_sem]) (by omega) (by omega))).mono ?_;rintro e w2 ⟨va, rfl, ka, hb⟩;obtain ⟨fa, ca, rfl⟩ := Ja ka;have B2 := zz (Ab (Ab B1.out (Aa w1 (.cells #[.int .u8 2, .int .u8 4] 5))) hb);replace ka := zz ka;replace kb := zz ((kb.out.carry (Aa w1 (.cells #[.int .u8 2, .int .u8 4] 5))).carry hb);clear hb;go_wp2_with fail;refine (Jh _ _ _ ka.out).mono ?_;rintro e w3 ⟨vr, rfl, kr, hb⟩;obtain ⟨fr, cr, rfl⟩ := Cg kr;have B3 := zz (Ab B2.out hb);replace kr := zz kr;replace kb := zz (kb.out.carry hb);replace ka := zz (ka.out.carry hb);clear hb;go_wp2_with fail;go_ret;exact ⟨_, rfl, kr.out, B3.out⟩
 ·refine (Mo _ 1 1 [3] _ rfl (by omega) (Xq (by simp [go_sem]) (by omega))).mono ?_;rintro e w2 ⟨va, rfl, ka, hb⟩;obtain ⟨fa, ca, rfl⟩ := Ja ka;have B2 := zz (Ab (Ab B1.out (Aa w1 (.cells #[.int .u8 3] 5))) hb);replace ka := zz ka;replace kb := zz ((kb.out.carry (Aa w1 (.cells #[.int .u8 3] 5))).carry hb);clear hb;go_wp2_with fail;refine (Jh _ _ _ ka.out).mono ?_;rintro e w3 ⟨vr, rfl, kr, hb⟩;obtain ⟨fr, cr, rfl⟩ := Cg kr;have B3 := zz (Ab B2.out hb);replace kr := zz kr;replace kb := zz (kb.out.carry hb);replace ka := zz (ka.out.carry hb);clear hb;go_wp2_with fail;go_ret;exact ⟨_, rfl, kr.out, B3.out⟩
 iterate 3
  refine (C8 _ 1 1 _ _ rfl (by omega) (a2b (g := w1.heap.size) (v := .func (.func 75) #[] #[]) (by simp [go_sem]) (b1v _))).mono ?_;rintro e w2 ⟨vr, rfl, kr, hb⟩;obtain ⟨fr, cr, rfl⟩ := Cg kr;have B2 := zz (Ab (Ab B1.out (Aa w1 (.cells #[.func (.func 75) #[] #[]] 96))) hb);replace kr := zz kr;replace kb := zz ((kb.out.carry (Aa w1 (.cells #[.func (.func 75) #[] #[]] 96))).carry hb);clear hb;go_wp2_with fail;go_ret;exact ⟨_, rfl, kr.out, B2.out⟩
 ·go_region_held3 (fun w' => w'.cell? ⟨w.heap.size, 4, none⟩ = some (.int .i64 num)) (go_keep)
   (first
    | (go_at_call 72; refine (Mo _ 1 1 [5] _ rfl (by omega) (Xq (by simp [go_sem]) (by omega))).mono ?_; rintro e w2 ⟨va, rfl, ka, hb⟩; obtain ⟨fa, ca, rfl⟩ := Ja ka; have d5 := Ac (b := w.heap.size) (o := 4) hb (by first | exact Ae d4 _ | exact Ae (Ae d4 _) _); obtain ⟨hc, hf⟩ := Cr hb; have hz := hb.size; simp only [World.size_alloc, World.size_drew] at hc hf hz; have B2 := zz (Ab B1.out (Ab (by go_grown) hb)); replace kb := zz (kb.out.carry (Ab (by go_grown) hb)); replace ka := zz ka; clear hb)
    | (go_at_call 74; refine (C8 _ 2 2 [Fi, [6].contains] _ rfl (by omega) (Wd (v := .func (.func 77) #[] #[]) (v' := .func (.func fb) #[] cb) (by simp [go_sem, *]) (by simp [go_sem, *]) (b8h _) (kb.out.carry (by go_grown)))).mono ?_; rintro e w3 ⟨vr, rfl, kr, hb⟩; obtain ⟨fr, cr, rfl⟩ := Cg kr; have d6 := Ac (b := w.heap.size) (o := 4) hb (by first | exact d5 | exact Ae d5 _); have B3 := zz (Ab B2.out (Ab (by go_grown) hb)); replace ka := zz (ka.out.carry (Ab (by go_grown) hb)); replace kr := zz kr; clear hb)
    | (go_at_call 76; refine (Xp num hnum _ _ _ _ _ ka.out kr.out).mono ?_; rintro e w4 ⟨vl, rfl, kl, hb⟩; have d7 := Ac (b := w.heap.size) (o := 4) hb d6; have B4 := zz (Ab B3.out hb); replace kl := zz kl; clear hb))
  all_goals (go_wp2_with fail; go_ret; exact ⟨_, rfl, kl.out, B4.out⟩)
 ·refine (Jh _ _ _ (b3m _)).mono ?_;rintro e w2 ⟨vr, rfl, kr, hb⟩;obtain ⟨fr, cr, rfl⟩ := Cg kr;have B2 := zz (Ab B1.out hb);replace kr := zz kr;replace kb := zz (kb.out.carry hb);clear hb;go_wp2_with fail;go_ret;exact ⟨_, rfl, kr.out, B2.out⟩
 ·refine (C8 _ 2 2 _ _ rfl (by omega) (Wd (g := w1.heap.size) (v := .func (.func 75) #[] #[]) (v' := .func (.func 79) #[] #[]) (by simp [go_sem]) (by simp [go_sem]) (b1v _) (Kk _))).mono ?_;rintro e w2 ⟨vr, rfl, kr, hb⟩;obtain ⟨fr, cr, rfl⟩ := Cg kr;have B2 := zz (Ab (Ab B1.out (Aa w1 (.cells #[.func (.func 75) #[] #[], .func (.func 79) #[] #[]] 96))) hb);replace kr := zz kr;replace kb := zz ((kb.out.carry (Aa w1 (.cells #[.func (.func 75) #[] #[], .func (.func 79) #[] #[]] 96))).carry hb);clear hb;go_wp2_with fail;go_ret;exact ⟨_, rfl, kr.out, B2.out⟩
 ·refine (Mo _ 3 3 [26, 28, 29] _ rfl (by omega) (c2h (by simp [go_sem]) (by simp [go_sem]) (by simp [go_sem]) (by omega) (by omega) (by omega))).mono ?_;rintro e w2 ⟨va, rfl, ka, hb⟩;obtain ⟨fa, ca, rfl⟩ := Ja ka;have B2 := zz (Ab (Ab B1.out (Aa w1 (.cells #[.int .u8 26, .int .u8 28, .int .u8 29] 5))) hb);replace ka := zz ka;replace kb := zz ((kb.out.carry (Aa w1 (.cells #[.int .u8 26, .int .u8 28, .int .u8 29] 5))).carry hb);clear hb;go_wp2_with fail;refine (C8 _ 2 2 _ _ rfl (by omega) (Wd (g := w2.heap.size) (v := .func (.func fa) #[] ca) (v' := .func (.func 79) #[] #[]) (by simp [go_sem]) (by simp [go_sem]) (ka.out.carry (Aa w2 (.cells #[.func (.func fa) #[] ca, .func (.func 79) #[] #[]] 96))) (Kk _))).mono ?_;rintro e w3 ⟨vr, rfl, kr, hb⟩;obtain ⟨fr, cr, rfl⟩ := Cg kr;have B3 := zz (Ab (Ab B2.out (Aa w2 (.cells #[.func (.func fa) #[] ca, .func (.func 79) #[] #[]] 96))) hb);replace kr := zz kr;replace kb := zz ((kb.out.carry (Aa w2 (.cells #[.func (.func fa) #[] ca, .func (.func 79) #[] #[]] 96))).carry hb);replace ka := zz ((ka.out.carry (Aa w2 (.cells #[.func (.func fa) #[] ca, .func (.func 79) #[] #[]] 96))).carry hb);clear hb;go_wp2_with fail;go_ret;exact ⟨_, rfl, kr.out, B3.out⟩
 ·refine (C8 _ 2 2 _ _ rfl (by omega) (Wd (g := w1.heap.size) (v := .func (.func 79) #[] #[]) (v' := .func (.func fb) #[] cb) (by simp [go_sem]) (by simp [go_sem]) (Kk _) (kb.out.carry (Aa w1 (.cells #[.func (.func 79) #[] #[], .func (.func fb) #[] cb] 96))))).mono ?_;rintro e w2 ⟨va, rfl, ka, hb⟩;obtain ⟨fa, ca, rfl⟩ := Cg ka;have B2 := zz (Ab (Ab B1.out (Aa w1 (.cells #[.func (.func 79) #[] #[], .func (.func fb) #[] cb] 96))) hb);replace ka := zz ka;replace kb := zz ((kb.out.carry (Aa w1 (.cells #[.func (.func 79) #[] #[], .func (.func fb) #[] cb] 96))).carry hb);clear hb;go_wp2_with fail;refine (C8 _ 3 3 _ _ rfl (by omega) (c1r (g := w2.heap.size) (v := .func (.func 79) #[] #[]) (v' := .func (.func fb) #[] cb) (v'' := .func (.func fb) #[] cb) (by simp [go_sem]) (by simp [go_sem]) (by simp [go_sem]) (Kk _) (kb.out.carry (Aa w2 (.cells #[.func (.func 79) #[] #[], .func (.func fb) #[] cb, .func (.func fb) #[] cb] 96))) (kb.out.carry (Aa w2 (.cells #[.func (.func 79) #[] #[], .func (.func fb) #[] cb, .func (.func fb) #[] cb] 96))))).mono ?_;rintro e w3 ⟨vc, rfl, kc, hb⟩;obtain ⟨fc, cc, rfl⟩ := Cg kc;have B3 := zz (Ab (Ab B2.out (Aa w2 (.cells #[.func (.func 79) #[] #[], .func (.func fb) #[] cb, .func (.func fb) #[] cb] 96))) hb);replace kc := zz kc;replace kb := zz ((kb.out.carry (Aa w2 (.cells #[.func (.func 79) #[] #[], .func (.func fb) #[] cb, .func (.func fb) #[] cb] 96))).carry hb);replace ka := zz ((ka.out.carry (Aa w2 (.cells #[.func (.func 79) #[] #[], .func (.func fb) #[] cb, .func (.func fb) #[] cb] 96))).carry hb);clear hb;go_wp2_with fail;refine (Ng _ _ _ _ _ ka.out kc.out).mono ?_;rintro e w4 ⟨vr, rfl, kr, hb⟩;obtain ⟨fr, cr, rfl⟩ := Cg kr;have B4 := zz (Ab B3.out hb);replace kr := zz kr;replace kb := zz (kb.out.carry hb);replace ka := zz (ka.out.carry hb);replace kc := zz (kc.out.carry hb);clear hb;go_wp2_with fail;go_ret;exact ⟨_, rfl, kr.out, B4.out⟩
 ·refine (C8 _ 2 2 _ _ rfl (by omega) (Wd (g := w1.heap.size) (v := .func (.func 79) #[] #[]) (v' := .func (.func fb) #[] cb) (by simp [go_sem]) (by simp [go_sem]) (Kk _) (kb.out.carry (Aa w1 (.cells #[.func (.func 79) #[] #[], .func (.func fb) #[] cb] 96))))).mono ?_;rintro e w2 ⟨vr, rfl, kr, hb⟩;obtain ⟨fr, cr, rfl⟩ := Cg kr;have B2 := zz (Ab (Ab B1.out (Aa w1 (.cells #[.func (.func 79) #[] #[], .func (.func fb) #[] cb] 96))) hb);replace kr := zz kr;replace kb := zz ((kb.out.carry (Aa w1 (.cells #[.func (.func 79) #[] #[], .func (.func fb) #[] cb] 96))).carry hb);clear hb;go_wp2_with fail;go_ret;exact ⟨_, rfl, kr.out, B2.out⟩
 ·refine (C8 _ 0 0 [] _ rfl (by omega) b7b).mono ?_;rintro e w2 ⟨va, rfl, ka, hb⟩;obtain ⟨fa, ca, rfl⟩ := Cg ka;have B2 := zz (Ab B1.out hb);replace ka := zz ka;replace kb := zz (kb.out.carry hb);clear hb;go_wp2_with fail;refine (C8 _ 1 1 _ _ rfl (by omega) (a2b (g := w2.heap.size) (v := .func (.func 79) #[] #[]) (by simp [go_sem]) (Kk _))).mono ?_;rintro e w3 ⟨vc, rfl, kc, hb⟩;obtain ⟨fc, cc, rfl⟩ := Cg kc;have B3 := zz (Ab (Ab B2.out (Aa w2 (.cells #[.func (.func 79) #[] #[]] 96))) hb);replace kc := zz kc;replace kb := zz ((kb.out.carry (Aa w2 (.cells #[.func (.func 79) #[] #[]] 96))).carry hb);replace ka := zz ((ka.out.carry (Aa w2 (.cells #[.func (.func 79) #[] #[]] 96))).carry hb);clear hb;go_wp2_with fail;refine (Ng _ _ _ _ _ ka.out kc.out).mono ?_;rintro e w4 ⟨vr, rfl, kr, hb⟩;obtain ⟨fr, cr, rfl⟩ := Cg kr;have B4 := zz (Ab B3.out hb);replace kr := zz kr;replace kb := zz (kb.out.carry hb);replace ka := zz (ka.out.carry hb);replace kc := zz (kc.out.carry hb);clear hb;go_wp2_with fail;go_ret;exact ⟨_, rfl, kr.out, B4.out⟩
 ·refine (Mo _ 1 1 [27] _ rfl (by omega) (Xq (by simp [go_sem]) (by omega))).mono ?_;rintro e w2 ⟨va, rfl, ka, hb⟩;obtain ⟨fa, ca, rfl⟩ := Ja ka;have B2 := zz (Ab (Ab B1.out (Aa w1 (.cells #[.int .u8 27] 5))) hb);replace ka := zz ka;replace kb := zz ((kb.out.carry (Aa w1 (.cells #[.int .u8 27] 5))).carry hb);clear hb;go_wp2_with fail;refine (C8 _ 1 1 _ _ rfl (by omega) (a2b (g := w2.heap.size) (v := .func (.func fa) #[] ca) (by simp [go_sem]) (ka.out.carry (Aa w2 (.cells #[.func (.func fa) #[] ca] 96))))).mono ?_;rintro e w3 ⟨vr, rfl, kr, hb⟩;obtain ⟨fr, cr, rfl⟩ := Cg kr;have B3 := zz (Ab (Ab B2.out (Aa w2 (.cells #[.func (.func fa) #[] ca] 96))) hb);replace kr := zz kr;replace kb := zz ((kb.out.carry (Aa w2 (.cells #[.func (.func fa) #[] ca] 96))).carry hb);replace ka := zz ((ka.out.carry (Aa w2 (.cells #[.func (.func fa) #[] ca] 96))).carry hb);clear hb;go_wp2_with fail;go_ret;exact ⟨_, rfl, kr.out, B3.out⟩
 ·refine (Jh _ _ _ (Kk _)).mono ?_;rintro e w2 ⟨vr, rfl, kr, hb⟩;obtain ⟨fr, cr, rfl⟩ := Cg kr;have B2 := zz (Ab B1.out hb);replace kr := zz kr;replace kb := zz (kb.out.carry hb);clear hb;go_wp2_with fail;go_ret;exact ⟨_, rfl, kr.out, B2.out⟩
 iterate 3
  refine (C8 _ 1 1 _ _ rfl (by omega) (a2b (g := w1.heap.size) (v := .func (.func 79) #[] #[]) (by simp [go_sem]) (Kk _))).mono ?_;rintro e w2 ⟨vr, rfl, kr, hb⟩;obtain ⟨fr, cr, rfl⟩ := Cg kr;have B2 := zz (Ab (Ab B1.out (Aa w1 (.cells #[.func (.func 79) #[] #[]] 96))) hb);replace kr := zz kr;replace kb := zz ((kb.out.carry (Aa w1 (.cells #[.func (.func 79) #[] #[]] 96))).carry hb);clear hb;go_wp2_with fail;go_ret;exact ⟨_, rfl, kr.out, B2.out⟩
 iterate 2
  refine (C8 _ 2 2 _ _ rfl (by omega) (Wd (g := w1.heap.size) (v := .func (.func 79) #[] #[]) (v' := .func (.func 79) #[] #[]) (by simp [go_sem]) (by simp [go_sem]) (Kk _) (Kk _))).mono ?_;rintro e w2 ⟨vr, rfl, kr, hb⟩;obtain ⟨fr, cr, rfl⟩ := Cg kr;have B2 := zz (Ab (Ab B1.out (Aa w1 (.cells #[.func (.func 79) #[] #[], .func (.func 79) #[] #[]] 96))) hb);replace kr := zz kr;replace kb := zz ((kb.out.carry (Aa w1 (.cells #[.func (.func 79) #[] #[], .func (.func 79) #[] #[]] 96))).carry hb);clear hb;go_wp2_with fail;go_ret;exact ⟨_, rfl, kr.out, B2.out⟩
 ·refine (Mo _ 1 1 [19] _ rfl (by omega) (Xq (by simp [go_sem]) (by omega))).mono ?_;rintro e w2 ⟨va, rfl, ka, hb⟩;obtain ⟨fa, ca, rfl⟩ := Ja ka;have B2 := zz (Ab (Ab B1.out (Aa w1 (.cells #[.int .u8 19] 5))) hb);replace ka := zz ka;replace kb := zz ((kb.out.carry (Aa w1 (.cells #[.int .u8 19] 5))).carry hb);clear hb;go_wp2_with fail;refine (C8 _ 1 1 _ _ rfl (by omega) (a2b (g := w2.heap.size) (v := .func (.func fa) #[] ca) (by simp [go_sem]) (ka.out.carry (Aa w2 (.cells #[.func (.func fa) #[] ca] 96))))).mono ?_;rintro e w3 ⟨vc, rfl, kc, hb⟩;obtain ⟨fc, cc, rfl⟩ := Cg kc;have B3 := zz (Ab (Ab B2.out (Aa w2 (.cells #[.func (.func fa) #[] ca] 96))) hb);replace kc := zz kc;replace kb := zz ((kb.out.carry (Aa w2 (.cells #[.func (.func fa) #[] ca] 96))).carry hb);replace ka := zz ((ka.out.carry (Aa w2 (.cells #[.func (.func fa) #[] ca] 96))).carry hb);clear hb;go_wp2_with fail;refine (Mo _ 1 1 [20] _ rfl (by omega) (Xq (by simp [go_sem]) (by omega))).mono ?_;rintro e w4 ⟨vd, rfl, kd, hb⟩;obtain ⟨fd, cd, rfl⟩ := Ja kd;have B4 := zz (Ab (Ab B3.out (Aa w3 (.cells #[.int .u8 20] 5))) hb);replace kd := zz kd;replace kb := zz ((kb.out.carry (Aa w3 (.cells #[.int .u8 20] 5))).carry hb);replace ka := zz ((ka.out.carry (Aa w3 (.cells #[.int .u8 20] 5))).carry hb);replace kc := zz ((kc.out.carry (Aa w3 (.cells #[.int .u8 20] 5))).carry hb);clear hb;go_wp2_with fail;refine (C8 _ 2 2 _ _ rfl (by omega) (Wd (g := w4.heap.size) (v := .func (.func fd) #[] cd) (v' := .func (.func 79) #[] #[]) (by simp [go_sem]) (by simp [go_sem]) (kd.out.carry (Aa w4 (.cells #[.func (.func fd) #[] cd, .func (.func 79) #[] #[]] 96))) (Kk _))).mono ?_;rintro e w5 ⟨vf, rfl, kf, hb⟩;obtain ⟨ff, cf, rfl⟩ := Cg kf;have B5 := zz (Ab (Ab B4.out (Aa w4 (.cells #[.func (.func fd) #[] cd, .func (.func 79) #[] #[]] 96))) hb);replace kf := zz kf;replace kb := zz ((kb.out.carry (Aa w4 (.cells #[.func (.func fd) #[] cd, .func (.func 79) #[] #[]] 96))).carry hb);replace ka := zz ((ka.out.carry (Aa w4 (.cells #[.func (.func fd) #[] cd, .func (.func 79) #[] #[]] 96))).carry hb);replace kc := zz ((kc.out.carry (Aa w4 (.cells #[.func (.func fd) #[] cd, .func (.func 79) #[] #[]] 96))).carry hb);replace kd := zz ((kd.out.carry (Aa w4 (.cells #[.func (.func fd) #[] cd, .func (.func 79) #[] #[]] 96))).carry hb);clear hb;go_wp2_with fail;refine (Ng _ _ _ _ _ kc.out kf.out).mono ?_;rintro e w6 ⟨vr, rfl, kr, hb⟩;obtain ⟨fr, cr, rfl⟩ := Cg kr;have B6 := zz (Ab B5.out hb);replace kr := zz kr;replace kb := zz (kb.out.carry hb);replace ka := zz (ka.out.carry hb);replace kc := zz (kc.out.carry hb);replace kd := zz (kd.out.carry hb);replace kf := zz (kf.out.carry hb);clear hb;go_wp2_with fail;go_ret;exact ⟨_, rfl, kr.out, B6.out⟩
theorem a1o (k : Nat) (hk : k ≠ 1 ∧ k ≠ 2 ∧ k ≠ 3 ∧ k ≠ 5 ∧ k ≠ 20 ∧ k ≠ 4 ∧ k ≠ 6 ∧ k ≠ 7 ∧ k ≠ 8 ∧ k ≠ 9 ∧ k ≠ 10 ∧ k ≠ 11 ∧ k ≠ 13 ∧ k ≠ 27 ∧ k ≠ 12 ∧ k ≠ 29 ∧ k ≠ 30 ∧ k ≠ 28 ∧ k ≠ 31 ∧ k ≠ 32) (ln cl sz num : Int) (tx : ByteArray) (w : World) (hnum : Bg num) : Calls prog 44 #[.agg #[.int .u8 (k : Nat), .int .i64 ln, .int .i64 cl, .int .i64 sz, .int .i64 num, .string tx]] w (c2z w (Ak [])) := by
 have e1 : ((k : Int) == 1) = false := by rw [beq_eq_false_iff_ne]; omega
 have e2 : ((k : Int) == 2) = false := by rw [beq_eq_false_iff_ne]; omega
 have e3 : ((k : Int) == 3) = false := by rw [beq_eq_false_iff_ne]; omega
 have e5 : ((k : Int) == 5) = false := by rw [beq_eq_false_iff_ne]; omega
 have e20 : ((k : Int) == 20) = false := by rw [beq_eq_false_iff_ne]; omega
 have e4 : ((k : Int) == 4) = false := by rw [beq_eq_false_iff_ne]; omega
 have e6 : ((k : Int) == 6) = false := by rw [beq_eq_false_iff_ne]; omega
 have e7 : ((k : Int) == 7) = false := by rw [beq_eq_false_iff_ne]; omega
 have e8 : ((k : Int) == 8) = false := by rw [beq_eq_false_iff_ne]; omega
 have e9 : ((k : Int) == 9) = false := by rw [beq_eq_false_iff_ne]; omega
 have e10 : ((k : Int) == 10) = false := by rw [beq_eq_false_iff_ne]; omega
 have e11 : ((k : Int) == 11) = false := by rw [beq_eq_false_iff_ne]; omega
 have e13 : ((k : Int) == 13) = false := by rw [beq_eq_false_iff_ne]; omega
 have e27 : ((k : Int) == 27) = false := by rw [beq_eq_false_iff_ne]; omega
 have e12 : ((k : Int) == 12) = false := by rw [beq_eq_false_iff_ne]; omega
 have e29 : ((k : Int) == 29) = false := by rw [beq_eq_false_iff_ne]; omega
 have e30 : ((k : Int) == 30) = false := by rw [beq_eq_false_iff_ne]; omega
 have e28 : ((k : Int) == 28) = false := by rw [beq_eq_false_iff_ne]; omega
 have e31 : ((k : Int) == 31) = false := by rw [beq_eq_false_iff_ne]; omega
 have e32 : ((k : Int) == 32) = false := by rw [beq_eq_false_iff_ne]; omega
 clear hk;have hA := zz (by go_grown : Below w.heap.size w ((w.alloc (.cells #[.int .u8 (k : Nat), .int .i64 ln, .int .i64 cl, .int .i64 sz, .int .i64 num, .string tx] 37)).alloc (.cells #[.int .u8 6] 5)));go_enter func44, ntmps44;go_wp2_with fail;refine (Mo _ 1 1 [6] _ rfl (by omega) (Xq (by simp [go_sem]) (by omega))).mono ?_;rintro e w1 ⟨vb, rfl, kb, hb1⟩;obtain ⟨fb, cb, rfl⟩ := Ja kb;have d0 : w1.cell? ⟨w.heap.size, 0, none⟩ = some (.int .u8 (k : Nat)) := Ac hb1 (by simp [go_sem]);have d4 : w1.cell? ⟨w.heap.size, 4, none⟩ = some (.int .i64 num) := Ac hb1 (by simp [go_sem]);have B1 := zz (Ab hA.out hb1);replace kb := zz kb;clear hb1 hA;go_wp2_with fail;refine (C8 _ 0 0 [] _ rfl (by omega) b7b).mono ?_;rintro e w2 ⟨vr, rfl, kr, hb⟩;obtain ⟨fr, cr, rfl⟩ := Cg kr;have B2 := zz (Ab B1.out hb);replace kr := zz kr;replace kb := zz (kb.out.carry hb);clear hb;go_wp2_with fail;go_ret;exact ⟨_, rfl, kr.out, B2.out⟩
end
end Go.Proofs.YtoaplbljflhheaaGreat
