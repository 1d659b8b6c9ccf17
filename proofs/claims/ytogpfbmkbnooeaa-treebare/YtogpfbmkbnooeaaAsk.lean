/-
  Contract of tree.askedOf: what a node's children must be, by its kind. Conditions: the node's fields fit their kinds.
-/
import Derived.Test.YtogpfbmkbnooeaaLd
namespace Go.Proofs.Ytogpfbmkbnooeaa
open Go.RowKit
set_option linter.unusedVariables false

def askB (k : Nat) (num : Int) : List Nat → Bool := match k with
  | 1 => fun ks => ks.all [2, 4].contains
  | 2 => fun ks => ks.all [3].contains
  | 3 => justB [isTyp]
  | 5 => justB [isTyp]
  | 20 => justB [isTyp]
  | 4 => leadB num [5].contains (justB [isRes, [6].contains])
  | 6 => fun ks => ks.all isStmt
  | 7 => justB [isTyp, isExp]
  | 8 => justB [[26, 28, 29].contains, isExp]
  | 9 => fun ks => justB [isExp, [6].contains] ks || justB [isExp, [6].contains, [6].contains] ks
  | 10 => justB [isExp, [6].contains]
  | 11 => fun ks => justB [] ks || justB [isExp] ks
  | 13 => justB [[27].contains]
  | 27 => fun ks => ks.all isExp
  | 12 => justB [isExp]
  | 29 => justB [isExp]
  | 30 => justB [isExp]
  | 28 => justB [isExp, isExp]
  | 31 => justB [isExp, isExp]
  | 32 => fun ks => justB [[19].contains] ks || justB [[20].contains, isExp] ks
  | _ => justB []

theorem krow1 {w : World} {g : Nat} {a : Nat} (h : w.cell? ⟨g, 0, none⟩ = some (.int .u8 (a : Nat))) (ha : a < 256) : KRow w (some ⟨g, 0, none⟩) [a] := fun i hi => by
  obtain rfl : i = 0 := by simp at hi; omega
  exact ⟨g, 0, rfl, h, ha⟩
theorem krow2 {w : World} {g : Nat} {a b : Nat} (h : w.cell? ⟨g, 0, none⟩ = some (.int .u8 (a : Nat))) (h' : w.cell? ⟨g, 1, none⟩ = some (.int .u8 (b : Nat))) (ha : a < 256) (hb : b < 256) : KRow w (some ⟨g, 0, none⟩) [a, b] := fun i hi => by
  match i, hi with
  | 0, _ => exact ⟨g, 0, rfl, h, ha⟩
  | 1, _ => exact ⟨g, 0, rfl, h', hb⟩
theorem krow3 {w : World} {g : Nat} {a b c : Nat} (h : w.cell? ⟨g, 0, none⟩ = some (.int .u8 (a : Nat))) (h' : w.cell? ⟨g, 1, none⟩ = some (.int .u8 (b : Nat))) (h'' : w.cell? ⟨g, 2, none⟩ = some (.int .u8 (c : Nat))) (ha : a < 256) (hb : b < 256) (hc : c < 256) : KRow w (some ⟨g, 0, none⟩) [a, b, c] := fun i hi => by
  match i, hi with
  | 0, _ => exact ⟨g, 0, rfl, h, ha⟩
  | 1, _ => exact ⟨g, 0, rfl, h', hb⟩
  | 2, _ => exact ⟨g, 0, rfl, h'', hc⟩
theorem trow0 {w : World} {a : Option Addr} : TRow w a [] := fun i hi => by simp at hi
theorem trow1 {w : World} {g : Nat} {v : Value} {p : Nat → Bool} (h : w.cell? ⟨g, 0, none⟩ = some v) (hk : KT w v p) : TRow w (some ⟨g, 0, none⟩) [p] := fun i hi => by
  obtain rfl : i = 0 := by simp at hi; omega
  exact ⟨g, 0, v, rfl, h, hk⟩
theorem trow2 {w : World} {g : Nat} {v v' : Value} {p p' : Nat → Bool} (h : w.cell? ⟨g, 0, none⟩ = some v) (h' : w.cell? ⟨g, 1, none⟩ = some v') (hk : KT w v p) (hk' : KT w v' p') : TRow w (some ⟨g, 0, none⟩) [p, p'] := fun i hi => by
  match i, hi with
  | 0, _ => exact ⟨g, 0, v, rfl, h, hk⟩
  | 1, _ => exact ⟨g, 0, v', rfl, h', hk'⟩
theorem trow3 {w : World} {g : Nat} {v v' v'' : Value} {p p' p'' : Nat → Bool} (h : w.cell? ⟨g, 0, none⟩ = some v) (h' : w.cell? ⟨g, 1, none⟩ = some v') (h'' : w.cell? ⟨g, 2, none⟩ = some v'') (hk : KT w v p) (hk' : KT w v' p') (hk'' : KT w v'' p'') : TRow w (some ⟨g, 0, none⟩) [p, p', p''] := fun i hi => by
  match i, hi with
  | 0, _ => exact ⟨g, 0, v, rfl, h, hk⟩
  | 1, _ => exact ⟨g, 0, v', rfl, h', hk'⟩
  | 2, _ => exact ⟨g, 0, v'', rfl, h'', hk''⟩

theorem kt_form {w : World} {v : Value} {p : Nat → Bool} (h : KT w v p) : ∃ f c, v = .func (.func f) #[] c := by
  obtain ⟨f, c, h, _⟩ := h
  exact ⟨f, c, h⟩
theorem rt_form {w : World} {v : Value} {p : List Nat → Bool} (h : RT w v p) : ∃ f c, v = .func (.func f) #[] c := by
  obtain ⟨f, c, h, _⟩ := h
  exact ⟨f, c, h⟩

/-- What askedOf answers. -/
def RetR (w : World) (p : List Nat → Bool) (e : Ending) (w' : World) : Prop := ∃ v, e = .returned v ∧ RT w' v p ∧ Below w.heap.size w w'


set_option maxHeartbeats 1000000 in
set_option maxRecDepth 100000 in
theorem asked_1 (ln cl sz num : Int) (tx : ByteArray) (w : World) (hnum : i64In num) : Calls Try.prog 31 #[.agg #[.int .u8 1, .int .i64 ln, .int .i64 cl, .int .i64 sz, .int .i64 num, .string tx]] w (RetR w (askB 1 num)) := by
  have hA := Lib.hid (by go_grown : Below w.heap.size w ((w.alloc (.cells #[.int .u8 1, .int .i64 ln, .int .i64 cl, .int .i64 sz, .int .i64 num, .string tx] 31)).alloc (.cells #[.int .u8 6] 5)))
  go_enter Try.func31, Try.ntmps31
  go_wp2_with fail
  refine (is_any _ 1 1 [6] _ rfl (by omega) (krow1 (by simp [go_sem]) (by omega))).mono ?_
  rintro e w1 ⟨vb, rfl, kb, hb1⟩
  obtain ⟨fb, cb, rfl⟩ := kt_form kb
  have d0 : w1.cell? ⟨w.heap.size, 0, none⟩ = some (.int .u8 1) := cell_carry hb1 (by simp [go_sem])
  have d4 : w1.cell? ⟨w.heap.size, 4, none⟩ = some (.int .i64 num) := cell_carry hb1 (by simp [go_sem])
  have B1 := Lib.hid (below_step hA.out hb1)
  replace kb := Lib.hid kb
  clear hb1 hA
  go_wp2_with fail
  refine (is_any _ 2 2 [2, 4] _ rfl (by omega) (krow2 (by simp [go_sem]) (by simp [go_sem]) (by omega) (by omega))).mono ?_
  rintro e w2 ⟨va, rfl, ka, hb⟩
  obtain ⟨fa, ca, rfl⟩ := kt_form ka
  have B2 := Lib.hid (below_step (below_step B1.out (below_alloc w1 (.cells #[.int .u8 2, .int .u8 4] 5))) hb)
  replace ka := Lib.hid ka
  replace kb := Lib.hid ((kb.out.carry (below_alloc w1 (.cells #[.int .u8 2, .int .u8 4] 5))).carry hb)
  clear hb
  go_wp2_with fail
  refine (each_any _ _ _ ka.out).mono ?_
  rintro e w3 ⟨vr, rfl, kr, hb⟩
  obtain ⟨fr, cr, rfl⟩ := rt_form kr
  have B3 := Lib.hid (below_step B2.out hb)
  replace kr := Lib.hid kr
  replace kb := Lib.hid (kb.out.carry hb)
  replace ka := Lib.hid (ka.out.carry hb)
  clear hb
  go_wp2_with fail
  go_ret
  exact ⟨_, rfl, kr.out, B3.out⟩

set_option maxHeartbeats 1000000 in
set_option maxRecDepth 100000 in
theorem asked_2 (ln cl sz num : Int) (tx : ByteArray) (w : World) (hnum : i64In num) : Calls Try.prog 31 #[.agg #[.int .u8 2, .int .i64 ln, .int .i64 cl, .int .i64 sz, .int .i64 num, .string tx]] w (RetR w (askB 2 num)) := by
  have hA := Lib.hid (by go_grown : Below w.heap.size w ((w.alloc (.cells #[.int .u8 2, .int .i64 ln, .int .i64 cl, .int .i64 sz, .int .i64 num, .string tx] 31)).alloc (.cells #[.int .u8 6] 5)))
  go_enter Try.func31, Try.ntmps31
  go_wp2_with fail
  refine (is_any _ 1 1 [6] _ rfl (by omega) (krow1 (by simp [go_sem]) (by omega))).mono ?_
  rintro e w1 ⟨vb, rfl, kb, hb1⟩
  obtain ⟨fb, cb, rfl⟩ := kt_form kb
  have d0 : w1.cell? ⟨w.heap.size, 0, none⟩ = some (.int .u8 2) := cell_carry hb1 (by simp [go_sem])
  have d4 : w1.cell? ⟨w.heap.size, 4, none⟩ = some (.int .i64 num) := cell_carry hb1 (by simp [go_sem])
  have B1 := Lib.hid (below_step hA.out hb1)
  replace kb := Lib.hid kb
  clear hb1 hA
  go_wp2_with fail
  refine (is_any _ 1 1 [3] _ rfl (by omega) (krow1 (by simp [go_sem]) (by omega))).mono ?_
  rintro e w2 ⟨va, rfl, ka, hb⟩
  obtain ⟨fa, ca, rfl⟩ := kt_form ka
  have B2 := Lib.hid (below_step (below_step B1.out (below_alloc w1 (.cells #[.int .u8 3] 5))) hb)
  replace ka := Lib.hid ka
  replace kb := Lib.hid ((kb.out.carry (below_alloc w1 (.cells #[.int .u8 3] 5))).carry hb)
  clear hb
  go_wp2_with fail
  refine (each_any _ _ _ ka.out).mono ?_
  rintro e w3 ⟨vr, rfl, kr, hb⟩
  obtain ⟨fr, cr, rfl⟩ := rt_form kr
  have B3 := Lib.hid (below_step B2.out hb)
  replace kr := Lib.hid kr
  replace kb := Lib.hid (kb.out.carry hb)
  replace ka := Lib.hid (ka.out.carry hb)
  clear hb
  go_wp2_with fail
  go_ret
  exact ⟨_, rfl, kr.out, B3.out⟩

set_option maxHeartbeats 1000000 in
set_option maxRecDepth 100000 in
theorem asked_3 (ln cl sz num : Int) (tx : ByteArray) (w : World) (hnum : i64In num) : Calls Try.prog 31 #[.agg #[.int .u8 3, .int .i64 ln, .int .i64 cl, .int .i64 sz, .int .i64 num, .string tx]] w (RetR w (askB 3 num)) := by
  have hA := Lib.hid (by go_grown : Below w.heap.size w ((w.alloc (.cells #[.int .u8 3, .int .i64 ln, .int .i64 cl, .int .i64 sz, .int .i64 num, .string tx] 31)).alloc (.cells #[.int .u8 6] 5)))
  go_enter Try.func31, Try.ntmps31
  go_wp2_with fail
  refine (is_any _ 1 1 [6] _ rfl (by omega) (krow1 (by simp [go_sem]) (by omega))).mono ?_
  rintro e w1 ⟨vb, rfl, kb, hb1⟩
  obtain ⟨fb, cb, rfl⟩ := kt_form kb
  have d0 : w1.cell? ⟨w.heap.size, 0, none⟩ = some (.int .u8 3) := cell_carry hb1 (by simp [go_sem])
  have d4 : w1.cell? ⟨w.heap.size, 4, none⟩ = some (.int .i64 num) := cell_carry hb1 (by simp [go_sem])
  have B1 := Lib.hid (below_step hA.out hb1)
  replace kb := Lib.hid kb
  clear hb1 hA
  go_wp2_with fail
  refine (just_any _ 1 1 _ _ rfl (by omega) (trow1 (g := w1.heap.size) (v := .func (.func 47) #[] #[]) (by simp [go_sem]) (typ_kt _))).mono ?_
  rintro e w2 ⟨vr, rfl, kr, hb⟩
  obtain ⟨fr, cr, rfl⟩ := rt_form kr
  have B2 := Lib.hid (below_step (below_step B1.out (below_alloc w1 (.cells #[.func (.func 47) #[] #[]] 50))) hb)
  replace kr := Lib.hid kr
  replace kb := Lib.hid ((kb.out.carry (below_alloc w1 (.cells #[.func (.func 47) #[] #[]] 50))).carry hb)
  clear hb
  go_wp2_with fail
  go_ret
  exact ⟨_, rfl, kr.out, B2.out⟩

set_option maxHeartbeats 1000000 in
set_option maxRecDepth 100000 in
theorem asked_5 (ln cl sz num : Int) (tx : ByteArray) (w : World) (hnum : i64In num) : Calls Try.prog 31 #[.agg #[.int .u8 5, .int .i64 ln, .int .i64 cl, .int .i64 sz, .int .i64 num, .string tx]] w (RetR w (askB 5 num)) := by
  have hA := Lib.hid (by go_grown : Below w.heap.size w ((w.alloc (.cells #[.int .u8 5, .int .i64 ln, .int .i64 cl, .int .i64 sz, .int .i64 num, .string tx] 31)).alloc (.cells #[.int .u8 6] 5)))
  go_enter Try.func31, Try.ntmps31
  go_wp2_with fail
  refine (is_any _ 1 1 [6] _ rfl (by omega) (krow1 (by simp [go_sem]) (by omega))).mono ?_
  rintro e w1 ⟨vb, rfl, kb, hb1⟩
  obtain ⟨fb, cb, rfl⟩ := kt_form kb
  have d0 : w1.cell? ⟨w.heap.size, 0, none⟩ = some (.int .u8 5) := cell_carry hb1 (by simp [go_sem])
  have d4 : w1.cell? ⟨w.heap.size, 4, none⟩ = some (.int .i64 num) := cell_carry hb1 (by simp [go_sem])
  have B1 := Lib.hid (below_step hA.out hb1)
  replace kb := Lib.hid kb
  clear hb1 hA
  go_wp2_with fail
  refine (just_any _ 1 1 _ _ rfl (by omega) (trow1 (g := w1.heap.size) (v := .func (.func 47) #[] #[]) (by simp [go_sem]) (typ_kt _))).mono ?_
  rintro e w2 ⟨vr, rfl, kr, hb⟩
  obtain ⟨fr, cr, rfl⟩ := rt_form kr
  have B2 := Lib.hid (below_step (below_step B1.out (below_alloc w1 (.cells #[.func (.func 47) #[] #[]] 50))) hb)
  replace kr := Lib.hid kr
  replace kb := Lib.hid ((kb.out.carry (below_alloc w1 (.cells #[.func (.func 47) #[] #[]] 50))).carry hb)
  clear hb
  go_wp2_with fail
  go_ret
  exact ⟨_, rfl, kr.out, B2.out⟩

set_option maxHeartbeats 1000000 in
set_option maxRecDepth 100000 in
theorem asked_20 (ln cl sz num : Int) (tx : ByteArray) (w : World) (hnum : i64In num) : Calls Try.prog 31 #[.agg #[.int .u8 20, .int .i64 ln, .int .i64 cl, .int .i64 sz, .int .i64 num, .string tx]] w (RetR w (askB 20 num)) := by
  have hA := Lib.hid (by go_grown : Below w.heap.size w ((w.alloc (.cells #[.int .u8 20, .int .i64 ln, .int .i64 cl, .int .i64 sz, .int .i64 num, .string tx] 31)).alloc (.cells #[.int .u8 6] 5)))
  go_enter Try.func31, Try.ntmps31
  go_wp2_with fail
  refine (is_any _ 1 1 [6] _ rfl (by omega) (krow1 (by simp [go_sem]) (by omega))).mono ?_
  rintro e w1 ⟨vb, rfl, kb, hb1⟩
  obtain ⟨fb, cb, rfl⟩ := kt_form kb
  have d0 : w1.cell? ⟨w.heap.size, 0, none⟩ = some (.int .u8 20) := cell_carry hb1 (by simp [go_sem])
  have d4 : w1.cell? ⟨w.heap.size, 4, none⟩ = some (.int .i64 num) := cell_carry hb1 (by simp [go_sem])
  have B1 := Lib.hid (below_step hA.out hb1)
  replace kb := Lib.hid kb
  clear hb1 hA
  go_wp2_with fail
  refine (just_any _ 1 1 _ _ rfl (by omega) (trow1 (g := w1.heap.size) (v := .func (.func 47) #[] #[]) (by simp [go_sem]) (typ_kt _))).mono ?_
  rintro e w2 ⟨vr, rfl, kr, hb⟩
  obtain ⟨fr, cr, rfl⟩ := rt_form kr
  have B2 := Lib.hid (below_step (below_step B1.out (below_alloc w1 (.cells #[.func (.func 47) #[] #[]] 50))) hb)
  replace kr := Lib.hid kr
  replace kb := Lib.hid ((kb.out.carry (below_alloc w1 (.cells #[.func (.func 47) #[] #[]] 50))).carry hb)
  clear hb
  go_wp2_with fail
  go_ret
  exact ⟨_, rfl, kr.out, B2.out⟩

set_option maxHeartbeats 1000000 in
set_option maxRecDepth 100000 in
theorem asked_6 (ln cl sz num : Int) (tx : ByteArray) (w : World) (hnum : i64In num) : Calls Try.prog 31 #[.agg #[.int .u8 6, .int .i64 ln, .int .i64 cl, .int .i64 sz, .int .i64 num, .string tx]] w (RetR w (askB 6 num)) := by
  have hA := Lib.hid (by go_grown : Below w.heap.size w ((w.alloc (.cells #[.int .u8 6, .int .i64 ln, .int .i64 cl, .int .i64 sz, .int .i64 num, .string tx] 31)).alloc (.cells #[.int .u8 6] 5)))
  go_enter Try.func31, Try.ntmps31
  go_wp2_with fail
  refine (is_any _ 1 1 [6] _ rfl (by omega) (krow1 (by simp [go_sem]) (by omega))).mono ?_
  rintro e w1 ⟨vb, rfl, kb, hb1⟩
  obtain ⟨fb, cb, rfl⟩ := kt_form kb
  have d0 : w1.cell? ⟨w.heap.size, 0, none⟩ = some (.int .u8 6) := cell_carry hb1 (by simp [go_sem])
  have d4 : w1.cell? ⟨w.heap.size, 4, none⟩ = some (.int .i64 num) := cell_carry hb1 (by simp [go_sem])
  have B1 := Lib.hid (below_step hA.out hb1)
  replace kb := Lib.hid kb
  clear hb1 hA
  go_wp2_with fail
  refine (each_any _ _ _ (stmt_kt _)).mono ?_
  rintro e w2 ⟨vr, rfl, kr, hb⟩
  obtain ⟨fr, cr, rfl⟩ := rt_form kr
  have B2 := Lib.hid (below_step B1.out hb)
  replace kr := Lib.hid kr
  replace kb := Lib.hid (kb.out.carry hb)
  clear hb
  go_wp2_with fail
  go_ret
  exact ⟨_, rfl, kr.out, B2.out⟩

set_option maxHeartbeats 1000000 in
set_option maxRecDepth 100000 in
theorem asked_7 (ln cl sz num : Int) (tx : ByteArray) (w : World) (hnum : i64In num) : Calls Try.prog 31 #[.agg #[.int .u8 7, .int .i64 ln, .int .i64 cl, .int .i64 sz, .int .i64 num, .string tx]] w (RetR w (askB 7 num)) := by
  have hA := Lib.hid (by go_grown : Below w.heap.size w ((w.alloc (.cells #[.int .u8 7, .int .i64 ln, .int .i64 cl, .int .i64 sz, .int .i64 num, .string tx] 31)).alloc (.cells #[.int .u8 6] 5)))
  go_enter Try.func31, Try.ntmps31
  go_wp2_with fail
  refine (is_any _ 1 1 [6] _ rfl (by omega) (krow1 (by simp [go_sem]) (by omega))).mono ?_
  rintro e w1 ⟨vb, rfl, kb, hb1⟩
  obtain ⟨fb, cb, rfl⟩ := kt_form kb
  have d0 : w1.cell? ⟨w.heap.size, 0, none⟩ = some (.int .u8 7) := cell_carry hb1 (by simp [go_sem])
  have d4 : w1.cell? ⟨w.heap.size, 4, none⟩ = some (.int .i64 num) := cell_carry hb1 (by simp [go_sem])
  have B1 := Lib.hid (below_step hA.out hb1)
  replace kb := Lib.hid kb
  clear hb1 hA
  go_wp2_with fail
  refine (just_any _ 2 2 _ _ rfl (by omega) (trow2 (g := w1.heap.size) (v := .func (.func 47) #[] #[]) (v' := .func (.func 51) #[] #[]) (by simp [go_sem]) (by simp [go_sem]) (typ_kt _) (exp_kt _))).mono ?_
  rintro e w2 ⟨vr, rfl, kr, hb⟩
  obtain ⟨fr, cr, rfl⟩ := rt_form kr
  have B2 := Lib.hid (below_step (below_step B1.out (below_alloc w1 (.cells #[.func (.func 47) #[] #[], .func (.func 51) #[] #[]] 50))) hb)
  replace kr := Lib.hid kr
  replace kb := Lib.hid ((kb.out.carry (below_alloc w1 (.cells #[.func (.func 47) #[] #[], .func (.func 51) #[] #[]] 50))).carry hb)
  clear hb
  go_wp2_with fail
  go_ret
  exact ⟨_, rfl, kr.out, B2.out⟩

set_option maxHeartbeats 1000000 in
set_option maxRecDepth 100000 in
theorem asked_8 (ln cl sz num : Int) (tx : ByteArray) (w : World) (hnum : i64In num) : Calls Try.prog 31 #[.agg #[.int .u8 8, .int .i64 ln, .int .i64 cl, .int .i64 sz, .int .i64 num, .string tx]] w (RetR w (askB 8 num)) := by
  have hA := Lib.hid (by go_grown : Below w.heap.size w ((w.alloc (.cells #[.int .u8 8, .int .i64 ln, .int .i64 cl, .int .i64 sz, .int .i64 num, .string tx] 31)).alloc (.cells #[.int .u8 6] 5)))
  go_enter Try.func31, Try.ntmps31
  go_wp2_with fail
  refine (is_any _ 1 1 [6] _ rfl (by omega) (krow1 (by simp [go_sem]) (by omega))).mono ?_
  rintro e w1 ⟨vb, rfl, kb, hb1⟩
  obtain ⟨fb, cb, rfl⟩ := kt_form kb
  have d0 : w1.cell? ⟨w.heap.size, 0, none⟩ = some (.int .u8 8) := cell_carry hb1 (by simp [go_sem])
  have d4 : w1.cell? ⟨w.heap.size, 4, none⟩ = some (.int .i64 num) := cell_carry hb1 (by simp [go_sem])
  have B1 := Lib.hid (below_step hA.out hb1)
  replace kb := Lib.hid kb
  clear hb1 hA
  go_wp2_with fail
  refine (is_any _ 3 3 [26, 28, 29] _ rfl (by omega) (krow3 (by simp [go_sem]) (by simp [go_sem]) (by simp [go_sem]) (by omega) (by omega) (by omega))).mono ?_
  rintro e w2 ⟨va, rfl, ka, hb⟩
  obtain ⟨fa, ca, rfl⟩ := kt_form ka
  have B2 := Lib.hid (below_step (below_step B1.out (below_alloc w1 (.cells #[.int .u8 26, .int .u8 28, .int .u8 29] 5))) hb)
  replace ka := Lib.hid ka
  replace kb := Lib.hid ((kb.out.carry (below_alloc w1 (.cells #[.int .u8 26, .int .u8 28, .int .u8 29] 5))).carry hb)
  clear hb
  go_wp2_with fail
  refine (just_any _ 2 2 _ _ rfl (by omega) (trow2 (g := w2.heap.size) (v := .func (.func fa) #[] ca) (v' := .func (.func 51) #[] #[]) (by simp [go_sem]) (by simp [go_sem]) (ka.out.carry (below_alloc w2 (.cells #[.func (.func fa) #[] ca, .func (.func 51) #[] #[]] 50))) (exp_kt _))).mono ?_
  rintro e w3 ⟨vr, rfl, kr, hb⟩
  obtain ⟨fr, cr, rfl⟩ := rt_form kr
  have B3 := Lib.hid (below_step (below_step B2.out (below_alloc w2 (.cells #[.func (.func fa) #[] ca, .func (.func 51) #[] #[]] 50))) hb)
  replace kr := Lib.hid kr
  replace kb := Lib.hid ((kb.out.carry (below_alloc w2 (.cells #[.func (.func fa) #[] ca, .func (.func 51) #[] #[]] 50))).carry hb)
  replace ka := Lib.hid ((ka.out.carry (below_alloc w2 (.cells #[.func (.func fa) #[] ca, .func (.func 51) #[] #[]] 50))).carry hb)
  clear hb
  go_wp2_with fail
  go_ret
  exact ⟨_, rfl, kr.out, B3.out⟩

set_option maxHeartbeats 1000000 in
set_option maxRecDepth 100000 in
theorem asked_9 (ln cl sz num : Int) (tx : ByteArray) (w : World) (hnum : i64In num) : Calls Try.prog 31 #[.agg #[.int .u8 9, .int .i64 ln, .int .i64 cl, .int .i64 sz, .int .i64 num, .string tx]] w (RetR w (askB 9 num)) := by
  have hA := Lib.hid (by go_grown : Below w.heap.size w ((w.alloc (.cells #[.int .u8 9, .int .i64 ln, .int .i64 cl, .int .i64 sz, .int .i64 num, .string tx] 31)).alloc (.cells #[.int .u8 6] 5)))
  go_enter Try.func31, Try.ntmps31
  go_wp2_with fail
  refine (is_any _ 1 1 [6] _ rfl (by omega) (krow1 (by simp [go_sem]) (by omega))).mono ?_
  rintro e w1 ⟨vb, rfl, kb, hb1⟩
  obtain ⟨fb, cb, rfl⟩ := kt_form kb
  have d0 : w1.cell? ⟨w.heap.size, 0, none⟩ = some (.int .u8 9) := cell_carry hb1 (by simp [go_sem])
  have d4 : w1.cell? ⟨w.heap.size, 4, none⟩ = some (.int .i64 num) := cell_carry hb1 (by simp [go_sem])
  have B1 := Lib.hid (below_step hA.out hb1)
  replace kb := Lib.hid kb
  clear hb1 hA
  go_wp2_with fail
  refine (just_any _ 2 2 _ _ rfl (by omega) (trow2 (g := w1.heap.size) (v := .func (.func 51) #[] #[]) (v' := .func (.func fb) #[] cb) (by simp [go_sem]) (by simp [go_sem]) (exp_kt _) (kb.out.carry (below_alloc w1 (.cells #[.func (.func 51) #[] #[], .func (.func fb) #[] cb] 50))))).mono ?_
  rintro e w2 ⟨va, rfl, ka, hb⟩
  obtain ⟨fa, ca, rfl⟩ := rt_form ka
  have B2 := Lib.hid (below_step (below_step B1.out (below_alloc w1 (.cells #[.func (.func 51) #[] #[], .func (.func fb) #[] cb] 50))) hb)
  replace ka := Lib.hid ka
  replace kb := Lib.hid ((kb.out.carry (below_alloc w1 (.cells #[.func (.func 51) #[] #[], .func (.func fb) #[] cb] 50))).carry hb)
  clear hb
  go_wp2_with fail
  refine (just_any _ 3 3 _ _ rfl (by omega) (trow3 (g := w2.heap.size) (v := .func (.func 51) #[] #[]) (v' := .func (.func fb) #[] cb) (v'' := .func (.func fb) #[] cb) (by simp [go_sem]) (by simp [go_sem]) (by simp [go_sem]) (exp_kt _) (kb.out.carry (below_alloc w2 (.cells #[.func (.func 51) #[] #[], .func (.func fb) #[] cb, .func (.func fb) #[] cb] 50))) (kb.out.carry (below_alloc w2 (.cells #[.func (.func 51) #[] #[], .func (.func fb) #[] cb, .func (.func fb) #[] cb] 50))))).mono ?_
  rintro e w3 ⟨vc, rfl, kc, hb⟩
  obtain ⟨fc, cc, rfl⟩ := rt_form kc
  have B3 := Lib.hid (below_step (below_step B2.out (below_alloc w2 (.cells #[.func (.func 51) #[] #[], .func (.func fb) #[] cb, .func (.func fb) #[] cb] 50))) hb)
  replace kc := Lib.hid kc
  replace kb := Lib.hid ((kb.out.carry (below_alloc w2 (.cells #[.func (.func 51) #[] #[], .func (.func fb) #[] cb, .func (.func fb) #[] cb] 50))).carry hb)
  replace ka := Lib.hid ((ka.out.carry (below_alloc w2 (.cells #[.func (.func 51) #[] #[], .func (.func fb) #[] cb, .func (.func fb) #[] cb] 50))).carry hb)
  clear hb
  go_wp2_with fail
  refine (either_any _ _ _ _ _ ka.out kc.out).mono ?_
  rintro e w4 ⟨vr, rfl, kr, hb⟩
  obtain ⟨fr, cr, rfl⟩ := rt_form kr
  have B4 := Lib.hid (below_step B3.out hb)
  replace kr := Lib.hid kr
  replace kb := Lib.hid (kb.out.carry hb)
  replace ka := Lib.hid (ka.out.carry hb)
  replace kc := Lib.hid (kc.out.carry hb)
  clear hb
  go_wp2_with fail
  go_ret
  exact ⟨_, rfl, kr.out, B4.out⟩

set_option maxHeartbeats 1000000 in
set_option maxRecDepth 100000 in
theorem asked_10 (ln cl sz num : Int) (tx : ByteArray) (w : World) (hnum : i64In num) : Calls Try.prog 31 #[.agg #[.int .u8 10, .int .i64 ln, .int .i64 cl, .int .i64 sz, .int .i64 num, .string tx]] w (RetR w (askB 10 num)) := by
  have hA := Lib.hid (by go_grown : Below w.heap.size w ((w.alloc (.cells #[.int .u8 10, .int .i64 ln, .int .i64 cl, .int .i64 sz, .int .i64 num, .string tx] 31)).alloc (.cells #[.int .u8 6] 5)))
  go_enter Try.func31, Try.ntmps31
  go_wp2_with fail
  refine (is_any _ 1 1 [6] _ rfl (by omega) (krow1 (by simp [go_sem]) (by omega))).mono ?_
  rintro e w1 ⟨vb, rfl, kb, hb1⟩
  obtain ⟨fb, cb, rfl⟩ := kt_form kb
  have d0 : w1.cell? ⟨w.heap.size, 0, none⟩ = some (.int .u8 10) := cell_carry hb1 (by simp [go_sem])
  have d4 : w1.cell? ⟨w.heap.size, 4, none⟩ = some (.int .i64 num) := cell_carry hb1 (by simp [go_sem])
  have B1 := Lib.hid (below_step hA.out hb1)
  replace kb := Lib.hid kb
  clear hb1 hA
  go_wp2_with fail
  refine (just_any _ 2 2 _ _ rfl (by omega) (trow2 (g := w1.heap.size) (v := .func (.func 51) #[] #[]) (v' := .func (.func fb) #[] cb) (by simp [go_sem]) (by simp [go_sem]) (exp_kt _) (kb.out.carry (below_alloc w1 (.cells #[.func (.func 51) #[] #[], .func (.func fb) #[] cb] 50))))).mono ?_
  rintro e w2 ⟨vr, rfl, kr, hb⟩
  obtain ⟨fr, cr, rfl⟩ := rt_form kr
  have B2 := Lib.hid (below_step (below_step B1.out (below_alloc w1 (.cells #[.func (.func 51) #[] #[], .func (.func fb) #[] cb] 50))) hb)
  replace kr := Lib.hid kr
  replace kb := Lib.hid ((kb.out.carry (below_alloc w1 (.cells #[.func (.func 51) #[] #[], .func (.func fb) #[] cb] 50))).carry hb)
  clear hb
  go_wp2_with fail
  go_ret
  exact ⟨_, rfl, kr.out, B2.out⟩

set_option maxHeartbeats 1000000 in
set_option maxRecDepth 100000 in
theorem asked_11 (ln cl sz num : Int) (tx : ByteArray) (w : World) (hnum : i64In num) : Calls Try.prog 31 #[.agg #[.int .u8 11, .int .i64 ln, .int .i64 cl, .int .i64 sz, .int .i64 num, .string tx]] w (RetR w (askB 11 num)) := by
  have hA := Lib.hid (by go_grown : Below w.heap.size w ((w.alloc (.cells #[.int .u8 11, .int .i64 ln, .int .i64 cl, .int .i64 sz, .int .i64 num, .string tx] 31)).alloc (.cells #[.int .u8 6] 5)))
  go_enter Try.func31, Try.ntmps31
  go_wp2_with fail
  refine (is_any _ 1 1 [6] _ rfl (by omega) (krow1 (by simp [go_sem]) (by omega))).mono ?_
  rintro e w1 ⟨vb, rfl, kb, hb1⟩
  obtain ⟨fb, cb, rfl⟩ := kt_form kb
  have d0 : w1.cell? ⟨w.heap.size, 0, none⟩ = some (.int .u8 11) := cell_carry hb1 (by simp [go_sem])
  have d4 : w1.cell? ⟨w.heap.size, 4, none⟩ = some (.int .i64 num) := cell_carry hb1 (by simp [go_sem])
  have B1 := Lib.hid (below_step hA.out hb1)
  replace kb := Lib.hid kb
  clear hb1 hA
  go_wp2_with fail
  refine (just_any _ 0 0 [] _ rfl (by omega) trow0).mono ?_
  rintro e w2 ⟨va, rfl, ka, hb⟩
  obtain ⟨fa, ca, rfl⟩ := rt_form ka
  have B2 := Lib.hid (below_step B1.out hb)
  replace ka := Lib.hid ka
  replace kb := Lib.hid (kb.out.carry hb)
  clear hb
  go_wp2_with fail
  refine (just_any _ 1 1 _ _ rfl (by omega) (trow1 (g := w2.heap.size) (v := .func (.func 51) #[] #[]) (by simp [go_sem]) (exp_kt _))).mono ?_
  rintro e w3 ⟨vc, rfl, kc, hb⟩
  obtain ⟨fc, cc, rfl⟩ := rt_form kc
  have B3 := Lib.hid (below_step (below_step B2.out (below_alloc w2 (.cells #[.func (.func 51) #[] #[]] 50))) hb)
  replace kc := Lib.hid kc
  replace kb := Lib.hid ((kb.out.carry (below_alloc w2 (.cells #[.func (.func 51) #[] #[]] 50))).carry hb)
  replace ka := Lib.hid ((ka.out.carry (below_alloc w2 (.cells #[.func (.func 51) #[] #[]] 50))).carry hb)
  clear hb
  go_wp2_with fail
  refine (either_any _ _ _ _ _ ka.out kc.out).mono ?_
  rintro e w4 ⟨vr, rfl, kr, hb⟩
  obtain ⟨fr, cr, rfl⟩ := rt_form kr
  have B4 := Lib.hid (below_step B3.out hb)
  replace kr := Lib.hid kr
  replace kb := Lib.hid (kb.out.carry hb)
  replace ka := Lib.hid (ka.out.carry hb)
  replace kc := Lib.hid (kc.out.carry hb)
  clear hb
  go_wp2_with fail
  go_ret
  exact ⟨_, rfl, kr.out, B4.out⟩

set_option maxHeartbeats 1000000 in
set_option maxRecDepth 100000 in
theorem asked_13 (ln cl sz num : Int) (tx : ByteArray) (w : World) (hnum : i64In num) : Calls Try.prog 31 #[.agg #[.int .u8 13, .int .i64 ln, .int .i64 cl, .int .i64 sz, .int .i64 num, .string tx]] w (RetR w (askB 13 num)) := by
  have hA := Lib.hid (by go_grown : Below w.heap.size w ((w.alloc (.cells #[.int .u8 13, .int .i64 ln, .int .i64 cl, .int .i64 sz, .int .i64 num, .string tx] 31)).alloc (.cells #[.int .u8 6] 5)))
  go_enter Try.func31, Try.ntmps31
  go_wp2_with fail
  refine (is_any _ 1 1 [6] _ rfl (by omega) (krow1 (by simp [go_sem]) (by omega))).mono ?_
  rintro e w1 ⟨vb, rfl, kb, hb1⟩
  obtain ⟨fb, cb, rfl⟩ := kt_form kb
  have d0 : w1.cell? ⟨w.heap.size, 0, none⟩ = some (.int .u8 13) := cell_carry hb1 (by simp [go_sem])
  have d4 : w1.cell? ⟨w.heap.size, 4, none⟩ = some (.int .i64 num) := cell_carry hb1 (by simp [go_sem])
  have B1 := Lib.hid (below_step hA.out hb1)
  replace kb := Lib.hid kb
  clear hb1 hA
  go_wp2_with fail
  refine (is_any _ 1 1 [27] _ rfl (by omega) (krow1 (by simp [go_sem]) (by omega))).mono ?_
  rintro e w2 ⟨va, rfl, ka, hb⟩
  obtain ⟨fa, ca, rfl⟩ := kt_form ka
  have B2 := Lib.hid (below_step (below_step B1.out (below_alloc w1 (.cells #[.int .u8 27] 5))) hb)
  replace ka := Lib.hid ka
  replace kb := Lib.hid ((kb.out.carry (below_alloc w1 (.cells #[.int .u8 27] 5))).carry hb)
  clear hb
  go_wp2_with fail
  refine (just_any _ 1 1 _ _ rfl (by omega) (trow1 (g := w2.heap.size) (v := .func (.func fa) #[] ca) (by simp [go_sem]) (ka.out.carry (below_alloc w2 (.cells #[.func (.func fa) #[] ca] 50))))).mono ?_
  rintro e w3 ⟨vr, rfl, kr, hb⟩
  obtain ⟨fr, cr, rfl⟩ := rt_form kr
  have B3 := Lib.hid (below_step (below_step B2.out (below_alloc w2 (.cells #[.func (.func fa) #[] ca] 50))) hb)
  replace kr := Lib.hid kr
  replace kb := Lib.hid ((kb.out.carry (below_alloc w2 (.cells #[.func (.func fa) #[] ca] 50))).carry hb)
  replace ka := Lib.hid ((ka.out.carry (below_alloc w2 (.cells #[.func (.func fa) #[] ca] 50))).carry hb)
  clear hb
  go_wp2_with fail
  go_ret
  exact ⟨_, rfl, kr.out, B3.out⟩

set_option maxHeartbeats 1000000 in
set_option maxRecDepth 100000 in
theorem asked_27 (ln cl sz num : Int) (tx : ByteArray) (w : World) (hnum : i64In num) : Calls Try.prog 31 #[.agg #[.int .u8 27, .int .i64 ln, .int .i64 cl, .int .i64 sz, .int .i64 num, .string tx]] w (RetR w (askB 27 num)) := by
  have hA := Lib.hid (by go_grown : Below w.heap.size w ((w.alloc (.cells #[.int .u8 27, .int .i64 ln, .int .i64 cl, .int .i64 sz, .int .i64 num, .string tx] 31)).alloc (.cells #[.int .u8 6] 5)))
  go_enter Try.func31, Try.ntmps31
  go_wp2_with fail
  refine (is_any _ 1 1 [6] _ rfl (by omega) (krow1 (by simp [go_sem]) (by omega))).mono ?_
  rintro e w1 ⟨vb, rfl, kb, hb1⟩
  obtain ⟨fb, cb, rfl⟩ := kt_form kb
  have d0 : w1.cell? ⟨w.heap.size, 0, none⟩ = some (.int .u8 27) := cell_carry hb1 (by simp [go_sem])
  have d4 : w1.cell? ⟨w.heap.size, 4, none⟩ = some (.int .i64 num) := cell_carry hb1 (by simp [go_sem])
  have B1 := Lib.hid (below_step hA.out hb1)
  replace kb := Lib.hid kb
  clear hb1 hA
  go_wp2_with fail
  refine (each_any _ _ _ (exp_kt _)).mono ?_
  rintro e w2 ⟨vr, rfl, kr, hb⟩
  obtain ⟨fr, cr, rfl⟩ := rt_form kr
  have B2 := Lib.hid (below_step B1.out hb)
  replace kr := Lib.hid kr
  replace kb := Lib.hid (kb.out.carry hb)
  clear hb
  go_wp2_with fail
  go_ret
  exact ⟨_, rfl, kr.out, B2.out⟩

set_option maxHeartbeats 1000000 in
set_option maxRecDepth 100000 in
theorem asked_12 (ln cl sz num : Int) (tx : ByteArray) (w : World) (hnum : i64In num) : Calls Try.prog 31 #[.agg #[.int .u8 12, .int .i64 ln, .int .i64 cl, .int .i64 sz, .int .i64 num, .string tx]] w (RetR w (askB 12 num)) := by
  have hA := Lib.hid (by go_grown : Below w.heap.size w ((w.alloc (.cells #[.int .u8 12, .int .i64 ln, .int .i64 cl, .int .i64 sz, .int .i64 num, .string tx] 31)).alloc (.cells #[.int .u8 6] 5)))
  go_enter Try.func31, Try.ntmps31
  go_wp2_with fail
  refine (is_any _ 1 1 [6] _ rfl (by omega) (krow1 (by simp [go_sem]) (by omega))).mono ?_
  rintro e w1 ⟨vb, rfl, kb, hb1⟩
  obtain ⟨fb, cb, rfl⟩ := kt_form kb
  have d0 : w1.cell? ⟨w.heap.size, 0, none⟩ = some (.int .u8 12) := cell_carry hb1 (by simp [go_sem])
  have d4 : w1.cell? ⟨w.heap.size, 4, none⟩ = some (.int .i64 num) := cell_carry hb1 (by simp [go_sem])
  have B1 := Lib.hid (below_step hA.out hb1)
  replace kb := Lib.hid kb
  clear hb1 hA
  go_wp2_with fail
  refine (just_any _ 1 1 _ _ rfl (by omega) (trow1 (g := w1.heap.size) (v := .func (.func 51) #[] #[]) (by simp [go_sem]) (exp_kt _))).mono ?_
  rintro e w2 ⟨vr, rfl, kr, hb⟩
  obtain ⟨fr, cr, rfl⟩ := rt_form kr
  have B2 := Lib.hid (below_step (below_step B1.out (below_alloc w1 (.cells #[.func (.func 51) #[] #[]] 50))) hb)
  replace kr := Lib.hid kr
  replace kb := Lib.hid ((kb.out.carry (below_alloc w1 (.cells #[.func (.func 51) #[] #[]] 50))).carry hb)
  clear hb
  go_wp2_with fail
  go_ret
  exact ⟨_, rfl, kr.out, B2.out⟩

set_option maxHeartbeats 1000000 in
set_option maxRecDepth 100000 in
theorem asked_29 (ln cl sz num : Int) (tx : ByteArray) (w : World) (hnum : i64In num) : Calls Try.prog 31 #[.agg #[.int .u8 29, .int .i64 ln, .int .i64 cl, .int .i64 sz, .int .i64 num, .string tx]] w (RetR w (askB 29 num)) := by
  have hA := Lib.hid (by go_grown : Below w.heap.size w ((w.alloc (.cells #[.int .u8 29, .int .i64 ln, .int .i64 cl, .int .i64 sz, .int .i64 num, .string tx] 31)).alloc (.cells #[.int .u8 6] 5)))
  go_enter Try.func31, Try.ntmps31
  go_wp2_with fail
  refine (is_any _ 1 1 [6] _ rfl (by omega) (krow1 (by simp [go_sem]) (by omega))).mono ?_
  rintro e w1 ⟨vb, rfl, kb, hb1⟩
  obtain ⟨fb, cb, rfl⟩ := kt_form kb
  have d0 : w1.cell? ⟨w.heap.size, 0, none⟩ = some (.int .u8 29) := cell_carry hb1 (by simp [go_sem])
  have d4 : w1.cell? ⟨w.heap.size, 4, none⟩ = some (.int .i64 num) := cell_carry hb1 (by simp [go_sem])
  have B1 := Lib.hid (below_step hA.out hb1)
  replace kb := Lib.hid kb
  clear hb1 hA
  go_wp2_with fail
  refine (just_any _ 1 1 _ _ rfl (by omega) (trow1 (g := w1.heap.size) (v := .func (.func 51) #[] #[]) (by simp [go_sem]) (exp_kt _))).mono ?_
  rintro e w2 ⟨vr, rfl, kr, hb⟩
  obtain ⟨fr, cr, rfl⟩ := rt_form kr
  have B2 := Lib.hid (below_step (below_step B1.out (below_alloc w1 (.cells #[.func (.func 51) #[] #[]] 50))) hb)
  replace kr := Lib.hid kr
  replace kb := Lib.hid ((kb.out.carry (below_alloc w1 (.cells #[.func (.func 51) #[] #[]] 50))).carry hb)
  clear hb
  go_wp2_with fail
  go_ret
  exact ⟨_, rfl, kr.out, B2.out⟩

set_option maxHeartbeats 1000000 in
set_option maxRecDepth 100000 in
theorem asked_30 (ln cl sz num : Int) (tx : ByteArray) (w : World) (hnum : i64In num) : Calls Try.prog 31 #[.agg #[.int .u8 30, .int .i64 ln, .int .i64 cl, .int .i64 sz, .int .i64 num, .string tx]] w (RetR w (askB 30 num)) := by
  have hA := Lib.hid (by go_grown : Below w.heap.size w ((w.alloc (.cells #[.int .u8 30, .int .i64 ln, .int .i64 cl, .int .i64 sz, .int .i64 num, .string tx] 31)).alloc (.cells #[.int .u8 6] 5)))
  go_enter Try.func31, Try.ntmps31
  go_wp2_with fail
  refine (is_any _ 1 1 [6] _ rfl (by omega) (krow1 (by simp [go_sem]) (by omega))).mono ?_
  rintro e w1 ⟨vb, rfl, kb, hb1⟩
  obtain ⟨fb, cb, rfl⟩ := kt_form kb
  have d0 : w1.cell? ⟨w.heap.size, 0, none⟩ = some (.int .u8 30) := cell_carry hb1 (by simp [go_sem])
  have d4 : w1.cell? ⟨w.heap.size, 4, none⟩ = some (.int .i64 num) := cell_carry hb1 (by simp [go_sem])
  have B1 := Lib.hid (below_step hA.out hb1)
  replace kb := Lib.hid kb
  clear hb1 hA
  go_wp2_with fail
  refine (just_any _ 1 1 _ _ rfl (by omega) (trow1 (g := w1.heap.size) (v := .func (.func 51) #[] #[]) (by simp [go_sem]) (exp_kt _))).mono ?_
  rintro e w2 ⟨vr, rfl, kr, hb⟩
  obtain ⟨fr, cr, rfl⟩ := rt_form kr
  have B2 := Lib.hid (below_step (below_step B1.out (below_alloc w1 (.cells #[.func (.func 51) #[] #[]] 50))) hb)
  replace kr := Lib.hid kr
  replace kb := Lib.hid ((kb.out.carry (below_alloc w1 (.cells #[.func (.func 51) #[] #[]] 50))).carry hb)
  clear hb
  go_wp2_with fail
  go_ret
  exact ⟨_, rfl, kr.out, B2.out⟩

set_option maxHeartbeats 1000000 in
set_option maxRecDepth 100000 in
theorem asked_28 (ln cl sz num : Int) (tx : ByteArray) (w : World) (hnum : i64In num) : Calls Try.prog 31 #[.agg #[.int .u8 28, .int .i64 ln, .int .i64 cl, .int .i64 sz, .int .i64 num, .string tx]] w (RetR w (askB 28 num)) := by
  have hA := Lib.hid (by go_grown : Below w.heap.size w ((w.alloc (.cells #[.int .u8 28, .int .i64 ln, .int .i64 cl, .int .i64 sz, .int .i64 num, .string tx] 31)).alloc (.cells #[.int .u8 6] 5)))
  go_enter Try.func31, Try.ntmps31
  go_wp2_with fail
  refine (is_any _ 1 1 [6] _ rfl (by omega) (krow1 (by simp [go_sem]) (by omega))).mono ?_
  rintro e w1 ⟨vb, rfl, kb, hb1⟩
  obtain ⟨fb, cb, rfl⟩ := kt_form kb
  have d0 : w1.cell? ⟨w.heap.size, 0, none⟩ = some (.int .u8 28) := cell_carry hb1 (by simp [go_sem])
  have d4 : w1.cell? ⟨w.heap.size, 4, none⟩ = some (.int .i64 num) := cell_carry hb1 (by simp [go_sem])
  have B1 := Lib.hid (below_step hA.out hb1)
  replace kb := Lib.hid kb
  clear hb1 hA
  go_wp2_with fail
  refine (just_any _ 2 2 _ _ rfl (by omega) (trow2 (g := w1.heap.size) (v := .func (.func 51) #[] #[]) (v' := .func (.func 51) #[] #[]) (by simp [go_sem]) (by simp [go_sem]) (exp_kt _) (exp_kt _))).mono ?_
  rintro e w2 ⟨vr, rfl, kr, hb⟩
  obtain ⟨fr, cr, rfl⟩ := rt_form kr
  have B2 := Lib.hid (below_step (below_step B1.out (below_alloc w1 (.cells #[.func (.func 51) #[] #[], .func (.func 51) #[] #[]] 50))) hb)
  replace kr := Lib.hid kr
  replace kb := Lib.hid ((kb.out.carry (below_alloc w1 (.cells #[.func (.func 51) #[] #[], .func (.func 51) #[] #[]] 50))).carry hb)
  clear hb
  go_wp2_with fail
  go_ret
  exact ⟨_, rfl, kr.out, B2.out⟩

set_option maxHeartbeats 1000000 in
set_option maxRecDepth 100000 in
theorem asked_31 (ln cl sz num : Int) (tx : ByteArray) (w : World) (hnum : i64In num) : Calls Try.prog 31 #[.agg #[.int .u8 31, .int .i64 ln, .int .i64 cl, .int .i64 sz, .int .i64 num, .string tx]] w (RetR w (askB 31 num)) := by
  have hA := Lib.hid (by go_grown : Below w.heap.size w ((w.alloc (.cells #[.int .u8 31, .int .i64 ln, .int .i64 cl, .int .i64 sz, .int .i64 num, .string tx] 31)).alloc (.cells #[.int .u8 6] 5)))
  go_enter Try.func31, Try.ntmps31
  go_wp2_with fail
  refine (is_any _ 1 1 [6] _ rfl (by omega) (krow1 (by simp [go_sem]) (by omega))).mono ?_
  rintro e w1 ⟨vb, rfl, kb, hb1⟩
  obtain ⟨fb, cb, rfl⟩ := kt_form kb
  have d0 : w1.cell? ⟨w.heap.size, 0, none⟩ = some (.int .u8 31) := cell_carry hb1 (by simp [go_sem])
  have d4 : w1.cell? ⟨w.heap.size, 4, none⟩ = some (.int .i64 num) := cell_carry hb1 (by simp [go_sem])
  have B1 := Lib.hid (below_step hA.out hb1)
  replace kb := Lib.hid kb
  clear hb1 hA
  go_wp2_with fail
  refine (just_any _ 2 2 _ _ rfl (by omega) (trow2 (g := w1.heap.size) (v := .func (.func 51) #[] #[]) (v' := .func (.func 51) #[] #[]) (by simp [go_sem]) (by simp [go_sem]) (exp_kt _) (exp_kt _))).mono ?_
  rintro e w2 ⟨vr, rfl, kr, hb⟩
  obtain ⟨fr, cr, rfl⟩ := rt_form kr
  have B2 := Lib.hid (below_step (below_step B1.out (below_alloc w1 (.cells #[.func (.func 51) #[] #[], .func (.func 51) #[] #[]] 50))) hb)
  replace kr := Lib.hid kr
  replace kb := Lib.hid ((kb.out.carry (below_alloc w1 (.cells #[.func (.func 51) #[] #[], .func (.func 51) #[] #[]] 50))).carry hb)
  clear hb
  go_wp2_with fail
  go_ret
  exact ⟨_, rfl, kr.out, B2.out⟩

set_option maxHeartbeats 1000000 in
set_option maxRecDepth 100000 in
theorem asked_32 (ln cl sz num : Int) (tx : ByteArray) (w : World) (hnum : i64In num) : Calls Try.prog 31 #[.agg #[.int .u8 32, .int .i64 ln, .int .i64 cl, .int .i64 sz, .int .i64 num, .string tx]] w (RetR w (askB 32 num)) := by
  have hA := Lib.hid (by go_grown : Below w.heap.size w ((w.alloc (.cells #[.int .u8 32, .int .i64 ln, .int .i64 cl, .int .i64 sz, .int .i64 num, .string tx] 31)).alloc (.cells #[.int .u8 6] 5)))
  go_enter Try.func31, Try.ntmps31
  go_wp2_with fail
  refine (is_any _ 1 1 [6] _ rfl (by omega) (krow1 (by simp [go_sem]) (by omega))).mono ?_
  rintro e w1 ⟨vb, rfl, kb, hb1⟩
  obtain ⟨fb, cb, rfl⟩ := kt_form kb
  have d0 : w1.cell? ⟨w.heap.size, 0, none⟩ = some (.int .u8 32) := cell_carry hb1 (by simp [go_sem])
  have d4 : w1.cell? ⟨w.heap.size, 4, none⟩ = some (.int .i64 num) := cell_carry hb1 (by simp [go_sem])
  have B1 := Lib.hid (below_step hA.out hb1)
  replace kb := Lib.hid kb
  clear hb1 hA
  go_wp2_with fail
  refine (is_any _ 1 1 [19] _ rfl (by omega) (krow1 (by simp [go_sem]) (by omega))).mono ?_
  rintro e w2 ⟨va, rfl, ka, hb⟩
  obtain ⟨fa, ca, rfl⟩ := kt_form ka
  have B2 := Lib.hid (below_step (below_step B1.out (below_alloc w1 (.cells #[.int .u8 19] 5))) hb)
  replace ka := Lib.hid ka
  replace kb := Lib.hid ((kb.out.carry (below_alloc w1 (.cells #[.int .u8 19] 5))).carry hb)
  clear hb
  go_wp2_with fail
  refine (just_any _ 1 1 _ _ rfl (by omega) (trow1 (g := w2.heap.size) (v := .func (.func fa) #[] ca) (by simp [go_sem]) (ka.out.carry (below_alloc w2 (.cells #[.func (.func fa) #[] ca] 50))))).mono ?_
  rintro e w3 ⟨vc, rfl, kc, hb⟩
  obtain ⟨fc, cc, rfl⟩ := rt_form kc
  have B3 := Lib.hid (below_step (below_step B2.out (below_alloc w2 (.cells #[.func (.func fa) #[] ca] 50))) hb)
  replace kc := Lib.hid kc
  replace kb := Lib.hid ((kb.out.carry (below_alloc w2 (.cells #[.func (.func fa) #[] ca] 50))).carry hb)
  replace ka := Lib.hid ((ka.out.carry (below_alloc w2 (.cells #[.func (.func fa) #[] ca] 50))).carry hb)
  clear hb
  go_wp2_with fail
  refine (is_any _ 1 1 [20] _ rfl (by omega) (krow1 (by simp [go_sem]) (by omega))).mono ?_
  rintro e w4 ⟨vd, rfl, kd, hb⟩
  obtain ⟨fd, cd, rfl⟩ := kt_form kd
  have B4 := Lib.hid (below_step (below_step B3.out (below_alloc w3 (.cells #[.int .u8 20] 5))) hb)
  replace kd := Lib.hid kd
  replace kb := Lib.hid ((kb.out.carry (below_alloc w3 (.cells #[.int .u8 20] 5))).carry hb)
  replace ka := Lib.hid ((ka.out.carry (below_alloc w3 (.cells #[.int .u8 20] 5))).carry hb)
  replace kc := Lib.hid ((kc.out.carry (below_alloc w3 (.cells #[.int .u8 20] 5))).carry hb)
  clear hb
  go_wp2_with fail
  refine (just_any _ 2 2 _ _ rfl (by omega) (trow2 (g := w4.heap.size) (v := .func (.func fd) #[] cd) (v' := .func (.func 51) #[] #[]) (by simp [go_sem]) (by simp [go_sem]) (kd.out.carry (below_alloc w4 (.cells #[.func (.func fd) #[] cd, .func (.func 51) #[] #[]] 50))) (exp_kt _))).mono ?_
  rintro e w5 ⟨vf, rfl, kf, hb⟩
  obtain ⟨ff, cf, rfl⟩ := rt_form kf
  have B5 := Lib.hid (below_step (below_step B4.out (below_alloc w4 (.cells #[.func (.func fd) #[] cd, .func (.func 51) #[] #[]] 50))) hb)
  replace kf := Lib.hid kf
  replace kb := Lib.hid ((kb.out.carry (below_alloc w4 (.cells #[.func (.func fd) #[] cd, .func (.func 51) #[] #[]] 50))).carry hb)
  replace ka := Lib.hid ((ka.out.carry (below_alloc w4 (.cells #[.func (.func fd) #[] cd, .func (.func 51) #[] #[]] 50))).carry hb)
  replace kc := Lib.hid ((kc.out.carry (below_alloc w4 (.cells #[.func (.func fd) #[] cd, .func (.func 51) #[] #[]] 50))).carry hb)
  replace kd := Lib.hid ((kd.out.carry (below_alloc w4 (.cells #[.func (.func fd) #[] cd, .func (.func 51) #[] #[]] 50))).carry hb)
  clear hb
  go_wp2_with fail
  refine (either_any _ _ _ _ _ kc.out kf.out).mono ?_
  rintro e w6 ⟨vr, rfl, kr, hb⟩
  obtain ⟨fr, cr, rfl⟩ := rt_form kr
  have B6 := Lib.hid (below_step B5.out hb)
  replace kr := Lib.hid kr
  replace kb := Lib.hid (kb.out.carry hb)
  replace ka := Lib.hid (ka.out.carry hb)
  replace kc := Lib.hid (kc.out.carry hb)
  replace kd := Lib.hid (kd.out.carry hb)
  replace kf := Lib.hid (kf.out.carry hb)
  clear hb
  go_wp2_with fail
  go_ret
  exact ⟨_, rfl, kr.out, B6.out⟩

set_option maxHeartbeats 1000000 in
set_option maxRecDepth 100000 in
theorem asked_4 (ln cl sz num : Int) (tx : ByteArray) (w : World) (hnum : i64In num) : Calls Try.prog 31 #[.agg #[.int .u8 4, .int .i64 ln, .int .i64 cl, .int .i64 sz, .int .i64 num, .string tx]] w (RetR w (askB 4 num)) := by
  have hA := Lib.hid (by go_grown : Below w.heap.size w ((w.alloc (.cells #[.int .u8 4, .int .i64 ln, .int .i64 cl, .int .i64 sz, .int .i64 num, .string tx] 31)).alloc (.cells #[.int .u8 6] 5)))
  go_enter Try.func31, Try.ntmps31
  go_wp2_with fail
  refine (is_any _ 1 1 [6] _ rfl (by omega) (krow1 (by simp [go_sem]) (by omega))).mono ?_
  rintro e w1 ⟨vb, rfl, kb, hb1⟩
  obtain ⟨fb, cb, rfl⟩ := kt_form kb
  have d0 : w1.cell? ⟨w.heap.size, 0, none⟩ = some (.int .u8 4) := cell_carry hb1 (by simp [go_sem])
  have d4 : w1.cell? ⟨w.heap.size, 4, none⟩ = some (.int .i64 num) := cell_carry hb1 (by simp [go_sem])
  have B1 := Lib.hid (below_step hA.out hb1)
  replace kb := Lib.hid kb
  clear hb1 hA
  go_wp2_with fail
  go_region_held3 (fun w' => w'.cell? ⟨w.heap.size, 4, none⟩ = some (.int .i64 num)) (go_keep)
    (first
      | (go_at_call 44; refine (is_any _ 1 1 [5] _ rfl (by omega) (krow1 (by simp [go_sem]) (by omega))).mono ?_; rintro e w2 ⟨va, rfl, ka, hb⟩; obtain ⟨fa, ca, rfl⟩ := kt_form ka; have d5 := cell_carry (b := w.heap.size) (o := 4) hb (by first | exact cell_alloc d4 _ | exact cell_alloc (cell_alloc d4 _) _); obtain ⟨hc, hf⟩ := bcell hb; have hz := hb.size; simp only [World.size_alloc, World.size_drew] at hc hf hz; have B2 := Lib.hid (below_step B1.out (below_step (by go_grown) hb)); replace kb := Lib.hid (kb.out.carry (below_step (by go_grown) hb)); replace ka := Lib.hid ka; clear hb)
      | (go_at_call 46; refine (just_any _ 2 2 [isRes, [6].contains] _ rfl (by omega) (trow2 (v := .func (.func 49) #[] #[]) (v' := .func (.func fb) #[] cb) (by simp [go_sem, *]) (by simp [go_sem, *]) (res_kt _) (kb.out.carry (by go_grown)))).mono ?_; rintro e w3 ⟨vr, rfl, kr, hb⟩; obtain ⟨fr, cr, rfl⟩ := rt_form kr; have d6 := cell_carry (b := w.heap.size) (o := 4) hb (by first | exact d5 | exact cell_alloc d5 _); have B3 := Lib.hid (below_step B2.out (below_step (by go_grown) hb)); replace ka := Lib.hid (ka.out.carry (below_step (by go_grown) hb)); replace kr := Lib.hid kr; clear hb)
      | (go_at_call 48; refine (leading_any num hnum _ _ _ _ _ ka.out kr.out).mono ?_; rintro e w4 ⟨vl, rfl, kl, hb⟩; have d7 := cell_carry (b := w.heap.size) (o := 4) hb d6; have B4 := Lib.hid (below_step B3.out hb); replace kl := Lib.hid kl; clear hb))
  all_goals (go_wp2_with fail; go_ret; exact ⟨_, rfl, kl.out, B4.out⟩)

set_option maxHeartbeats 1000000 in
set_option maxRecDepth 100000 in
theorem asked_else (k : Nat) (hk : k ≠ 1 ∧ k ≠ 2 ∧ k ≠ 3 ∧ k ≠ 5 ∧ k ≠ 20 ∧ k ≠ 4 ∧ k ≠ 6 ∧ k ≠ 7 ∧ k ≠ 8 ∧ k ≠ 9 ∧ k ≠ 10 ∧ k ≠ 11 ∧ k ≠ 13 ∧ k ≠ 27 ∧ k ≠ 12 ∧ k ≠ 29 ∧ k ≠ 30 ∧ k ≠ 28 ∧ k ≠ 31 ∧ k ≠ 32) (ln cl sz num : Int) (tx : ByteArray) (w : World) (hnum : i64In num) : Calls Try.prog 31 #[.agg #[.int .u8 (k : Nat), .int .i64 ln, .int .i64 cl, .int .i64 sz, .int .i64 num, .string tx]] w (RetR w (justB [])) := by
  have e1 : ((k : Int) == 1) = false := by rw [beq_eq_false_iff_ne]; omega
  have e2 : ((k : Int) == 2) = false := by rw [beq_eq_false_iff_ne]; omega
  have e3 : ((k : Int) == 3) = false := by rw [beq_eq_false_iff_ne]; omega
  have e5 : ((k : Int) == 5) = false := by rw [beq_eq_false_iff_ne]; omega
  have e20 : ((k : Int) == 20) = false := by rw [beq_eq_false_iff_ne]; omega
  have e4 : ((k : Int) == 4) = false := by rw [beq_eq_false_iff_ne]; omega
  have e6 : ((k : Int) == 6) = false := by rw [beq_eq_false_iff_ne]; omega
  have e7 : ((k : Int) == 7) = false := by rw [beq_eq_false_iff_ne]; omega
  have e8 : ((k : Int) == 8) = false := by rw [beq_eq_false_iff_ne]; omega
  have e9 : ((k : Int) == 9) = false := by rw [beq_eq_false_iff_ne]; omega
  have e10 : ((k : Int) == 10) = false := by rw [beq_eq_false_iff_ne]; omega
  have e11 : ((k : Int) == 11) = false := by rw [beq_eq_false_iff_ne]; omega
  have e13 : ((k : Int) == 13) = false := by rw [beq_eq_false_iff_ne]; omega
  have e27 : ((k : Int) == 27) = false := by rw [beq_eq_false_iff_ne]; omega
  have e12 : ((k : Int) == 12) = false := by rw [beq_eq_false_iff_ne]; omega
  have e29 : ((k : Int) == 29) = false := by rw [beq_eq_false_iff_ne]; omega
  have e30 : ((k : Int) == 30) = false := by rw [beq_eq_false_iff_ne]; omega
  have e28 : ((k : Int) == 28) = false := by rw [beq_eq_false_iff_ne]; omega
  have e31 : ((k : Int) == 31) = false := by rw [beq_eq_false_iff_ne]; omega
  have e32 : ((k : Int) == 32) = false := by rw [beq_eq_false_iff_ne]; omega
  clear hk
  have hA := Lib.hid (by go_grown : Below w.heap.size w ((w.alloc (.cells #[.int .u8 (k : Nat), .int .i64 ln, .int .i64 cl, .int .i64 sz, .int .i64 num, .string tx] 31)).alloc (.cells #[.int .u8 6] 5)))
  go_enter Try.func31, Try.ntmps31
  go_wp2_with fail
  refine (is_any _ 1 1 [6] _ rfl (by omega) (krow1 (by simp [go_sem]) (by omega))).mono ?_
  rintro e w1 ⟨vb, rfl, kb, hb1⟩
  obtain ⟨fb, cb, rfl⟩ := kt_form kb
  have d0 : w1.cell? ⟨w.heap.size, 0, none⟩ = some (.int .u8 (k : Nat)) := cell_carry hb1 (by simp [go_sem])
  have d4 : w1.cell? ⟨w.heap.size, 4, none⟩ = some (.int .i64 num) := cell_carry hb1 (by simp [go_sem])
  have B1 := Lib.hid (below_step hA.out hb1)
  replace kb := Lib.hid kb
  clear hb1 hA
  go_wp2_with fail
  refine (just_any _ 0 0 [] _ rfl (by omega) trow0).mono ?_
  rintro e w2 ⟨vr, rfl, kr, hb⟩
  obtain ⟨fr, cr, rfl⟩ := rt_form kr
  have B2 := Lib.hid (below_step B1.out hb)
  replace kr := Lib.hid kr
  replace kb := Lib.hid (kb.out.carry hb)
  clear hb
  go_wp2_with fail
  go_ret
  exact ⟨_, rfl, kr.out, B2.out⟩

end Go.Proofs.Ytogpfbmkbnooeaa
