/-
 Contract of the document's Read. Conditions: texts of at most 100000 bytes. Contract of the document's Read, for every text. Conditions: texts of at most 100000 bytes.
-/
import Derived.Test.YtbknflaooemigaaGreatQuo
import Derived.Test.YtbknflaooemigaaGreatRfx
namespace Go.Proofs.YtbknflaooemigaaGreat
section
open Go.RowKit Go.Sort
set_option linter.unusedVariables false

theorem nope {b : Bool} (h : b = false) (h2 : b = true) : False := by rw [h] at h2; cases h2

/-- What Read answers. -/
abbrev outR (R : List UInt8 × Nat × Bool) : Value := .tuple #[.string (bs (if R.2.2 then R.1 else [])), .int .i64 (R.2.1 : Nat), .bool R.2.2]

theorem ret_no {a : Int} {R : List UInt8 × Nat × Bool} {n : Nat} (h : R.2 = (n, false)) (h1 : a = (n : Nat)) : Ending.returned (.tuple #[.string { data := #[] }, .int .i64 a, .bool false]) = .returned (outR R) := by
 obtain ⟨x, y⟩ := R
 simp only at h
 subst h h1
 rfl

theorem ret_yes {a : Int} {R : List UInt8 × Nat × Bool} {n : Nat} {x : List UInt8} (h : R = (x, n, true)) (h1 : a = (n : Nat)) : Ending.returned (.tuple #[.string (bs x), .int .i64 a, .bool true]) = .returned (outR R) := by
 subst h h1
 rfl

def RRel (s : ByteArray) (w : World) (R : List UInt8 × Nat × Bool) (v i : Value) (wr : World) : Prop :=
 ∃ (k : Nat) (x : List UInt8), 1 ≤ k ∧ k ≤ s.size ∧ i = .int .i64 k ∧ x.length ≤ k ∧ (x ++ (scan (s.data.toList.drop k)).1, k + (scan (s.data.toList.drop k)).2.1, (scan (s.data.toList.drop k)).2.2) = R ∧
  Own wr w.heap.size v x ∧ Below w.heap.size w wr

theorem RRel.step {s : ByteArray} {w wr w1 : World} {R : List UInt8 × Nat × Bool} {v' : Value} {k m : Nat} {x : List UInt8} {b : UInt8} (hk : 1 ≤ k) (hx : x.length ≤ k)
  (hR : (x ++ (scan (s.data.toList.drop k)).1, k + (scan (s.data.toList.drop k)).2.1, (scan (s.data.toList.drop k)).2.2) = R) (hq : ¬ (s.data.toList.drop k).head? = some 34) (hr : rb (s.data.toList.drop k) = (b, m, true))
  (hb : Below w.heap.size w wr) (ho : Own w1 w.heap.size v' (x ++ [b])) (hb1 : Below w.heap.size wr w1) {j : Int} (hj : j = (k + m : Nat)) : RRel s w R v' (.int .i64 j) w1 := by
 have hz := rb_size (s.data.toList.drop k) (by rw [hr])
 have hst := scan_step (s.data.toList.drop k) hq (by rw [hr])
 rw [hr] at hz hst
 rw [List.drop_drop] at hst
 rw [List.length_drop, size_list] at hz
 simp only at hz hst
 subst hj
 refine ⟨k + m, x ++ [b], by omega, by omega, rfl, by simp; omega, ?_, ho, hb.trans hb1⟩
 rw [← hR, hst]
 simp [Nat.add_assoc]

theorem RRel.stop {s : ByteArray} {R : List UInt8 × Nat × Bool} {k m : Nat} {x : List UInt8} {b : UInt8} (hR : (x ++ (scan (s.data.toList.drop k)).1, k + (scan (s.data.toList.drop k)).2.1, (scan (s.data.toList.drop k)).2.2) = R)
  (hq : ¬ (s.data.toList.drop k).head? = some 34) (hr : rb (s.data.toList.drop k) = (b, m, false)) : R.2 = (k + m, false) := by
 have hst := scan_bad (s.data.toList.drop k) hq (by rw [hr])
 rw [hr] at hst
 rw [← hR, hst]

theorem vlo_some {c : UInt8} {x : Nat} (h : dg c = some x) (w : World) : Calls Tryz.prog 56 #[byt c] w fun e w' => e = .returned (.int .i64 x) ∧ w = w' := by
 have := value_any c w
 rw [vlo, h] at this
 exact this

theorem vlo_none {c : UInt8} (h : dg c = none) (w : World) : Calls Tryz.prog 56 #[byt c] w fun e w' => e = .returned (.int .i64 (-1)) ∧ w = w' := by
 have := value_any c w
 rw [vlo, h] at this
 exact this

theorem vlo_aft {c : UInt8} {x : Nat} (h : dg c = some x) (w : World) : Calls Tryz.prog 56 #[byt c] w fun e w' => e = .returned (.int .i64 x) ∧ Aft w w' := same_below (vlo_some h w)

set_option maxHeartbeats 4000000 in
set_option maxRecDepth 100000 in
theorem read_loop (s : ByteArray) (w : World) (hs : s.size ≤ 100000) (h0 : 0 < s.size) (h34 : s[0] = 34) (R : List UInt8 × Nat × Bool)
  (hR : Hid (((scan (s.data.toList.drop 1)).1, 1 + (scan (s.data.toList.drop 1)).2.1, (scan (s.data.toList.drop 1)).2.2) = R)) :
  Calls Tryz.prog 42 #[.string s] w fun e w' => e = .returned (outR R) ∧ Below w.heap.size w w' := by
 have e0 : ((s[0].toNat : Int) != 34) = false := by rw [h34]; rfl
 have e00 : ((s.size : Int) == 0) = false := by rw [beq_eq_false_iff_ne]; omega
 clear h34
 go_enter Tryz.func42, Tryz.ntmps42
 go_wp2
 go_loopw [5, 6] (fun v i wr => RRel s w R v i wr) (fun _ i _ => s.size - (intOf i).toNat)
 case atStart => exact ⟨1, [], Nat.le_refl _, h0, rfl, by simp, by simpa using hR.out, own_lit [] rfl (Nat.le_refl _) 0 rfl (by decide), below_alloc _ _⟩
 case round =>
  clear hR
  obtain ⟨k, x, hk1, hk, rfl, hx, hR, ho, hb⟩ := hrel
  have hbs := hb.size
  by_cases hlt : k < s.size
  case neg =>
   have HR := Lib.hid (show R.2 = (s.size, false) by rw [← hR, drop_end s k (by omega), scan_bad [] (by simp) rfl, rb_nil]; simp; omega)
   have hlt2 : ¬ (k : Int) < s.size := by omega
   replace hb := Lib.hid hb
   clear hR ho
   go_wp2
   go_ret3
   exact ⟨ret_no HR.out rfl, hb.out⟩
  have hd := drop_cons s k hlt
  by_cases hout : s[k].toNat < 32 ∨ 126 < s[k].toNat
  case pos =>
   have HR := Lib.hid (RRel.stop hR (by rw [hd]; intro e; simp at e; rw [e] at hout; revert hout; decide) (by rw [hd]; exact rb_out _ _ hout))
   replace hb := Lib.hid hb
   clear hR ho hd
   rcases hout with hout | hout
   ·have e1 : (s[k].toNat : Int) < 32 := by omega
    clear hout
    go_wp2
    go_ret3
    exact ⟨ret_no HR.out (by omega), hb.out⟩
   ·have e1 : (126 : Int) < s[k].toNat := by omega
    clear hout
    go_wp2
    go_ret3
    exact ⟨ret_no HR.out (by omega), hb.out⟩
  have e1 : (32 : Int) ≤ s[k].toNat := by omega
  have e2 : (s[k].toNat : Int) ≤ 126 := by omega
  by_cases hq : s[k] = 34
  case pos =>
   have HR := Lib.hid (show R = (x, k + 1, true) by rw [← hR, scan_quote _ (by rw [hd, hq]; rfl)]; simp)
   have e3 : ((s[k].toNat : Int) == 34) = true := by rw [hq]; rfl
   have hcv := own_text ho
   replace hb := Lib.hid hb
   clear hR ho hd hq hout e1 e2
   have e1 : (32 : Int) ≤ s[k].toNat := by have := eq_of_beq e3; omega
   have e2 : (s[k].toNat : Int) ≤ 126 := by have := eq_of_beq e3; omega
   go_wp2
   go_ret3
   exact ⟨ret_yes HR.out (by omega), hb.out⟩
  have e3 : ((s[k].toNat : Int) == 34) = false := byte_ne (n := 34) (by decide) hq
  have hq' : ¬ (s.data.toList.drop k).head? = some 34 := by rw [hd]; simpa using hq
  have HS := Lib.hid (fun b m (hr : rb (s.data.toList.drop k) = (b, m, true)) w1 v' j (h1 : Own w1 w.heap.size v' (x ++ [b])) (h2 : Below w.heap.size wr w1) (hj : j = ((k + m : Nat) : Int)) => RRel.step hk1 hx hR hq' hr hb h1 h2 hj)
  have HN := Lib.hid (fun b m (hr : rb (s.data.toList.drop k) = (b, m, false)) => RRel.stop hR hq' hr)
  replace ho := Lib.hid ho
  replace hb := Lib.hid hb
  rw [hd] at HS HN
  clear hq' hR hd hq
  by_cases h92 : s[k] = 92
  case neg =>
   have HB := Lib.hid (rb_plain s[k] (s.data.toList.drop (k + 1)) hout h92)
   have e4 : ((s[k].toNat : Int) != 92) = true := b_ne (n := 92) (by decide) h92
   clear hout h92
   go_wp2_with (at_builtin; refine wpList_app rfl _ _ rfl w.heap.size u5 x [s[k]] 1 rfl rfl rfl rfl ho.out hbs (by omega) ?_; intro v2 w2 ho2 hb2; replace ho2 := Lib.hid ho2; replace hb2 := Lib.hid hb2)
   go_roundw
   case rel => exact HS.out _ _ HB.out _ _ _ ho2.out hb2.out (by omega)
   case measure => simp [intOf]; omega
  have e4 : ((s[k].toNat : Int) != 92) = false := by rw [h92]; rfl
  rw [h92] at HS HN
  clear hout h92
  obtain ⟨k1, hk1e⟩ : ∃ k1, k + 1 = k1 := ⟨_, rfl⟩
  have hk1w : (k : Int) + 1 = k1 := by omega
  have hk1b : k1 ≤ 100001 := by omega
  have hkk := Lib.hid hk1e
  rw [hk1e] at HS HN
  clear hk1e
  by_cases hlt1 : k1 < s.size
  case neg =>
   have HR := Lib.hid (HN.out _ _ (by rw [drop_end s k1 (by omega)]; exact rb_end))
   have hle : (s.size : Int) ≤ k1 := by omega
   clear HS HN hlt1
   go_wp2
   go_ret3
   exact ⟨ret_no HR.out (by omega), hb.out⟩
  rw [drop_cons s k1 hlt1] at HS HN
  have hlt1' : (k1 : Int) < s.size := by omega
  by_cases g34 : s[k1] = 34
  case pos =>
   have HB := Lib.hid (rb_bk s[k1] (s.data.toList.drop (k1 + 1)) (by rw [g34]; decide) s[k1] (by rw [g34]; rfl))
   have e5 : ((s[k1].toNat : Int) == 34) = true := by rw [g34]; rfl
   clear g34
   go_wp2_with (at_builtin; refine wpList_app rfl _ _ rfl w.heap.size u5 x [s[k1]] 1 rfl rfl rfl rfl ho.out hbs (by omega) ?_; intro v2 w2 ho2 hb2; replace ho2 := Lib.hid ho2; replace hb2 := Lib.hid hb2)
   go_roundw
   case rel => exact HS.out _ _ HB.out _ _ _ ho2.out hb2.out (by omega)
   case measure => simp [intOf]; omega
  have e5 : ((s[k1].toNat : Int) == 34) = false := byte_ne (n := 34) (by decide) g34
  by_cases g92 : s[k1] = 92
  case pos =>
   have HB := Lib.hid (rb_bk s[k1] (s.data.toList.drop (k1 + 1)) (by rw [g92]; decide) s[k1] (by rw [g92]; rfl))
   have e6 : ((s[k1].toNat : Int) == 92) = true := by rw [g92]; rfl
   clear g92 g34
   go_wp2_with (at_builtin; refine wpList_app rfl _ _ rfl w.heap.size u5 x [s[k1]] 1 rfl rfl rfl rfl ho.out hbs (by omega) ?_; intro v2 w2 ho2 hb2; replace ho2 := Lib.hid ho2; replace hb2 := Lib.hid hb2)
   go_roundw
   case rel => exact HS.out _ _ HB.out _ _ _ ho2.out hb2.out (by omega)
   case measure => simp [intOf]; omega
  have e6 : ((s[k1].toNat : Int) == 92) = false := byte_ne (n := 92) (by decide) g92
  by_cases g110 : s[k1] = 110
  case pos =>
   have HB := Lib.hid (rb_bk s[k1] (s.data.toList.drop (k1 + 1)) (by rw [g110]; decide) 10 (by rw [g110]; rfl))
   have e7 : ((s[k1].toNat : Int) == 110) = true := by rw [g110]; rfl
   clear g92 g34 g110
   go_wp2_with (at_builtin; refine wpList_app rfl _ _ rfl w.heap.size u5 x [10] 1 rfl rfl rfl rfl ho.out hbs (by omega) ?_; intro v2 w2 ho2 hb2; replace ho2 := Lib.hid ho2; replace hb2 := Lib.hid hb2)
   go_roundw
   case rel => exact HS.out _ _ HB.out _ _ _ ho2.out hb2.out (by omega)
   case measure => simp [intOf]; omega
  have e7 : ((s[k1].toNat : Int) == 110) = false := byte_ne (n := 110) (by decide) g110
  by_cases g116 : s[k1] = 116
  case pos =>
   have HB := Lib.hid (rb_bk s[k1] (s.data.toList.drop (k1 + 1)) (by rw [g116]; decide) 9 (by rw [g116]; rfl))
   have e8 : ((s[k1].toNat : Int) == 116) = true := by rw [g116]; rfl
   clear g92 g34 g110 g116
   go_wp2_with (at_builtin; refine wpList_app rfl _ _ rfl w.heap.size u5 x [9] 1 rfl rfl rfl rfl ho.out hbs (by omega) ?_; intro v2 w2 ho2 hb2; replace ho2 := Lib.hid ho2; replace hb2 := Lib.hid hb2)
   go_roundw
   case rel => exact HS.out _ _ HB.out _ _ _ ho2.out hb2.out (by omega)
   case measure => simp [intOf]; omega
  have e8 : ((s[k1].toNat : Int) == 116) = false := byte_ne (n := 116) (by decide) g116
  by_cases g120 : s[k1] = 120
  case neg =>
   have HR := Lib.hid (HN.out _ _ (rb_no s[k1] (s.data.toList.drop (k1 + 1)) g120 (by simp [bk, g34, g92, g110, g116])))
   have e9 : ((s[k1].toNat : Int) == 120) = false := byte_ne (n := 120) (by decide) g120
   clear g92 g34 g110 g116 g120 HS HN
   go_wp2
   go_ret3
   exact ⟨ret_no HR.out (by omega), hb.out⟩
  have e9 : ((s[k1].toNat : Int) == 120) = true := by rw [g120]; rfl
  rw [g120] at HS HN
  clear g92 g34 g110 g116 g120
  obtain ⟨k2, hk2e⟩ : ∃ k2, k1 + 1 = k2 := ⟨_, rfl⟩
  obtain ⟨k3, hk3e⟩ : ∃ k3, k1 + 2 = k3 := ⟨_, rfl⟩
  have hk2w : (k1 : Int) + 1 = k2 := by omega
  have hk3w : (k1 : Int) + 2 = k3 := by omega
  have hk2b : k2 ≤ 100002 := by omega
  have hk3b : k3 ≤ 100003 := by omega
  have hkk2 := Lib.hid (show k2 = k + 2 by have := hkk.out; omega)
  have hkk3 := Lib.hid (show k3 = k + 3 by have := hkk.out; omega)
  have hkk4 := Lib.hid (show k3 = k2 + 1 by omega)
  rw [hk2e, rb_x] at HS HN
  clear hk2e hk3e
  by_cases hlt2 : k2 < s.size
  case neg =>
   have HR := Lib.hid (HN.out _ _ (by rw [drop_end s k2 (by omega)]; exact rd_nil))
   have hle : (s.size : Int) ≤ k2 := by omega
   clear HS HN hlt2
   go_wp2_with fail
   refine wp_loop_rounds 1 ?_
   rw [rounds_succ]
   go_wp2
   go_ret3
   exact ⟨ret_no HR.out (by have := hkk2.out; omega), hb.out⟩
  rw [drop_cons s k2 hlt2] at HS HN
  have hlt2' : (k2 : Int) < s.size := by omega
  cases hd2 : dg s[k2] with
  | none =>
   have HR := Lib.hid (HN.out _ _ (rd_bad _ _ hd2))
   have HV := Lib.hid (vlo_none hd2)
   clear HS HN hd2
   go_wp2_with fail
   refine wp_loop_rounds 1 ?_
   rw [rounds_succ]
   go_wp2_with fail
   refine (HV.out _).mono ?_
   rintro e w' ⟨rfl, rfl⟩
   go_wp2
   go_ret3
   exact ⟨ret_no HR.out (by have := hkk2.out; omega), hb.out⟩
  | some y =>
   have HV := Lib.hid (vlo_some hd2)
   have hy := dg_lt hd2
   by_cases hlt3 : k3 < s.size
   case neg =>
    have HR := Lib.hid (HN.out _ _ (by rw [drop_end s (k2 + 1) (by have := hkk4.out; omega)]; exact rd_one _ _ hd2))
    have hle : (s.size : Int) ≤ k3 := by omega
    clear HS HN hlt3 hd2
    go_wp2_with fail
    refine wp_loop_rounds 2 ?_
    rw [rounds_succ]
    go_wp2_with fail
    refine (HV.out _).mono ?_
    rintro e w' ⟨rfl, rfl⟩
    go_wp2
    rw [rounds_succ]
    go_wp2
    go_ret3
    exact ⟨ret_no HR.out (by have := hkk3.out; omega), hb.out⟩
   have hd3 := drop_cons s k3 hlt3
   rw [← hkk4.out, hd3] at HS HN
   have hlt3' : (k3 : Int) < s.size := by omega
   clear hd3
   cases hd3 : dg s[k3] with
   | none =>
    have HR := Lib.hid (HN.out _ _ (rd_bad2 _ _ _ _ hd2 hd3))
    have HV2 := Lib.hid (vlo_none hd3)
    clear HS HN hd2 hd3
    go_wp2_with fail
    refine wp_loop_rounds 2 ?_
    rw [rounds_succ]
    go_wp2_with fail
    refine (HV.out _).mono ?_
    rintro e w' ⟨rfl, rfl⟩
    go_wp2_with fail
    rw [rounds_succ]
    go_wp2_with fail
    refine (HV2.out _).mono ?_
    rintro e w' ⟨rfl, rfl⟩
    go_wp2
    go_ret3
    exact ⟨ret_no HR.out (by have := hkk3.out; omega), hb.out⟩
   | some z =>
    have HB := Lib.hid (rd_two s[k2] s[k3] (s.data.toList.drop (k3 + 1)) _ _ hd2 hd3)
    have HV2 := Lib.hid (vlo_some hd3)
    have hz := dg_lt hd3
    have HA1 := Lib.hid (fun w => vlo_aft hd2 w)
    have HA2 := Lib.hid (fun w => vlo_aft hd3 w)
    obtain ⟨d, hde⟩ : ∃ d, y * 16 = d := ⟨_, rfl⟩
    obtain ⟨p, hpe⟩ : ∃ p, 16 * y + z = p := ⟨_, rfl⟩
    have hp : p < 256 := by omega
    have hw1 : IntKind.i64.wrap (k2 : Int) = k2 := by rw [IntKind.wrap_i64]; omega
    have hw2 : IntKind.i64.wrap (k3 : Int) = k3 := by rw [IntKind.wrap_i64]; omega
    have hw3 : IntKind.i64.wrap ((y : Int) * 16) = d := by rw [IntKind.wrap_i64]; omega
    have hw4 : IntKind.i64.wrap ((d : Int) + z) = p := by rw [IntKind.wrap_i64]; omega
    have hw5 : IntKind.u8.wrap (p : Int) = p := by rw [IntKind.wrap_u8]; omega
    have HVb := Lib.hid (show [Value.int .u8 (p : Int)] = [UInt8.ofNat p].map byt by simp only [List.map_cons, List.map_nil, byt, of_nat hp])
    rw [hpe] at HB
    clear HN hd2 hd3 hde hpe
    go_wp2_with fail
    refine wp_loop_rounds 3 ?_
    rw [rounds_succ]
    go_wp2_with fail
    refine (HV.out _).mono ?_
    rintro e w' ⟨rfl, rfl⟩
    go_wp2_with fail
    rw [rounds_succ]
    go_wp2_with fail
    refine (HV2.out _).mono ?_
    rintro e w' ⟨rfl, rfl⟩
    go_wp2_with fail
    rw [rounds_succ]
    go_wp2_with fail
    clear HV HV2
    have c1 : ∀ D os, Calls Tryz.prog 56 #[.int .u8 (s[k2].toNat : Nat)] (grow (redrawn wr D) os) fun e w'' => e = .returned (.int .i64 y) ∧ Aft (grow (redrawn wr D) os) w'' := fun D os => HA1.out _
    have c2 : ∀ D os, Calls Tryz.prog 56 #[.int .u8 (s[k3].toNat : Nat)] (grow (redrawn wr D) os) fun e w'' => e = .returned (.int .i64 z) ∧ Aft (grow (redrawn wr D) os) w'' := fun D os => HA2.out _
    refine region_built 14 _ (Obj.cells #[Value.int .u8 (p : Int)] 5) (fun b => .slice (some ⟨b, 0, none⟩) 1 1) (fun a => a.eval (.tmp 113) = .int .u8 (p : Int)) (Lies [.int .u8 (p : Int)]) (by kernel_rfl) (by kernel_rfl) rfl ?ha ?al (fun b w w' h1 h2 => h1.carry h2) (fun w' h => Lies.made w' rfl) ?go
    case ha =>
     intro i o a v hi ho hw h
     match i, hi with
     | 13, _ => exact (nope hw (by kernel_rfl)).elim
     | 0, _ => cases ho; simpa [go_sem] using h
     | 1, _ => cases ho; simpa [go_sem] using h
     | 2, _ => cases ho; simpa [go_sem] using h
     | 3, _ => cases ho; simpa [go_sem] using h
     | 4, _ => cases ho; simpa [go_sem] using h
     | 5, _ => cases ho; simpa [go_sem] using h
     | 6, _ => cases ho; simpa [go_sem] using h
     | 7, _ => cases ho; simpa [go_sem] using h
     | 8, _ => cases ho; simpa [go_sem] using h
     | 9, _ => cases ho; simpa [go_sem] using h
     | 10, _ => cases ho; simpa [go_sem] using h
     | 11, _ => cases ho; simpa [go_sem] using h
     | 12, _ => cases ho; simpa [go_sem] using h
    case al =>
     intro a w K hA h
     refine wpOp_of rfl rfl ?_
     simp [go_sem] at hA
     go_simp
     exact h
    case go =>
     simp only [List.take_succ_cons, List.take_zero, List.drop_succ_cons, List.drop_zero]
     repeat (refine wpU_step (fun K hK => ?_); go_simp; first | (refine hK _ ?_; clear hK K) | (apply Exists.intro; refine ⟨fun _ => ?_, hK _ ?_⟩; (first | with_reducible exact c1 _ _ | with_reducible exact c2 _ _); clear hK K))

     refine wpU_nil ⟨by simp [go_sem], ?_⟩
     intro b W hbW hl
     replace ho := Lib.hid (own_carry ho.out hbW)
     rw [HVb.out] at hl
     replace hl := Lib.hid hl
     have hB2 := Nat.le_trans hbs hbW.size
     replace hbW := Lib.hid (hbW.mono hbs)
     clear c1 c2 HA1 HA2
     go_wp2_with (at_builtin; refine wpList_app2 rfl _ _ rfl w.heap.size u5 x [UInt8.ofNat p] 1 b rfl rfl rfl hl.out ho.out hB2 (by omega) ?_; intro v2 w2 ho2 hb2; replace ho2 := Lib.hid ho2; replace hb2 := Lib.hid (hbW.out.trans hb2))
     go_roundw
     case rel => exact HS.out _ _ HB.out _ _ _ ho2.out hb2.out (by have := hkk3.out; omega)
     case measure => simp [intOf]; have := hkk3.out; omega
end
end Go.Proofs.YtbknflaooemigaaGreat

namespace Go.Proofs.YtbknflaooemigaaGreat
section
open Go.RowKit Go.Sort
set_option linter.unusedVariables false

set_option maxRecDepth 100000 in
theorem read_empty (w : World) : Calls Tryz.prog 42 #[.string { data := #[] }] w fun e w' => e = .returned (outR ([], 0, false)) ∧ w = w' := by
 go_enter Tryz.func42, Tryz.ntmps42
 go_wp2
 go_ret3
 exact ⟨rfl, rfl⟩

set_option maxRecDepth 100000 in
theorem read_not (s : ByteArray) (w : World) (h0 : 0 < s.size) (h34 : s[0] ≠ 34) : Calls Tryz.prog 42 #[.string s] w fun e w' => e = .returned (outR ([], 0, false)) ∧ w = w' := by
 have e0 : ((s[0].toNat : Int) != 34) = true := b_ne (n := 34) (by decide) h34
 have e00 : ((s.size : Int) == 0) = false := by rw [beq_eq_false_iff_ne]; omega
 clear h34
 go_enter Tryz.func42, Tryz.ntmps42
 go_wp2
 go_ret3
 exact ⟨rfl, rfl⟩

theorem rread_any (s : ByteArray) (w : World) (hs : s.size ≤ 100000) : Calls Tryz.prog 42 #[.string s] w fun e w' => e = .returned (outR (readOf s.data.toList)) ∧ Below w.heap.size w w' := by
 by_cases h0 : 0 < s.size
 ·by_cases h34 : s[0] = 34
  ·rw [read_some s h0 h34]
   exact read_loop s w hs h0 h34 _ (Lib.hid rfl)
  ·rw [read_none s h0 h34]
   exact same_below (read_not s w h0 h34)
 ·rw [empty_of s h0]
  exact same_below (read_empty w)
end
end Go.Proofs.YtbknflaooemigaaGreat
