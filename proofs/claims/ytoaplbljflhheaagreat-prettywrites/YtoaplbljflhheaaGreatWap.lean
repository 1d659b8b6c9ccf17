/-
 Contracts and plain facts on the way to PrettyWrites. Conditions: as each says.
-/
import Derived.Test.YtoaplbljflhheaaGreatWad
import Derived.Test.YtoaplbljflhheaaGreatWam
import Derived.Test.YtoaplbljflhheaaGreatWaj
import Derived.Test.YtoaplbljflhheaaGreatWag
set_option maxHeartbeats 40000000
set_option maxRecDepth 100000
set_option linter.unusedVariables false
set_option linter.unusedSimpArgs false
namespace Go.Proofs.YtoaplbljflhheaaGreat
section
open Go.RowKit Go.Sort
theorem b4g {b : Bool} (h : b = false) (h2 : b = true) : False := by rw [h] at h2; cases h2
abbrev a40 (R : List UInt8 × Nat × Bool) : Value := .tuple #[.string (bs (if R.2.2 then R.1 else [])), .int .i64 (R.2.1 : Nat), .bool R.2.2]
theorem Ic {a : Int} {R : List UInt8 × Nat × Bool} {n : Nat} (h : R.2 = (n, false)) (h1 : a = (n : Nat)) : Ending.returned (.tuple #[.string { data := #[] }, .int .i64 a, .bool false]) = .returned (a40 R) := by
 obtain ⟨x, y⟩ := R
 simp only at h
 subst h h1
 rfl
theorem a6z {a : Int} {R : List UInt8 × Nat × Bool} {n : Nat} {x : List UInt8} (h : R = (x, n, true)) (h1 : a = (n : Nat)) : Ending.returned (.tuple #[.string (bs x), .int .i64 a, .bool true]) = .returned (a40 R) := by
 subst h h1
 rfl
def a84 (s : ByteArray) (w : World) (R : List UInt8 × Nat × Bool) (v i : Value) (wr : World) : Prop :=
 ∃ (k : Nat) (x : List UInt8), 1 ≤ k ∧ k ≤ s.size ∧ i = .int .i64 k ∧ x.length ≤ k ∧ (x ++ (Ci (s.data.toList.drop k)).1, k + (Ci (s.data.toList.drop k)).2.1, (Ci (s.data.toList.drop k)).2.2) = R ∧
  Own wr w.heap.size v x ∧ Below w.heap.size w wr
theorem a84.step {s : ByteArray} {w wr w1 : World} {R : List UInt8 × Nat × Bool} {v' : Value} {k m : Nat} {x : List UInt8} {b : UInt8} (hk : 1 ≤ k) (hx : x.length ≤ k)
  (hR : (x ++ (Ci (s.data.toList.drop k)).1, k + (Ci (s.data.toList.drop k)).2.1, (Ci (s.data.toList.drop k)).2.2) = R) (hq : ¬ (s.data.toList.drop k).head? = some 34) (hr : rb (s.data.toList.drop k) = (b, m, true))
  (hb : Below w.heap.size w wr) (ho : Own w1 w.heap.size v' (x ++ [b])) (hb1 : Below w.heap.size wr w1) {j : Int} (hj : j = (k + m : Nat)) : a84 s w R v' (.int .i64 j) w1 := by
 have hz := Fq (s.data.toList.drop k) (by rw [hr])
 have hst := D8 (s.data.toList.drop k) hq (by rw [hr])
 rw [hr] at hz hst
 rw [List.drop_drop] at hst
 rw [List.length_drop, Ae] at hz
 simp only at hz hst
 subst hj
 refine ⟨k + m, x ++ [b], by omega, by omega, rfl, by simp; omega, ?_, ho, hb.trans hb1⟩
 rw [← hR, hst]
 simp [Nat.add_assoc]
theorem a84.stop {s : ByteArray} {R : List UInt8 × Nat × Bool} {k m : Nat} {x : List UInt8} {b : UInt8} (hR : (x ++ (Ci (s.data.toList.drop k)).1, k + (Ci (s.data.toList.drop k)).2.1, (Ci (s.data.toList.drop k)).2.2) = R)
  (hq : ¬ (s.data.toList.drop k).head? = some 34) (hr : rb (s.data.toList.drop k) = (b, m, false)) : R.2 = (k + m, false) := by
 have hst := Et (s.data.toList.drop k) hq (by rw [hr])
 rw [hr] at hst
 rw [← hR, hst]
theorem Mq {c : UInt8} {x : Nat} (h : dg c = some x) (w : World) : Calls Tryz.prog 187 #[byt c] w fun e w' => e = .returned (.int .i64 x) ∧ w = w' := by
 have := N5 c w
 rw [vlo, h] at this
 exact this
theorem R6 {c : UInt8} (h : dg c = none) (w : World) : Calls Tryz.prog 187 #[byt c] w fun e w' => e = .returned (.int .i64 (-1)) ∧ w = w' := by
 have := N5 c w
 rw [vlo, h] at this
 exact this
theorem Wh {c : UInt8} {x : Nat} (h : dg c = some x) (w : World) : Calls Tryz.prog 187 #[byt c] w fun e w' => e = .returned (.int .i64 x) ∧ Aft w w' := Cx (Mq h w)
theorem Ye (s : ByteArray) (w : World) (hs : s.size ≤ 100000) (h0 : 0 < s.size) (h34 : s[0] = 34) (R : List UInt8 × Nat × Bool)
  (hR : Hid (((Ci (s.data.toList.drop 1)).1, 1 + (Ci (s.data.toList.drop 1)).2.1, (Ci (s.data.toList.drop 1)).2.2) = R)) :
  Calls Tryz.prog 167 #[.string s] w fun e w' => e = .returned (a40 R) ∧ Below w.heap.size w w' := by
 have e0 : ((s[0].toNat : Int) != 34) = false := by rw [h34]; rfl
 have e00 : ((s.size : Int) == 0) = false := by rw [beq_eq_false_iff_ne]; omega
 clear h34
 go_enter Tryz.func167, Tryz.ntmps167
 go_wp2
 go_loopw [5, 6] (fun v i wr => a84 s w R v i wr) (fun _ i _ => s.size - (intOf i).toNat)
 case atStart => exact ⟨1, [], Nat.le_refl _, h0, rfl, by simp, by simpa using hR.out, Kq [] rfl (Nat.le_refl _) 0 rfl (by decide), Aa _ _⟩
 case round =>
  clear hR
  obtain ⟨k, x, hk1, hk, rfl, hx, hR, ho, hb⟩ := hrel
  have hbs := hb.size
  by_cases hlt : k < s.size
  case neg =>
   have HR := zz (show R.2 = (s.size, false) by rw [← hR, Bu s k (by omega), Et [] (by simp) rfl, Yg]; simp; omega)
   have hlt2 : ¬ (k : Int) < s.size := by omega
   replace hb := zz hb
   clear hR ho
   go_wp2
   go_ret3
   exact ⟨Ic HR.out rfl, hb.out⟩
  have hd := Ar s k hlt
  by_cases hout : s[k].toNat < 32 ∨ 126 < s[k].toNat
  case pos =>
   have HR := zz (a84.stop hR (by rw [hd]; intro e; simp at e; rw [e] at hout; revert hout; decide) (by rw [hd]; exact O4 _ _ hout))
   replace hb := zz hb
   clear hR ho hd
   rcases hout with hout | hout
   ·have e1 : (s[k].toNat : Int) < 32 := by omega
    clear hout
    go_wp2
    go_ret3
    exact ⟨Ic HR.out (by omega), hb.out⟩
   ·have e1 : (126 : Int) < s[k].toNat := by omega
    clear hout
    go_wp2
    go_ret3
    exact ⟨Ic HR.out (by omega), hb.out⟩
  have e1 : (32 : Int) ≤ s[k].toNat := by omega
  have e2 : (s[k].toNat : Int) ≤ 126 := by omega
  by_cases hq : s[k] = 34
  case pos =>
   have HR := zz (show R = (x, k + 1, true) by rw [← hR, Dk _ (by rw [hd, hq]; rfl)]; simp)
   have e3 : ((s[k].toNat : Int) == 34) = true := by rw [hq]; rfl
   have hcv := Fu ho
   replace hb := zz hb
   clear hR ho hd hq hout e1 e2
   have e1 : (32 : Int) ≤ s[k].toNat := by have := eq_of_beq e3; omega
   have e2 : (s[k].toNat : Int) ≤ 126 := by have := eq_of_beq e3; omega
   go_wp2
   go_ret3
   exact ⟨a6z HR.out (by omega), hb.out⟩
  have e3 : ((s[k].toNat : Int) == 34) = false := Ac (n := 34) (by decide) hq
  have hq' : ¬ (s.data.toList.drop k).head? = some 34 := by rw [hd]; simpa using hq
  have HS := zz (fun b m (hr : rb (s.data.toList.drop k) = (b, m, true)) w1 v' j (h1 : Own w1 w.heap.size v' (x ++ [b])) (h2 : Below w.heap.size wr w1) (hj : j = ((k + m : Nat) : Int)) => a84.step hk1 hx hR hq' hr hb h1 h2 hj)
  have HN := zz (fun b m (hr : rb (s.data.toList.drop k) = (b, m, false)) => a84.stop hR hq' hr)
  replace ho := zz ho
  replace hb := zz hb
  rw [hd] at HS HN
  clear hq' hR hd hq
  by_cases h92 : s[k] = 92
  case neg =>
   have HB := zz (Ie s[k] (s.data.toList.drop (k + 1)) hout h92)
   have e4 : ((s[k].toNat : Int) != 92) = true := b2x (n := 92) (by decide) h92
   clear hout h92
   go_wp2_with (at_builtin; refine A5 rfl _ _ rfl w.heap.size u5 x [s[k]] 1 rfl rfl rfl rfl ho.out hbs (by omega) ?_; intro v2 w2 ho2 hb2; replace ho2 := zz ho2; replace hb2 := zz hb2)
   go_roundw
   case rel => exact HS.out _ _ HB.out _ _ _ ho2.out hb2.out (by omega)
   case measure => simp [intOf]; omega
  have e4 : ((s[k].toNat : Int) != 92) = false := by rw [h92]; rfl
  rw [h92] at HS HN
  clear hout h92
  obtain ⟨k1, hk1e⟩ : ∃ k1, k + 1 = k1 := ⟨_, rfl⟩
  have hk1w : (k : Int) + 1 = k1 := by omega
  have hk1b : k1 ≤ 100001 := by omega
  have hkk := zz hk1e
  rw [hk1e] at HS HN
  clear hk1e
  by_cases hlt1 : k1 < s.size
  case neg =>
   have HR := zz (HN.out _ _ (by rw [Bu s k1 (by omega)]; exact O5))
   have hle : (s.size : Int) ≤ k1 := by omega
   clear HS HN hlt1
   go_wp2
   go_ret3
   exact ⟨Ic HR.out (by omega), hb.out⟩
  rw [Ar s k1 hlt1] at HS HN
  have hlt1' : (k1 : Int) < s.size := by omega
  by_cases g34 : s[k1] = 34
  case pos =>
   have HB := zz (O6 s[k1] (s.data.toList.drop (k1 + 1)) (by rw [g34]; decide) s[k1] (by rw [g34]; rfl))
   have e5 : ((s[k1].toNat : Int) == 34) = true := by rw [g34]; rfl
   clear g34
   go_wp2_with (at_builtin; refine A5 rfl _ _ rfl w.heap.size u5 x [s[k1]] 1 rfl rfl rfl rfl ho.out hbs (by omega) ?_; intro v2 w2 ho2 hb2; replace ho2 := zz ho2; replace hb2 := zz hb2)
   go_roundw
   case rel => exact HS.out _ _ HB.out _ _ _ ho2.out hb2.out (by omega)
   case measure => simp [intOf]; omega
  have e5 : ((s[k1].toNat : Int) == 34) = false := Ac (n := 34) (by decide) g34
  by_cases g92 : s[k1] = 92
  case pos =>
   have HB := zz (O6 s[k1] (s.data.toList.drop (k1 + 1)) (by rw [g92]; decide) s[k1] (by rw [g92]; rfl))
   have e6 : ((s[k1].toNat : Int) == 92) = true := by rw [g92]; rfl
   clear g92 g34
   go_wp2_with (at_builtin; refine A5 rfl _ _ rfl w.heap.size u5 x [s[k1]] 1 rfl rfl rfl rfl ho.out hbs (by omega) ?_; intro v2 w2 ho2 hb2; replace ho2 := zz ho2; replace hb2 := zz hb2)
   go_roundw
   case rel => exact HS.out _ _ HB.out _ _ _ ho2.out hb2.out (by omega)
   case measure => simp [intOf]; omega
  have e6 : ((s[k1].toNat : Int) == 92) = false := Ac (n := 92) (by decide) g92
  by_cases g110 : s[k1] = 110
  case pos =>
   have HB := zz (O6 s[k1] (s.data.toList.drop (k1 + 1)) (by rw [g110]; decide) 10 (by rw [g110]; rfl))
   have e7 : ((s[k1].toNat : Int) == 110) = true := by rw [g110]; rfl
   clear g92 g34 g110
   go_wp2_with (at_builtin; refine A5 rfl _ _ rfl w.heap.size u5 x [10] 1 rfl rfl rfl rfl ho.out hbs (by omega) ?_; intro v2 w2 ho2 hb2; replace ho2 := zz ho2; replace hb2 := zz hb2)
   go_roundw
   case rel => exact HS.out _ _ HB.out _ _ _ ho2.out hb2.out (by omega)
   case measure => simp [intOf]; omega
  have e7 : ((s[k1].toNat : Int) == 110) = false := Ac (n := 110) (by decide) g110
  by_cases g116 : s[k1] = 116
  case pos =>
   have HB := zz (O6 s[k1] (s.data.toList.drop (k1 + 1)) (by rw [g116]; decide) 9 (by rw [g116]; rfl))
   have e8 : ((s[k1].toNat : Int) == 116) = true := by rw [g116]; rfl
   clear g92 g34 g110 g116
   go_wp2_with (at_builtin; refine A5 rfl _ _ rfl w.heap.size u5 x [9] 1 rfl rfl rfl rfl ho.out hbs (by omega) ?_; intro v2 w2 ho2 hb2; replace ho2 := zz ho2; replace hb2 := zz hb2)
   go_roundw
   case rel => exact HS.out _ _ HB.out _ _ _ ho2.out hb2.out (by omega)
   case measure => simp [intOf]; omega
  have e8 : ((s[k1].toNat : Int) == 116) = false := Ac (n := 116) (by decide) g116
  by_cases g120 : s[k1] = 120
  case neg =>
   have HR := zz (HN.out _ _ (Yf s[k1] (s.data.toList.drop (k1 + 1)) g120 (by simp [bk, g34, g92, g110, g116])))
   have e9 : ((s[k1].toNat : Int) == 120) = false := Ac (n := 120) (by decide) g120
   clear g92 g34 g110 g116 g120 HS HN
   go_wp2
   go_ret3
   exact ⟨Ic HR.out (by omega), hb.out⟩
  have e9 : ((s[k1].toNat : Int) == 120) = true := by rw [g120]; rfl
  rw [g120] at HS HN
  clear g92 g34 g110 g116 g120
  obtain ⟨k2, hk2e⟩ : ∃ k2, k1 + 1 = k2 := ⟨_, rfl⟩
  obtain ⟨k3, hk3e⟩ : ∃ k3, k1 + 2 = k3 := ⟨_, rfl⟩
  have hk2w : (k1 : Int) + 1 = k2 := by omega
  have hk3w : (k1 : Int) + 2 = k3 := by omega
  have hk2b : k2 ≤ 100002 := by omega
  have hk3b : k3 ≤ 100003 := by omega
  have hkk2 := zz (show k2 = k + 2 by have := hkk.out; omega)
  have hkk3 := zz (show k3 = k + 3 by have := hkk.out; omega)
  have hkk4 := zz (show k3 = k2 + 1 by omega)
  rw [hk2e, a87] at HS HN
  clear hk2e hk3e
  by_cases hlt2 : k2 < s.size
  case neg =>
   have HR := zz (HN.out _ _ (by rw [Bu s k2 (by omega)]; exact O2))
   have hle : (s.size : Int) ≤ k2 := by omega
   clear HS HN hlt2
   go_wp2_with fail
   refine wp_loop_rounds 1 ?_
   rw [rounds_succ]
   go_wp2
   go_ret3
   exact ⟨Ic HR.out (by have := hkk2.out; omega), hb.out⟩
  rw [Ar s k2 hlt2] at HS HN
  have hlt2' : (k2 : Int) < s.size := by omega
  cases hd2 : dg s[k2] with
  | none =>
   have HR := zz (HN.out _ _ (O3 _ _ hd2))
   have HV := zz (R6 hd2)
   clear HS HN hd2
   go_wp2_with fail
   refine wp_loop_rounds 1 ?_
   rw [rounds_succ]
   go_wp2_with fail
   refine (HV.out _).mono ?_
   rintro e w' ⟨rfl, rfl⟩
   go_wp2
   go_ret3
   exact ⟨Ic HR.out (by have := hkk2.out; omega), hb.out⟩
  | some y =>
   have HV := zz (Mq hd2)
   have hy := P7 hd2
   by_cases hlt3 : k3 < s.size
   case neg =>
    have HR := zz (HN.out _ _ (by rw [Bu s (k2 + 1) (by have := hkk4.out; omega)]; exact O1 _ _ hd2))
    have hle : (s.size : Int) ≤ k3 := by omega
    clear HS HN hlt3 hd2
    go_wp2_with fail
    refine wp_loop_rounds 2 ?_
    rw [rounds_succ]
    go_wp2_with fail
    refine (HV.out _).mono ?_
    rintro e w' ⟨rfl, rfl⟩
    go_wp2
    rw [rounds_succ]
    go_wp2
    go_ret3
    exact ⟨Ic HR.out (by have := hkk3.out; omega), hb.out⟩
   have hd3 := Ar s k3 hlt3
   rw [← hkk4.out, hd3] at HS HN
   have hlt3' : (k3 : Int) < s.size := by omega
   clear hd3
   cases hd3 : dg s[k3] with
   | none =>
    have HR := zz (HN.out _ _ (Kn _ _ _ _ hd2 hd3))
    have HV2 := zz (R6 hd3)
    clear HS HN hd2 hd3
    go_wp2_with fail
    refine wp_loop_rounds 2 ?_
    rw [rounds_succ]
    go_wp2_with fail
    refine (HV.out _).mono ?_
    rintro e w' ⟨rfl, rfl⟩
    go_wp2_with fail
    rw [rounds_succ]
    go_wp2_with fail
    refine (HV2.out _).mono ?_
    rintro e w' ⟨rfl, rfl⟩
    go_wp2
    go_ret3
    exact ⟨Ic HR.out (by have := hkk3.out; omega), hb.out⟩
   | some z =>
    have HB := zz (O0 s[k2] s[k3] (s.data.toList.drop (k3 + 1)) _ _ hd2 hd3)
    have HV2 := zz (Mq hd3)
    have hz := P7 hd3
    have HA1 := zz (fun w => Wh hd2 w)
    have HA2 := zz (fun w => Wh hd3 w)
    obtain ⟨d, hde⟩ : ∃ d, y * 16 = d := ⟨_, rfl⟩
    obtain ⟨p, hpe⟩ : ∃ p, 16 * y + z = p := ⟨_, rfl⟩
    have hp : p < 256 := by omega
    have hw1 : IntKind.i64.wrap (k2 : Int) = k2 := by rw [IntKind.wrap_i64]; omega
    have hw2 : IntKind.i64.wrap (k3 : Int) = k3 := by rw [IntKind.wrap_i64]; omega
    have hw3 : IntKind.i64.wrap ((y : Int) * 16) = d := by rw [IntKind.wrap_i64]; omega
    have hw4 : IntKind.i64.wrap ((d : Int) + z) = p := by rw [IntKind.wrap_i64]; omega
    have hw5 : IntKind.u8.wrap (p : Int) = p := by rw [IntKind.wrap_u8]; omega
    have HVb := zz (show [Value.int .u8 (p : Int)] = [UInt8.ofNat p].map byt by simp only [List.map_cons, List.map_nil, byt, Md hp])
    rw [hpe] at HB
    clear HN hd2 hd3 hde hpe
    go_wp2_with fail
    refine wp_loop_rounds 3 ?_
    rw [rounds_succ]
    go_wp2_with fail
    refine (HV.out _).mono ?_
    rintro e w' ⟨rfl, rfl⟩
    go_wp2_with fail
    rw [rounds_succ]
    go_wp2_with fail
    refine (HV2.out _).mono ?_
    rintro e w' ⟨rfl, rfl⟩
    go_wp2_with fail
    rw [rounds_succ]
    go_wp2_with fail
    clear HV HV2
    have c1 : ∀ D os, Calls Tryz.prog 187 #[.int .u8 (s[k2].toNat : Nat)] (grow (redrawn wr D) os) fun e w'' => e = .returned (.int .i64 y) ∧ Aft (grow (redrawn wr D) os) w'' := fun D os => HA1.out _
    have c2 : ∀ D os, Calls Tryz.prog 187 #[.int .u8 (s[k3].toNat : Nat)] (grow (redrawn wr D) os) fun e w'' => e = .returned (.int .i64 z) ∧ Aft (grow (redrawn wr D) os) w'' := fun D os => HA2.out _
    refine Gr 14 _ (Obj.cells #[Value.int .u8 (p : Int)] 5) (fun b => .slice (some ⟨b, 0, none⟩) 1 1) (fun a => a.eval (.tmp 113) = .int .u8 (p : Int)) (N0 [.int .u8 (p : Int)]) (by kernel_rfl) (by kernel_rfl) rfl ?ha ?al (fun b w w' h1 h2 => h1.carry h2) (fun w' h => N0.made w' rfl) ?go
    case ha =>
     intro i o a v hi ho hw h
     match i, hi with
     | 13, _ => exact (b4g hw (by kernel_rfl)).elim
     | 0, _ => cases ho; simpa [go_sem] using h
     | 1, _ => cases ho; simpa [go_sem] using h
     | 2, _ => cases ho; simpa [go_sem] using h
     | 3, _ => cases ho; simpa [go_sem] using h
     | 4, _ => cases ho; simpa [go_sem] using h
     | 5, _ => cases ho; simpa [go_sem] using h
     | 6, _ => cases ho; simpa [go_sem] using h
     | 7, _ => cases ho; simpa [go_sem] using h
     | 8, _ => cases ho; simpa [go_sem] using h
     | 9, _ => cases ho; simpa [go_sem] using h
     | 10, _ => cases ho; simpa [go_sem] using h
     | 11, _ => cases ho; simpa [go_sem] using h
     | 12, _ => cases ho; simpa [go_sem] using h
    case al =>
     intro a w K hA h
     refine Bh rfl rfl ?_
     simp [go_sem] at hA
     go_simp
     exact h
    case go =>
     simp only [List.take_succ_cons, List.take_zero, List.drop_succ_cons, List.drop_zero]
     repeat (refine A9 (fun K hK => ?_); go_simp; first | (refine hK _ ?_; clear hK K) | (apply Exists.intro; refine ⟨fun _ => ?_, hK _ ?_⟩; (first | with_reducible exact c1 _ _ | with_reducible exact c2 _ _); clear hK K))
     refine Bn ⟨by simp [go_sem], ?_⟩
     intro b W hbW hl
     replace ho := zz (Du ho.out hbW)
     rw [HVb.out] at hl
     replace hl := zz hl
     have hB2 := Nat.le_trans hbs hbW.size
     replace hbW := zz (hbW.mono hbs)
     clear c1 c2 HA1 HA2
     go_wp2_with (at_builtin; refine Hp rfl _ _ rfl w.heap.size u5 x [UInt8.ofNat p] 1 b rfl rfl rfl hl.out ho.out hB2 (by omega) ?_; intro v2 w2 ho2 hb2; replace ho2 := zz ho2; replace hb2 := zz (hbW.out.trans hb2))
     go_roundw
     case rel => exact HS.out _ _ HB.out _ _ _ ho2.out hb2.out (by have := hkk3.out; omega)
     case measure => simp [intOf]; have := hkk3.out; omega
end
end Go.Proofs.YtoaplbljflhheaaGreat
namespace Go.Proofs.YtoaplbljflhheaaGreat
section
open Go.RowKit Go.Sort
theorem Uv (w : World) : Calls Tryz.prog 167 #[.string { data := #[] }] w fun e w' => e = .returned (a40 ([], 0, false)) ∧ w = w' := by
 go_enter Tryz.func167, Tryz.ntmps167
 go_wp2
 go_ret3
 exact ⟨rfl, rfl⟩
theorem a13 (s : ByteArray) (w : World) (h0 : 0 < s.size) (h34 : s[0] ≠ 34) : Calls Tryz.prog 167 #[.string s] w fun e w' => e = .returned (a40 ([], 0, false)) ∧ w = w' := by
 have e0 : ((s[0].toNat : Int) != 34) = true := b2x (n := 34) (by decide) h34
 have e00 : ((s.size : Int) == 0) = false := by rw [beq_eq_false_iff_ne]; omega
 clear h34
 go_enter Tryz.func167, Tryz.ntmps167
 go_wp2
 go_ret3
 exact ⟨rfl, rfl⟩
theorem X0 (s : ByteArray) (w : World) (hs : s.size ≤ 100000) : Calls Tryz.prog 167 #[.string s] w fun e w' => e = .returned (a40 (Bb s.data.toList)) ∧ Below w.heap.size w w' := by
 by_cases h0 : 0 < s.size
 ·by_cases h34 : s[0] = 34
  ·rw [Ox s h0 h34]
   exact Ye s w hs h0 h34 _ (zz rfl)
  ·rw [Oy s h0 h34]
   exact Cx (a13 s w h0 h34)
 ·rw [Co s h0]
  exact Cx (Uv w)
end
end Go.Proofs.YtoaplbljflhheaaGreat
namespace Go.Proofs.YtoaplbljflhheaaGreat
open Go.RowKit Go.Sort
def Mw (r : Int) : Bool := (decide (97 ≤ r) && decide (r ≤ 122)) || decide (r = 95)
def Qf (r : Int) : Bool := decide (65 ≤ r) && decide (r ≤ 90)
def Y3 (r : Int) : Bool := Mw r || Qf r || (decide (48 ≤ r) && decide (r ≤ 57))
theorem Kz (r : Int) (w : World) (p : Bool) (hp : Mw r = p) : Calls Tryz.prog 106 #[.int .i32 r] w fun e w' => e = .returned (.bool p) ∧ w = w' := by
 subst hp
 by_cases a1 : 97 ≤ r
 ·by_cases a2 : r ≤ 122
  ·rw [show Mw r = true by simp [Mw, a1, a2]]
   go_enter Tryz.func106, Tryz.ntmps106
   go_wp2
   go_ret
   exact ⟨rfl, rfl⟩
  ·rw [show Mw r = false by simp [Mw, a2]; omega]
   have e : (r == 95) = false := by rw [beq_eq_false_iff_ne]; omega
   go_enter Tryz.func106, Tryz.ntmps106
   go_wp2
   go_ret
   exact ⟨rfl, rfl⟩
 ·by_cases a3 : r = 95
  ·rw [show Mw r = true by simp [Mw, a3]]
   subst a3
   go_enter Tryz.func106, Tryz.ntmps106
   go_wp2
   go_ret
   exact ⟨rfl, rfl⟩
  ·rw [show Mw r = false by simp [Mw, a1, a3]]
   have e : (r == 95) = false := by rw [beq_eq_false_iff_ne]; exact a3
   clear a3
   go_enter Tryz.func106, Tryz.ntmps106
   go_wp2
   go_ret
   exact ⟨rfl, rfl⟩
theorem K3 (r : Int) (w : World) (p : Bool) (hp : Qf r = p) : Calls Tryz.prog 105 #[.int .i32 r] w fun e w' => e = .returned (.bool p) ∧ w = w' := by
 subst hp
 by_cases a1 : 65 ≤ r
 ·by_cases a2 : r ≤ 90
  ·rw [show Qf r = true by simp [Qf, a1, a2]]
   go_enter Tryz.func105, Tryz.ntmps105
   go_wp2
   go_ret
   exact ⟨rfl, rfl⟩
  ·rw [show Qf r = false by simp [Qf, a2]]
   go_enter Tryz.func105, Tryz.ntmps105
   go_wp2
   go_ret
   exact ⟨rfl, rfl⟩
 ·rw [show Qf r = false by simp [Qf, a1]]
  go_enter Tryz.func105, Tryz.ntmps105
  go_wp2
  go_ret
  exact ⟨rfl, rfl⟩
theorem P0 (r : Int) (w : World) (p : Bool) (hp : Y3 r = p) : Calls Tryz.prog 149 #[.int .i32 r] w fun e w' => e = .returned (.bool p) ∧ w = w' := by
 subst hp
 have HS := zz (Kz r w)
 have HG := zz (K3 r w)
 cases h1 : Mw r with
 | true =>
  rw [show Y3 r = true by simp [Y3, h1]]
  replace h1 := zz h1
  go_enter Tryz.func149, Tryz.ntmps149
  go_wp2_with (go_at_call 106; refine (HS.out true h1.out).mono ?_; rintro e w' ⟨rfl, rfl⟩)
  go_ret
  exact ⟨rfl, rfl⟩
 | false =>
  cases h2 : Qf r with
  | true =>
   rw [show Y3 r = true by simp [Y3, h2]]
   replace h1 := zz h1
   replace h2 := zz h2
   go_enter Tryz.func149, Tryz.ntmps149
   go_wp2_with (first | (go_at_call 106; refine (HS.out false h1.out).mono ?_; rintro e w' ⟨rfl, rfl⟩) | (go_at_call 105; refine (HG.out true h2.out).mono ?_; rintro e w' ⟨rfl, rfl⟩))
   go_ret
   exact ⟨rfl, rfl⟩
  | false =>
   rw [show Y3 r = (decide (48 ≤ r) && decide (r ≤ 57)) by simp [Y3, h1, h2]]
   replace h1 := zz h1
   replace h2 := zz h2
   by_cases a1 : 48 ≤ r
   ·by_cases a2 : r ≤ 57
    ·rw [show (decide (48 ≤ r) && decide (r ≤ 57)) = true by simp [a1, a2]]
     go_enter Tryz.func149, Tryz.ntmps149
     go_wp2_with (first | (go_at_call 106; refine (HS.out false h1.out).mono ?_; rintro e w' ⟨rfl, rfl⟩) | (go_at_call 105; refine (HG.out false h2.out).mono ?_; rintro e w' ⟨rfl, rfl⟩))
     go_ret
     exact ⟨rfl, rfl⟩
    ·rw [show (decide (48 ≤ r) && decide (r ≤ 57)) = false by simp [a2]]
     have e2 : decide (r ≤ 57) = false := by simpa using a2
     go_enter Tryz.func149, Tryz.ntmps149
     go_wp2_with (first | (go_at_call 106; refine (HS.out false h1.out).mono ?_; rintro e w' ⟨rfl, rfl⟩) | (go_at_call 105; refine (HG.out false h2.out).mono ?_; rintro e w' ⟨rfl, rfl⟩))
     go_ret
     exact ⟨rfl, rfl⟩
   ·rw [show (decide (48 ≤ r) && decide (r ≤ 57)) = false by simp [a1]]
    go_enter Tryz.func149, Tryz.ntmps149
    go_wp2_with (first | (go_at_call 106; refine (HS.out false h1.out).mono ?_; rintro e w' ⟨rfl, rfl⟩) | (go_at_call 105; refine (HG.out false h2.out).mono ?_; rintro e w' ⟨rfl, rfl⟩))
    go_ret
    exact ⟨rfl, rfl⟩
theorem Kr (c : UInt8) : Y3 (c.toNat : Nat) = nam c := by
 have h : (c = 95) ↔ c.toNat = 95 := ⟨fun e => by rw [e]; rfl, fun e => UInt8.toNat_inj.1 (by rw [e]; rfl)⟩
 rw [Bool.eq_iff_iff]
 simp [Y3, Mw, Qf, nam, sml, grt, dgt, h]
 omega
theorem Ww (c : UInt8) : Mw (c.toNat : Nat) = sml c := by
 have h : (c = 95) ↔ c.toNat = 95 := ⟨fun e => by rw [e]; rfl, fun e => UInt8.toNat_inj.1 (by rw [e]; rfl)⟩
 rw [Bool.eq_iff_iff]
 simp [Mw, sml, h]
 omega
theorem Zm (c : UInt8) : Qf (c.toNat : Nat) = grt c := by
 rw [Bool.eq_iff_iff]
 simp [Qf, grt]
 omega
theorem Pj {r : Int} (h : 128 ≤ r) : Y3 r = false := by simp [Y3, Mw, Qf]; omega
theorem a2q {c : UInt8} (h : 128 ≤ c.toNat) : nam c = false := by rw [← Kr]; exact Pj (by omega)
def Iw (q : Int → Bool) (l : List UInt8) : Bool := !l.isEmpty && q (l.headD 0).toNat && l.all nam
theorem Og {q : Int → Bool} {s : ByteArray} {k : Nat} (hk : k < s.size) (h : nam s[k] = false) : Iw q s.data.toList = false := by
 unfold Iw
 rw [Bool.and_eq_false_iff]
 right
 rw [List.all_eq_false]
 refine ⟨s[k], ?_, by simp [h]⟩
 have := Jy s k hk
 exact List.mem_of_getElem? this
theorem Tu {q : Int → Bool} {s : ByteArray} (hk : 0 < s.size) (h : q (s[0].toNat : Nat) = false) : Iw q s.data.toList = false := by
 unfold Iw
 rw [B9 s hk, h]
 simp
theorem Tv {q : Int → Bool} {s : ByteArray} (hk : 0 < s.size) (h : q (s[0].toNat : Nat) = true) (ha : ∀ k (hk : k < s.size), nam s[k] = true) : Iw q s.data.toList = true := by
 unfold Iw
 rw [B9 s hk, h]
 have h1 : s.data.toList.isEmpty = false := by
  rw [List.isEmpty_eq_false_iff]
  intro e
  rw [← Ae, e] at hk
  simp at hk
 rw [h1]
 simp only [Bool.not_false, Bool.and_true, Bool.true_and]
 rw [List.all_eq_true]
 intro c hc
 obtain ⟨k, hk, rfl⟩ := List.getElem_of_mem hc
 exact ha k (by rw [Ae] at hk; exact hk)
def J5 (f : FuncId) (q : Int → Bool) : Prop := (∀ args w, (callFunc f args).run Tryz.prog w = .ok (.enter f args) w) ∧ ∀ r w p, q r = p → Calls Tryz.prog f #[.int .i32 r] w fun e w' => e = .returned (.bool p) ∧ w = w'
theorem Nh (f : FuncId) (w : World) : Calls Tryz.prog 104 #[.string { data := #[] }, .func (.func f) #[] #[]] w fun e w' => e = .returned (.bool false) ∧ Below w.heap.size w w' := by
 have hnx : ∀ ty, (Instr.next (.pointer (some ⟨w.heap.size, 0, none⟩)) true ty).run Tryz.prog (w.iter { data := #[] } 0) = _ := fun ty => run_next_end w { data := #[] } 0 ty (by decide)
 go_enter Tryz.func104, Tryz.ntmps104
 go_wp2
 refine wp_loop_rounds 1 ?_
 rw [rounds_succ]
 go_wp2
 go_ret
 exact ⟨rfl, Aa _ _⟩
theorem Py (f : FuncId) (q : Int → Bool) (hf : Hid (J5 f q)) (s : ByteArray) (w : World) (h0 : 0 < s.size) (P : Bool) (hP : Hid (Iw q s.data.toList = P)) :
  Calls Tryz.prog 104 #[.string s, .func (.func f) #[] #[]] w fun e w' => e = .returned (.bool P) ∧ Below w.heap.size w w' := by
 have eg := hf.out.1
 have HI := zz P0
 have h0' := zz h0
 go_enter Tryz.func104, Tryz.ntmps104
 go_wp2_with fail
 go_loopw [5] (fun _ wr => ∃ pos : Nat, wr = w.iter s pos ∧ pos ≤ s.size ∧ (0 < pos → q (s[0].toNat : Nat) = true) ∧ ∀ k (hk : k < s.size), k < pos → nam s[k] = true) (fun _ wr => s.size - wr.iterPos w.heap.size)
 case atStart => exact ⟨0, rfl, Nat.zero_le _, fun h => absurd h (by omega), fun k _ h => absurd h (by omega)⟩
 case round =>
  obtain ⟨pos, rfl, hpos, hq, hall⟩ := hrel
  replace hall := zz hall
  by_cases hp : pos < s.size
  ·by_cases ha : s[pos].toNat < 128
   ·have hnx : ∀ ty, (Instr.next (.pointer (some ⟨w.heap.size, 0, none⟩)) true ty).run Tryz.prog (w.iter s pos) = _ := fun ty => run_next_ascii w s pos ty hp ha
    cases hn : nam s[pos] with
    | false =>
     have hP' : P = false := by rw [← hP.out]; exact Og hp hn
     subst hP'
     rw [← Kr] at hn
     replace hn := zz hn
     by_cases hz : pos = 0
     ·subst hz
      cases hq0 : q (s[0].toNat : Nat) with
      | false =>
       replace hq0 := zz hq0
       clear hq ha
       go_wp2_with fail
       refine (hf.out.2 _ _ false hq0.out).mono ?_
       rintro e w' ⟨rfl, rfl⟩
       go_wp2_with fail
       go_ret
       exact ⟨rfl, Aa _ _⟩
      | true =>
       replace hq0 := zz hq0
       clear hq ha
       go_wp2_with fail
       refine (hf.out.2 _ _ true hq0.out).mono ?_
       rintro e w' ⟨rfl, rfl⟩
       go_wp2_with (go_at_call 149; refine (HI.out _ _ false hn.out).mono ?_; rintro e w' ⟨rfl, rfl⟩)
       go_ret
       exact ⟨rfl, Aa _ _⟩
     ·have e0 : ((pos : Int) == 0) = false := by rw [beq_eq_false_iff_ne]; omega
      clear hq ha hz
      go_wp2_with (go_at_call 149; refine (HI.out _ _ false hn.out).mono ?_; rintro e w' ⟨rfl, rfl⟩)
      go_ret
      exact ⟨rfl, Aa _ _⟩
    | true =>
     have HA := zz (show ∀ k (hk : k < s.size), k < pos + 1 → nam s[k] = true from fun k hk h => by
      by_cases e : k = pos
      ·subst e; exact hn
      ·exact hall.out k hk (by omega))
     rw [← Kr] at hn
     replace hn := zz hn
     by_cases hz : pos = 0
     ·subst hz
      cases hq0 : q (s[0].toNat : Nat) with
      | false =>
       have hP' : P = false := by rw [← hP.out]; exact Tu hp hq0
       subst hP'
       replace hq0 := zz hq0
       clear hq ha
       go_wp2_with fail
       refine (hf.out.2 _ _ false hq0.out).mono ?_
       rintro e w' ⟨rfl, rfl⟩
       go_wp2_with fail
       go_ret
       exact ⟨rfl, Aa _ _⟩
      | true =>
       replace hq0 := zz hq0
       clear hq ha
       go_wp2_with fail
       refine (hf.out.2 _ _ true hq0.out).mono ?_
       rintro e w' ⟨rfl, rfl⟩
       go_wp2_with (go_at_call 149; refine (HI.out _ _ true hn.out).mono ?_; rintro e w' ⟨rfl, rfl⟩)
       go_roundw
       case rel => exact ⟨1, rfl, by omega, fun _ => by first | exact hq0.out | trivial, HA.out⟩
       case measure => simp; omega
     ·have e0 : ((pos : Int) == 0) = false := by rw [beq_eq_false_iff_ne]; omega
      have HQ := zz (hq (by omega))
      clear hq ha
      go_wp2_with (go_at_call 149; refine (HI.out _ _ true hn.out).mono ?_; rintro e w' ⟨rfl, rfl⟩)
      go_roundw
      case rel => exact ⟨pos + 1, rfl, by omega, fun _ => HQ.out, HA.out⟩
      case measure => simp; omega
   ·have hnx : ∀ ty, (Instr.next (.pointer (some ⟨w.heap.size, 0, none⟩)) true ty).run Tryz.prog (w.iter s pos) = _ := fun ty => run_next_any w s pos ty hp
    have hP' : P = false := by rw [← hP.out]; exact Og hp (a2q (by omega))
    subst hP'
    obtain ⟨g1, g2⟩ := decode_high s pos hp (by omega)
    have hn := zz (Pj (r := ((Utf8.decode s pos).1 : Nat)) (by omega))
    clear hq ha
    generalize (Utf8.decode s pos).1 = r at hnx hn g1
    generalize (Utf8.decode s pos).2 = m at hnx g2
    clear g1 g2
    by_cases hz : pos = 0
    ·subst hz
     cases hq0 : q (r : Nat) with
     | false =>
      replace hq0 := zz hq0
      go_wp2_with fail
      refine (hf.out.2 _ _ false hq0.out).mono ?_
      rintro e w' ⟨rfl, rfl⟩
      go_wp2_with fail
      go_ret
      exact ⟨rfl, Aa _ _⟩
     | true =>
      replace hq0 := zz hq0
      go_wp2_with fail
      refine (hf.out.2 _ _ true hq0.out).mono ?_
      rintro e w' ⟨rfl, rfl⟩
      go_wp2_with (go_at_call 149; refine (HI.out _ _ false hn.out).mono ?_; rintro e w' ⟨rfl, rfl⟩)
      go_ret
      exact ⟨rfl, Aa _ _⟩
    ·have e0 : ((pos : Int) == 0) = false := by rw [beq_eq_false_iff_ne]; omega
     clear hz
     go_wp2_with (go_at_call 149; refine (HI.out _ _ false hn.out).mono ?_; rintro e w' ⟨rfl, rfl⟩)
     go_ret
     exact ⟨rfl, Aa _ _⟩
  ·have hnx : ∀ ty, (Instr.next (.pointer (some ⟨w.heap.size, 0, none⟩)) true ty).run Tryz.prog (w.iter s pos) = _ := fun ty => run_next_end w s pos ty hp
   have hP' : P = true := by rw [← hP.out]; exact Tv h0 (hq (by omega)) fun k hk => hall.out k hk (by omega)
   subst hP'
   have e1 : (s.toList == []) = false := by
    rw [ByteArray.toList_eq, beq_eq_false_iff_ne]
    intro e
    rw [← Ae, e] at h0
    simp at h0
   have e2 : (s.toList != []) = true := by rw [bne, e1]; rfl
   have e3 : s.toList.isEmpty = false := by rw [← e1]; cases s.toList <;> rfl
   clear hq
   go_wp2_with fail
   go_ret
   exact ⟨rfl, Aa _ _⟩
theorem Ky (f : FuncId) (q : Int → Bool) (hf : J5 f q) (s : ByteArray) (w : World) (P : Bool) (hP : Iw q s.data.toList = P) :
  Calls Tryz.prog 104 #[.string s, .func (.func f) #[] #[]] w fun e w' => e = .returned (.bool P) ∧ Below w.heap.size w w' := by
 by_cases h0 : 0 < s.size
 ·exact Py f q (zz hf) s w h0 P (zz hP)
 ·have := Co s h0
  subst this
  have hP' : P = false := by rw [← hP]; rfl
  subst hP'
  exact Nh f w
theorem Tw : J5 106 Mw := ⟨by intro args w; simp [go_sem], fun r w p h => Kz r w p h⟩
theorem Vg : J5 105 Qf := ⟨by intro args w; simp [go_sem], fun r w p h => K3 r w p h⟩
def Dm (l : List UInt8) : Bool := Iw Mw l && !C0 l
def Gc (l : List UInt8) : Bool := Iw Qf l
theorem L1 (s : ByteArray) (w : World) (p : Bool) (hp : Gc s.data.toList = p) : Calls Tryz.prog 70 #[.string s] w fun e w' => e = .returned (.bool p) ∧ Below w.heap.size w w' := by
 have H := zz (Ky 105 Qf Vg s w p hp)
 clear hp
 go_enter Tryz.func70, Tryz.ntmps70
 go_wp2_with (go_at_call 104; refine H.out.mono ?_; rintro e w' ⟨rfl, hb⟩; replace hb := zz hb)
 go_ret
 exact ⟨rfl, hb.out⟩
theorem D7 (s : ByteArray) (w : World) (p : Bool) (hp : Dm s.data.toList = p) : Calls Tryz.prog 71 #[.string s] w fun e w' => e = .returned (.bool p) ∧ Below w.heap.size w w' := by
 have H := zz (Ky 106 Mw Tw s w)
 have HW := zz (Qj s)
 unfold Dm at hp
 cases h1 : Iw Mw s.data.toList with
 | false =>
  rw [h1, Bool.false_and] at hp
  subst hp
  replace h1 := zz h1
  go_enter Tryz.func71, Tryz.ntmps71
  go_wp2_with (go_at_call 104; refine (H.out false h1.out).mono ?_; rintro e w' ⟨rfl, hb⟩; replace hb := zz hb)
  go_ret
  exact ⟨rfl, hb.out⟩
 | true =>
  cases h2 : C0 s.data.toList with
  | false =>
   rw [h1, h2] at hp
   subst hp
   replace h1 := zz h1
   replace h2 := zz h2
   go_enter Tryz.func71, Tryz.ntmps71
   go_wp2_with (first | (go_at_call 104; refine (H.out true h1.out).mono ?_; rintro e w' ⟨rfl, hb⟩; replace hb := zz hb) | (go_at_call 107; refine (HW.out false h2.out _).mono ?_; rintro e w' ⟨rfl, rfl⟩))
   go_ret
   exact ⟨rfl, hb.out⟩
  | true =>
   rw [h1, h2] at hp
   subst hp
   replace h1 := zz h1
   replace h2 := zz h2
   go_enter Tryz.func71, Tryz.ntmps71
   go_wp2_with (first | (go_at_call 104; refine (H.out true h1.out).mono ?_; rintro e w' ⟨rfl, hb⟩; replace hb := zz hb) | (go_at_call 107; refine (HW.out true h2.out _).mono ?_; rintro e w' ⟨rfl, rfl⟩))
   go_ret
   exact ⟨rfl, hb.out⟩
end Go.Proofs.YtoaplbljflhheaaGreat
namespace Go.Proofs.YtoaplbljflhheaaGreat
def Da (n : Nd) : Inf := ⟨n.kind, 0, 0, n.num, n.text.data.toList⟩
def fo (l : List Nd) : Nat → Nat → Nat → Fo
 | 0, _, _ => .nil
 | f + 1, p, stop => if p < stop then .cons (Da (nd l p)) (fo l f (p + 1) (p + 1 + (sz l p).toNat)) (fo l f (p + 1 + (sz l p).toNat) stop) else .nil
theorem b2h (l : List Nd) (f p : Nat) : fo l f p p = .nil := by
 cases f with
 | zero => rfl
 | succ f => rw [fo, if_neg (Nat.lt_irrefl _)]
theorem La {S : Nat → Int} {stop p : Nat} (hp : p < stop) (h : (Bw S stop p).isSome = true) : 0 ≤ S p ∧ p + 1 + (S p).toNat ≤ stop ∧ (Bw S stop (p + 1 + (S p).toNat)).isSome = true ∧ (Bw S stop p).getD [] = p :: (Bw S stop (p + 1 + (S p).toNat)).getD [] := by
 by_cases hb : S p < 0 ∨ (stop : Int) - 1 - p < S p
 ·rw [Bv hp hb] at h; cases h
 ·rw [Bd hp hb] at h
  rw [Bd hp hb]
  rw [Option.isSome_map] at h
  refine ⟨by omega, by omega, h, ?_⟩
  obtain ⟨m, hm⟩ := Option.isSome_iff_exists.1 h
  rw [hm]
  rfl
theorem Zt {l : List Nd} {n : Nat} (hok : ∀ j, j < n → Ok (sz l) n j) : ∀ (f p stop : Nat), p ≤ stop → stop ≤ n → stop - p ≤ f → (Bw (sz l) stop p).isSome = true →
  (fo l f p stop).cnt = stop - p ∧ Cs (fo l f p stop) p = (Bw (sz l) stop p).getD [] ∧
   ∀ j, j < stop - p → ∃ f', (sz l (p + j)).toNat ≤ f' ∧ (Fl (fo l f p stop))[j]? = some (Da (nd l (p + j)), fo l f' (p + j + 1) (p + j + 1 + (sz l (p + j)).toNat)) := by
 intro f
 induction f with
 | zero =>
  intro p stop h1 h2 h3 h4
  obtain rfl : p = stop := by omega
  exact ⟨by simp [fo, Fo.cnt], by rw [A8 (Nat.lt_irrefl _)]; rfl, fun j hj => absurd hj (by omega)⟩
 | succ f ih =>
  intro p stop h1 h2 h3 h4
  by_cases hp : p < stop
  ·obtain ⟨s0, s1, s2, s3⟩ := La hp h4
   have hk := (hok p (by omega)).kids
   obtain ⟨a1, a2, a3⟩ := ih (p + 1) (p + 1 + (sz l p).toNat) (by omega) (by omega) (by omega) hk
   obtain ⟨b1, b2, b3⟩ := ih (p + 1 + (sz l p).toNat) stop s1 h2 (by omega) s2
   have hc : (fo l f (p + 1) (p + 1 + (sz l p).toNat)).cnt = (sz l p).toNat := by rw [a1]; omega
   rw [fo, if_pos hp]
   refine ⟨by rw [Fo.cnt, hc, b1]; omega, by rw [Cs, hc, b2, s3], fun j hj => ?_⟩
   by_cases hj0 : j = 0
   ·subst hj0
    exact ⟨f, by rw [Nat.add_zero]; omega, by simp [Fl]⟩
   ·obtain ⟨i, rfl⟩ : ∃ i, j = i + 1 := ⟨j - 1, by omega⟩
    by_cases hi : i < (sz l p).toNat
    ·obtain ⟨f', h5, h6⟩ := a3 i (by omega)
     refine ⟨f', by rw [show p + (i + 1) = p + 1 + i by omega]; exact h5, ?_⟩
     rw [Fl, List.getElem?_cons_succ, List.getElem?_append_left (by rw [Bs, hc]; exact hi), h6, show p + (i + 1) = p + 1 + i by omega]
    ·obtain ⟨f', h5, h6⟩ := b3 (i - (sz l p).toNat) (by omega)
     have e : p + (i + 1) = p + 1 + (sz l p).toNat + (i - (sz l p).toNat) := by omega
     refine ⟨f', by rw [e]; exact h5, ?_⟩
     rw [Fl, List.getElem?_cons_succ, List.getElem?_append_right (by rw [Bs, hc]; omega), Bs, hc, h6, ← e]
  ·obtain rfl : p = stop := by omega
   rw [fo, if_neg hp]
   exact ⟨by simp [Fo.cnt], by rw [A8 hp]; rfl, fun j hj => absurd hj (by omega)⟩
def Ey (l : List Nd) : Fo := fo l l.length 0 l.length
theorem Kk {S : Nat → Int} {n : Nat} (h : Right S n) : (Bw S n 0).isSome = true := by
 have h1 := h.all
 have h2 := h.pos
 rw [Bd h.pos (by omega), Option.isSome_map, A8 (by omega)]
 rfl
theorem Fm {l : List Nd} (h : Right (sz l) l.length) : (Ey l).cnt = l.length ∧ ∀ p, p < l.length → (Ao (Ey l) p).1 = Da (nd l p) ∧ (Ao (Ey l) p).2.cnt = (sz l p).toNat ∧ Ai (sz l) p = Cs (Ao (Ey l) p).2 (p + 1) := by
 obtain ⟨h1, h2, h3⟩ := Zt h.ok l.length 0 l.length (Nat.zero_le _) (Nat.le_refl _) (by omega) (Kk h)
 refine ⟨by rw [Ey, h1]; omega, fun p hp => ?_⟩
 obtain ⟨f', h4, h5⟩ := h3 p (by omega)
 rw [Nat.zero_add] at h4 h5
 have e : Ao (Ey l) p = (Da (nd l p), fo l f' (p + 1) (p + 1 + (sz l p).toNat)) := by
  unfold Ao Ey
  rw [List.getD_eq_getElem?_getD, h5]
  rfl
 have hk := h.ok p hp
 have hh := hk.high
 have hl := hk.low
 obtain ⟨c1, c2, _⟩ := Zt h.ok f' (p + 1) (p + 1 + (sz l p).toNat) (by omega) (by omega) (by omega) hk.kids
 rw [e]
 exact ⟨rfl, by rw [c1]; omega, c2.symm⟩
end Go.Proofs.YtoaplbljflhheaaGreat
