/-
 Contracts and plain facts on the way to PrettyBack. Conditions: as each says.
-/
import Derived.Test.YtoaplbljflhheaaGreatBad
import Derived.Test.YtoaplbljflhheaaGreatBam
import Derived.Test.YtoaplbljflhheaaGreatBaj
import Derived.Test.YtoaplbljflhheaaGreatBag
set_option maxHeartbeats 40000000
set_option maxRecDepth 100000
set_option linter.unusedVariables false
set_option linter.unusedSimpArgs false
namespace Go.Proofs.YtoaplbljflhheaaGreat
open _root_.Go.Proofs.Tryz
section
section
open Go.RowKit Go.Sort
theorem c2c {b : Bool} (h : b = false) (h2 : b = true) : False := by rw [h] at h2; cases h2
abbrev b15 (R : List UInt8 × Nat × Bool) : Value := .tuple #[.string (bs (if R.2.2 then R.1 else [])), .int .i64 (R.2.1 : Nat), .bool R.2.2]
theorem Mc {a : Int} {R : List UInt8 × Nat × Bool} {n : Nat} (h : R.2 = (n, false)) (h1 : a = (n : Nat)) : Ending.returned (.tuple #[.string { data := #[] }, .int .i64 a, .bool false]) = .returned (b15 R) := by
 obtain ⟨x, y⟩ := R;simp only at h;subst h h1;rfl
theorem b37 {a : Int} {R : List UInt8 × Nat × Bool} {n : Nat} {x : List UInt8} (h : R = (x, n, true)) (h1 : a = (n : Nat)) : Ending.returned (.tuple #[.string (bs x), .int .i64 a, .bool true]) = .returned (b15 R) := by
 subst h h1;rfl
def b6k (s : ByteArray) (w : World) (R : List UInt8 × Nat × Bool) (v i : Value) (wr : World) : Prop :=
 ∃ (k : Nat) (x : List UInt8), 1 <= k ∧ k <= s.size ∧ i = .int .i64 k ∧ x.length <= k ∧ (x ++ (C5 (s.data.toList.drop k)).1, k + (C5 (s.data.toList.drop k)).2.1, (C5 (s.data.toList.drop k)).2.2) = R ∧
  Own wr w.heap.size v x ∧ Below w.heap.size w wr
theorem b6k.step {s : ByteArray} {w wr w1 : World} {R : List UInt8 × Nat × Bool} {v' : Value} {k m : Nat} {x : List UInt8} {b : UInt8} (hk : 1 <= k) (hx : x.length <= k)
  (hR : (x ++ (C5 (s.data.toList.drop k)).1, k + (C5 (s.data.toList.drop k)).2.1, (C5 (s.data.toList.drop k)).2.2) = R) (hq : ¬ (s.data.toList.drop k).head? = some 34) (hr : rb (s.data.toList.drop k) = (b, m, true))
  (hb : Below w.heap.size w wr) (ho : Own w1 w.heap.size v' (x ++ [b])) (hb1 : Below w.heap.size wr w1) {j : Int} (hj : j = (k + m : Nat)) : b6k s w R v' (.int .i64 j) w1 := by
 have hz := Hz (s.data.toList.drop k) (by rw [hr]);have hst := Eu (s.data.toList.drop k) hq (by rw [hr]);rw [hr] at hz hst;rw [List.drop_drop] at hst;rw [List.length_drop, Ad] at hz;simp only at hz hst;subst hj;refine ⟨k + m, x ++ [b], by omega, by omega, rfl, by simp; omega, ?_, ho, hb.trans hb1⟩;rw [<- hR, hst];simp [Nat.add_assoc]
theorem b6k.stop {s : ByteArray} {R : List UInt8 × Nat × Bool} {k m : Nat} {x : List UInt8} {b : UInt8} (hR : (x ++ (C5 (s.data.toList.drop k)).1, k + (C5 (s.data.toList.drop k)).2.1, (C5 (s.data.toList.drop k)).2.2) = R)
  (hq : ¬ (s.data.toList.drop k).head? = some 34) (hr : rb (s.data.toList.drop k) = (b, m, false)) : R.2 = (k + m, false) := by
 have hst := Gr (s.data.toList.drop k) hq (by rw [hr]);rw [hr] at hst;rw [<- hR, hst]
theorem R1 {c : UInt8} {x : Nat} (h : dg c = some x) (w : World) : Calls prog 187 #[byt c] w fun e w' => e = .returned (.int .i64 x) ∧ w = w' := by
 have := To c w;rw [vlo, h] at this;exact this
theorem Yc {c : UInt8} (h : dg c = none) (w : World) : Calls prog 187 #[byt c] w fun e w' => e = .returned (.int .i64 (-1)) ∧ w = w' := by
 have := To c w;rw [vlo, h] at this;exact this
theorem a13 {c : UInt8} {x : Nat} (h : dg c = some x) (w : World) : Calls prog 187 #[byt c] w fun e w' => e = .returned (.int .i64 x) ∧ Aft w w' := Eh (R1 h w)
theorem a3k (s : ByteArray) (w : World) (hs : s.size <= 100000) (h0 : 0 < s.size) (h34 : s[0] = 34) (R : List UInt8 × Nat × Bool)
  (hR : Hid (((C5 (s.data.toList.drop 1)).1, 1 + (C5 (s.data.toList.drop 1)).2.1, (C5 (s.data.toList.drop 1)).2.2) = R)) :
  Calls prog 167 #[.string s] w fun e w' => e = .returned (b15 R) ∧ Below w.heap.size w w' := by
 have e0 : ((s[0].toNat : Int) != 34) = false := by rw [h34]; rfl
 have e00 : ((s.size : Int) == 0) = false := by rw [beq_eq_false_iff_ne]; omega
 clear h34;go_enter func167, ntmps167;go_wp2
 go_loopw [5, 6] (fun v i wr => b6k s w R v i wr) (fun _ i _ => s.size - (intOf i).toNat)
 case atStart => exact ⟨1, [], Nat.le_refl _, h0, rfl, by simp, by simpa using hR.out, Sf [] rfl (Nat.le_refl _) 0 rfl (by decide), Aa _ _⟩
 case round =>
  clear hR;obtain ⟨k, x, hk1, hk, rfl, hx, hR, ho, hb⟩ := hrel;have hbs := hb.size;by_cases hlt : k < s.size
  case neg =>
   have HR := zz (show R.2 = (s.size, false) by rw [<- hR, Co s k (by omega), Gr [] (by simp) rfl, a3m]; simp; omega);have hlt2 : ¬ (k : Int) < s.size := by omega
   replace hb := zz hb;clear hR ho;go_wp2
   go_ret3
   exact ⟨Mc HR.out rfl, hb.out⟩
  have hd := Au s k hlt;by_cases hout : s[k].toNat < 32 ∨ 126 < s[k].toNat
  case pos =>
   have HR := zz (b6k.stop hR (by rw [hd]; intro e; simp at e; rw [e] at hout; revert hout; decide) (by rw [hd]; exact Uo _ _ hout));replace hb := zz hb;clear hR ho hd;rcases hout with hout | hout
   ·have e1 : (s[k].toNat : Int) < 32 := by omega
    clear hout;go_wp2
    go_ret3
    exact ⟨Mc HR.out (by omega), hb.out⟩
   ·have e1 : (126 : Int) < s[k].toNat := by omega
    clear hout;go_wp2
    go_ret3
    exact ⟨Mc HR.out (by omega), hb.out⟩
  have e1 : (32 : Int) <= s[k].toNat := by omega
  have e2 : (s[k].toNat : Int) <= 126 := by omega
  by_cases hq : s[k] = 34
  case pos =>
   have HR := zz (show R = (x, k + 1, true) by rw [<- hR, Dv _ (by rw [hd, hq]; rfl)]; simp);have e3 : ((s[k].toNat : Int) == 34) = true := by rw [hq]; rfl
   have hcv := Kv ho;replace hb := zz hb;clear hR ho hd hq hout e1 e2;have e1 : (32 : Int) <= s[k].toNat := by have := eq_of_beq e3; omega
   have e2 : (s[k].toNat : Int) <= 126 := by have := eq_of_beq e3; omega
   go_wp2
   go_ret3
   exact ⟨b37 HR.out (by omega), hb.out⟩
  have e3 : ((s[k].toNat : Int) == 34) = false := Av (n := 34) (by decide) hq;have hq' : ¬ (s.data.toList.drop k).head? = some 34 := by rw [hd]; simpa using hq
  have HS := zz (fun b m (hr : rb (s.data.toList.drop k) = (b, m, true)) w1 v' j (h1 : Own w1 w.heap.size v' (x ++ [b])) (h2 : Below w.heap.size wr w1) (hj : j = ((k + m : Nat) : Int)) => b6k.step hk1 hx hR hq' hr hb h1 h2 hj);have HN := zz (fun b m (hr : rb (s.data.toList.drop k) = (b, m, false)) => b6k.stop hR hq' hr);replace ho := zz ho;replace hb := zz hb;rw [hd] at HS HN;clear hq' hR hd hq;by_cases h92 : s[k] = 92
  case neg =>
   have HB := zz (Md s[k] (s.data.toList.drop (k + 1)) hout h92);have e4 : ((s[k].toNat : Int) != 92) = true := c01 (n := 92) (by decide) h92;clear hout h92;go_wp2_with (at_builtin; refine Cd rfl _ _ rfl w.heap.size u5 x [s[k]] 1 rfl rfl rfl rfl ho.out hbs (by omega) ?_; intro v2 w2 ho2 hb2; replace ho2 := zz ho2; replace hb2 := zz hb2)
   go_roundw
   case rel => exact HS.out _ _ HB.out _ _ _ ho2.out hb2.out (by omega)
   case measure => simp [intOf]; omega
  have e4 : ((s[k].toNat : Int) != 92) = false := by rw [h92]; rfl
  rw [h92] at HS HN;clear hout h92;obtain ⟨k1, hk1e⟩ : ∃ k1, k + 1 = k1 := ⟨_, rfl⟩;have hk1w : (k : Int) + 1 = k1 := by omega
  have hk1b : k1 <= 100001 := by omega
  have hkk := zz hk1e;rw [hk1e] at HS HN;clear hk1e;by_cases hlt1 : k1 < s.size
  case neg =>
   have HR := zz (HN.out _ _ (by rw [Co s k1 (by omega)]; exact Up));have hle : (s.size : Int) <= k1 := by omega
   clear HS HN hlt1;go_wp2
   go_ret3
   exact ⟨Mc HR.out (by omega), hb.out⟩
  rw [Au s k1 hlt1] at HS HN;have hlt1' : (k1 : Int) < s.size := by omega
  by_cases g34 : s[k1] = 34
  case pos =>
   have HB := zz (Uq s[k1] (s.data.toList.drop (k1 + 1)) (by rw [g34]; decide) s[k1] (by rw [g34]; rfl));have e5 : ((s[k1].toNat : Int) == 34) = true := by rw [g34]; rfl
   clear g34;go_wp2_with (at_builtin; refine Cd rfl _ _ rfl w.heap.size u5 x [s[k1]] 1 rfl rfl rfl rfl ho.out hbs (by omega) ?_; intro v2 w2 ho2 hb2; replace ho2 := zz ho2; replace hb2 := zz hb2)
   go_roundw
   case rel => exact HS.out _ _ HB.out _ _ _ ho2.out hb2.out (by omega)
   case measure => simp [intOf]; omega
  have e5 : ((s[k1].toNat : Int) == 34) = false := Av (n := 34) (by decide) g34;by_cases g92 : s[k1] = 92
  case pos =>
   have HB := zz (Uq s[k1] (s.data.toList.drop (k1 + 1)) (by rw [g92]; decide) s[k1] (by rw [g92]; rfl));have e6 : ((s[k1].toNat : Int) == 92) = true := by rw [g92]; rfl
   clear g92 g34;go_wp2_with (at_builtin; refine Cd rfl _ _ rfl w.heap.size u5 x [s[k1]] 1 rfl rfl rfl rfl ho.out hbs (by omega) ?_; intro v2 w2 ho2 hb2; replace ho2 := zz ho2; replace hb2 := zz hb2)
   go_roundw
   case rel => exact HS.out _ _ HB.out _ _ _ ho2.out hb2.out (by omega)
   case measure => simp [intOf]; omega
  have e6 : ((s[k1].toNat : Int) == 92) = false := Av (n := 92) (by decide) g92;by_cases g110 : s[k1] = 110
  case pos =>
   have HB := zz (Uq s[k1] (s.data.toList.drop (k1 + 1)) (by rw [g110]; decide) 10 (by rw [g110]; rfl));have e7 : ((s[k1].toNat : Int) == 110) = true := by rw [g110]; rfl
   clear g92 g34 g110;go_wp2_with (at_builtin; refine Cd rfl _ _ rfl w.heap.size u5 x [10] 1 rfl rfl rfl rfl ho.out hbs (by omega) ?_; intro v2 w2 ho2 hb2; replace ho2 := zz ho2; replace hb2 := zz hb2)
   go_roundw
   case rel => exact HS.out _ _ HB.out _ _ _ ho2.out hb2.out (by omega)
   case measure => simp [intOf]; omega
  have e7 : ((s[k1].toNat : Int) == 110) = false := Av (n := 110) (by decide) g110;by_cases g116 : s[k1] = 116
  case pos =>
   have HB := zz (Uq s[k1] (s.data.toList.drop (k1 + 1)) (by rw [g116]; decide) 9 (by rw [g116]; rfl));have e8 : ((s[k1].toNat : Int) == 116) = true := by rw [g116]; rfl
   clear g92 g34 g110 g116;go_wp2_with (at_builtin; refine Cd rfl _ _ rfl w.heap.size u5 x [9] 1 rfl rfl rfl rfl ho.out hbs (by omega) ?_; intro v2 w2 ho2 hb2; replace ho2 := zz ho2; replace hb2 := zz hb2)
   go_roundw
   case rel => exact HS.out _ _ HB.out _ _ _ ho2.out hb2.out (by omega)
   case measure => simp [intOf]; omega
  have e8 : ((s[k1].toNat : Int) == 116) = false := Av (n := 116) (by decide) g116;by_cases g120 : s[k1] = 120
  case neg =>
   have HR := zz (HN.out _ _ (a3l s[k1] (s.data.toList.drop (k1 + 1)) g120 (by simp [bk, g34, g92, g110, g116])));have e9 : ((s[k1].toNat : Int) == 120) = false := Av (n := 120) (by decide) g120;clear g92 g34 g110 g116 g120 HS HN;go_wp2
   go_ret3
   exact ⟨Mc HR.out (by omega), hb.out⟩
  have e9 : ((s[k1].toNat : Int) == 120) = true := by rw [g120]; rfl
  rw [g120] at HS HN;clear g92 g34 g110 g116 g120;obtain ⟨k2, hk2e⟩ : ∃ k2, k1 + 1 = k2 := ⟨_, rfl⟩;obtain ⟨k3, hk3e⟩ : ∃ k3, k1 + 2 = k3 := ⟨_, rfl⟩;have hk2w : (k1 : Int) + 1 = k2 := by omega
  have hk3w : (k1 : Int) + 2 = k3 := by omega
  have hk2b : k2 <= 100002 := by omega
  have hk3b : k3 <= 100003 := by omega
  have hkk2 := zz (show k2 = k + 2 by have := hkk.out; omega);have hkk3 := zz (show k3 = k + 3 by have := hkk.out; omega);have hkk4 := zz (show k3 = k2 + 1 by omega);rw [hk2e, b6n] at HS HN;clear hk2e hk3e;by_cases hlt2 : k2 < s.size
  case neg =>
   have HR := zz (HN.out _ _ (by rw [Co s k2 (by omega)]; exact Um));have hle : (s.size : Int) <= k2 := by omega
   clear HS HN hlt2;go_wp2_with fail;refine wp_loop_rounds 1 ?_;rw [rounds_succ];go_wp2
   go_ret3
   exact ⟨Mc HR.out (by have := hkk2.out; omega), hb.out⟩
  rw [Au s k2 hlt2] at HS HN;have hlt2' : (k2 : Int) < s.size := by omega
  cases hd2 : dg s[k2] with
  | none =>
   have HR := zz (HN.out _ _ (Un _ _ hd2));have HV := zz (Yc hd2);clear HS HN hd2;go_wp2_with fail;refine wp_loop_rounds 1 ?_;rw [rounds_succ];go_wp2_with fail;refine (HV.out _).mono ?_;rintro e w' ⟨rfl, rfl⟩;go_wp2
   go_ret3
   exact ⟨Mc HR.out (by have := hkk2.out; omega), hb.out⟩
  | some y =>
   have HV := zz (R1 hd2);have hy := Vr hd2;by_cases hlt3 : k3 < s.size
   case neg =>
    have HR := zz (HN.out _ _ (by rw [Co s (k2 + 1) (by have := hkk4.out; omega)]; exact Ul _ _ hd2));have hle : (s.size : Int) <= k3 := by omega
    clear HS HN hlt3 hd2;go_wp2_with fail;refine wp_loop_rounds 2 ?_;rw [rounds_succ];go_wp2_with fail;refine (HV.out _).mono ?_;rintro e w' ⟨rfl, rfl⟩;go_wp2;rw [rounds_succ];go_wp2
    go_ret3
    exact ⟨Mc HR.out (by have := hkk3.out; omega), hb.out⟩
   have hd3 := Au s k3 hlt3;rw [<- hkk4.out, hd3] at HS HN;have hlt3' : (k3 : Int) < s.size := by omega
   clear hd3
   cases hd3 : dg s[k3] with
   | none =>
    have HR := zz (HN.out _ _ (Pg _ _ _ _ hd2 hd3));have HV2 := zz (Yc hd3);clear HS HN hd2 hd3;go_wp2_with fail;refine wp_loop_rounds 2 ?_;rw [rounds_succ];go_wp2_with fail;refine (HV.out _).mono ?_;rintro e w' ⟨rfl, rfl⟩;go_wp2_with fail;rw [rounds_succ];go_wp2_with fail;refine (HV2.out _).mono ?_;rintro e w' ⟨rfl, rfl⟩;go_wp2
    go_ret3
    exact ⟨Mc HR.out (by have := hkk3.out; omega), hb.out⟩
   | some z =>
    have HB := zz (Uk s[k2] s[k3] (s.data.toList.drop (k3 + 1)) _ _ hd2 hd3);have HV2 := zz (R1 hd3);have hz := Vr hd3;have HA1 := zz (fun w => a13 hd2 w);have HA2 := zz (fun w => a13 hd3 w);obtain ⟨d, hde⟩ : ∃ d, y * 16 = d := ⟨_, rfl⟩;obtain ⟨p, hpe⟩ : ∃ p, 16 * y + z = p := ⟨_, rfl⟩;have hp : p < 256 := by omega
    have hw1 : IntKind.i64.wrap (k2 : Int) = k2 := by rw [IntKind.wrap_i64]; omega
    have hw2 : IntKind.i64.wrap (k3 : Int) = k3 := by rw [IntKind.wrap_i64]; omega
    have hw3 : IntKind.i64.wrap ((y : Int) * 16) = d := by rw [IntKind.wrap_i64]; omega
    have hw4 : IntKind.i64.wrap ((d : Int) + z) = p := by rw [IntKind.wrap_i64]; omega
    have hw5 : IntKind.u8.wrap (p : Int) = p := by rw [IntKind.wrap_u8]; omega
    have HVb := zz (show [Value.int .u8 (p : Int)] = [UInt8.ofNat p].map byt by simp only [List.map_cons, List.map_nil, byt, Rm hp]);rw [hpe] at HB;clear HN hd2 hd3 hde hpe;go_wp2_with fail;refine wp_loop_rounds 3 ?_;rw [rounds_succ];go_wp2_with fail;refine (HV.out _).mono ?_;rintro e w' ⟨rfl, rfl⟩;go_wp2_with fail;rw [rounds_succ];go_wp2_with fail;refine (HV2.out _).mono ?_;rintro e w' ⟨rfl, rfl⟩;go_wp2_with fail;rw [rounds_succ];go_wp2_with fail;clear HV HV2;have c1 : ∀ D os, Calls prog 187 #[.int .u8 (s[k2].toNat : Nat)] (grow (redrawn wr D) os) fun e w'' => e = .returned (.int .i64 y) ∧ Aft (grow (redrawn wr D) os) w'' := fun D os => HA1.out _
    have c2 : ∀ D os, Calls prog 187 #[.int .u8 (s[k3].toNat : Nat)] (grow (redrawn wr D) os) fun e w'' => e = .returned (.int .i64 z) ∧ Aft (grow (redrawn wr D) os) w'' := fun D os => HA2.out _
    refine J9 14 _ (Obj.cells #[Value.int .u8 (p : Int)] 5) (fun b => .slice (some ⟨b, 0, none⟩) 1 1) (fun a => a.eval (.tmp 113) = .int .u8 (p : Int)) (Tk [.int .u8 (p : Int)]) (by kernel_rfl) (by kernel_rfl) rfl ?ha ?al (fun b w w' h1 h2 => h1.carry h2) (fun w' h => Tk.made w' rfl) ?go
    case ha =>
     intro i o a v hi ho hw h
     match i, hi with
     | 13, _ => exact (c2c hw (by kernel_rfl)).elim
     | 0, _ => cases ho; simpa [go_sem] using h
     | 1, _ => cases ho; simpa [go_sem] using h
     | 2, _ => cases ho; simpa [go_sem] using h
     | 3, _ => cases ho; simpa [go_sem] using h
     | 4, _ => cases ho; simpa [go_sem] using h
     | 5, _ => cases ho; simpa [go_sem] using h
     | 6, _ => cases ho; simpa [go_sem] using h
     | 7, _ => cases ho; simpa [go_sem] using h
     | 8, _ => cases ho; simpa [go_sem] using h
     | 9, _ => cases ho; simpa [go_sem] using h
     | 10, _ => cases ho; simpa [go_sem] using h
     | 11, _ => cases ho; simpa [go_sem] using h
     | 12, _ => cases ho; simpa [go_sem] using h
    case al =>
     intro a w K hA h;refine Bw rfl rfl ?_;simp [go_sem] at hA;go_simp;exact h
    case go =>
     simp only [List.take_succ_cons, List.take_zero, List.drop_succ_cons, List.drop_zero]
     repeat (refine Be (fun K hK => ?_); go_simp; first | (refine hK _ ?_; clear hK K) | (apply Exists.intro; refine ⟨fun _ => ?_, hK _ ?_⟩; (first | with_reducible exact c1 _ _ | with_reducible exact c2 _ _); clear hK K))
     refine B8 ⟨by simp [go_sem], ?_⟩;intro b W hbW hl;replace ho := zz (Fx ho.out hbW);rw [HVb.out] at hl;replace hl := zz hl;have hB2 := Nat.le_trans hbs hbW.size;replace hbW := zz (hbW.mono hbs);clear c1 c2 HA1 HA2;go_wp2_with (at_builtin; refine Lp rfl _ _ rfl w.heap.size u5 x [UInt8.ofNat p] 1 b rfl rfl rfl hl.out ho.out hB2 (by omega) ?_; intro v2 w2 ho2 hb2; replace ho2 := zz ho2; replace hb2 := zz (hbW.out.trans hb2))
     go_roundw
     case rel => exact HS.out _ _ HB.out _ _ _ ho2.out hb2.out (by have := hkk3.out; omega)
     case measure => simp [intOf]; have := hkk3.out; omega
end
end
section
section
open Go.RowKit Go.Sort
theorem a0s (w : World) : Calls prog 167 #[.string { data := #[] }] w fun e w' => e = .returned (b15 ([], 0, false)) ∧ w = w' := by
 go_enter func167, ntmps167;go_wp2
 go_ret3
 exact ⟨rfl, rfl⟩
theorem a8p (s : ByteArray) (w : World) (h0 : 0 < s.size) (h34 : s[0] ≠ 34) : Calls prog 167 #[.string s] w fun e w' => e = .returned (b15 ([], 0, false)) ∧ w = w' := by
 have e0 : ((s[0].toNat : Int) != 34) = true := c01 (n := 34) (by decide) h34;have e00 : ((s.size : Int) == 0) = false := by rw [beq_eq_false_iff_ne]; omega
 clear h34;go_enter func167, ntmps167;go_wp2
 go_ret3
 exact ⟨rfl, rfl⟩
theorem a25 (s : ByteArray) (w : World) (hs : s.size <= 100000) : Calls prog 167 #[.string s] w fun e w' => e = .returned (b15 (A8 s.data.toList)) ∧ Below w.heap.size w w' := by
 by_cases h0 : 0 < s.size
 ·by_cases h34 : s[0] = 34
  ·rw [Ui s h0 h34];exact a3k s w hs h0 h34 _ (zz rfl)
  ·rw [Uj s h0 h34];exact Eh (a8p s w h0 h34)
 ·rw [Dz s h0];exact Eh (a0s w)
end
end
section
open Go.RowKit Go.Sort
def Qp (r : Int) : Bool := (decide (97 <= r) && decide (r <= 122)) || decide (r = 95)
def Tn (r : Int) : Bool := decide (65 <= r) && decide (r <= 90)
def a4j (r : Int) : Bool := Qp r || Tn r || (decide (48 <= r) && decide (r <= 57))
theorem Pz (r : Int) (w : World) (p : Bool) (hp : Qp r = p) : Calls prog 106 #[.int .i32 r] w fun e w' => e = .returned (.bool p) ∧ w = w' := by
 subst hp;by_cases a1 : 97 <= r
 ·by_cases a2 : r <= 122
  ·rw [show Qp r = true by simp [Qp, a1, a2]];go_enter func106, ntmps106;go_wp2;go_ret;exact ⟨rfl, rfl⟩
  ·rw [show Qp r = false by simp [Qp, a2]; omega];have e : (r == 95) = false := by rw [beq_eq_false_iff_ne]; omega
   go_enter func106, ntmps106;go_wp2;go_ret;exact ⟨rfl, rfl⟩
 ·by_cases a3 : r = 95
  ·rw [show Qp r = true by simp [Qp, a3]];subst a3;go_enter func106, ntmps106;go_wp2;go_ret;exact ⟨rfl, rfl⟩
  ·rw [show Qp r = false by simp [Qp, a1, a3]];have e : (r == 95) = false := by rw [beq_eq_false_iff_ne]; exact a3
   clear a3;go_enter func106, ntmps106;go_wp2;go_ret;exact ⟨rfl, rfl⟩
theorem P0 (r : Int) (w : World) (p : Bool) (hp : Tn r = p) : Calls prog 105 #[.int .i32 r] w fun e w' => e = .returned (.bool p) ∧ w = w' := by
 subst hp;by_cases a1 : 65 <= r
 ·by_cases a2 : r <= 90
  ·rw [show Tn r = true by simp [Tn, a1, a2]];go_enter func105, ntmps105;go_wp2;go_ret;exact ⟨rfl, rfl⟩
  ·rw [show Tn r = false by simp [Tn, a2]];go_enter func105, ntmps105;go_wp2;go_ret;exact ⟨rfl, rfl⟩
 ·rw [show Tn r = false by simp [Tn, a1]];go_enter func105, ntmps105;go_wp2;go_ret;exact ⟨rfl, rfl⟩
theorem Vh (r : Int) (w : World) (p : Bool) (hp : a4j r = p) : Calls prog 149 #[.int .i32 r] w fun e w' => e = .returned (.bool p) ∧ w = w' := by
 subst hp;have HS := zz (Pz r w);have HG := zz (P0 r w)
 cases h1 : Qp r with
 | true =>
  rw [show a4j r = true by simp [a4j, h1]];replace h1 := zz h1;go_enter func149, ntmps149;go_wp2_with (go_at_call 106; refine (HS.out true h1.out).mono ?_; rintro e w' ⟨rfl, rfl⟩);go_ret
  exact ⟨rfl, rfl⟩
 | false =>
  cases h2 : Tn r with
  | true =>
   rw [show a4j r = true by simp [a4j, h2]];replace h1 := zz h1;replace h2 := zz h2;go_enter func149, ntmps149;go_wp2_with (first | (go_at_call 106; refine (HS.out false h1.out).mono ?_; rintro e w' ⟨rfl, rfl⟩) | (go_at_call 105; refine (HG.out true h2.out).mono ?_; rintro e w' ⟨rfl, rfl⟩));go_ret
   exact ⟨rfl, rfl⟩
  | false =>
   rw [show a4j r = (decide (48 <= r) && decide (r <= 57)) by simp [a4j, h1, h2]];replace h1 := zz h1;replace h2 := zz h2;by_cases a1 : 48 <= r
   ·by_cases a2 : r <= 57
    ·rw [show (decide (48 <= r) && decide (r <= 57)) = true by simp [a1, a2]];go_enter func149, ntmps149;go_wp2_with (first | (go_at_call 106; refine (HS.out false h1.out).mono ?_; rintro e w' ⟨rfl, rfl⟩) | (go_at_call 105; refine (HG.out false h2.out).mono ?_; rintro e w' ⟨rfl, rfl⟩));go_ret;exact ⟨rfl, rfl⟩
    ·rw [show (decide (48 <= r) && decide (r <= 57)) = false by simp [a2]];have e2 : decide (r <= 57) = false := by simpa using a2
     go_enter func149, ntmps149;go_wp2_with (first | (go_at_call 106; refine (HS.out false h1.out).mono ?_; rintro e w' ⟨rfl, rfl⟩) | (go_at_call 105; refine (HG.out false h2.out).mono ?_; rintro e w' ⟨rfl, rfl⟩));go_ret;exact ⟨rfl, rfl⟩
   ·rw [show (decide (48 <= r) && decide (r <= 57)) = false by simp [a1]];go_enter func149, ntmps149;go_wp2_with (first | (go_at_call 106; refine (HS.out false h1.out).mono ?_; rintro e w' ⟨rfl, rfl⟩) | (go_at_call 105; refine (HG.out false h2.out).mono ?_; rintro e w' ⟨rfl, rfl⟩));go_ret;exact ⟨rfl, rfl⟩
theorem Pp (c : UInt8) : a4j (c.toNat : Nat) = nam c := by
 have h : (c = 95) ↔ c.toNat = 95 := ⟨fun e => by rw [e]; rfl, fun e => UInt8.toNat_inj.1 (by rw [e]; rfl)⟩;rw [Bool.eq_iff_iff];simp [a4j, Qp, Tn, nam, sml, grt, dgt, h];omega
theorem a2i (c : UInt8) : Qp (c.toNat : Nat) = sml c := by
 have h : (c = 95) ↔ c.toNat = 95 := ⟨fun e => by rw [e]; rfl, fun e => UInt8.toNat_inj.1 (by rw [e]; rfl)⟩;rw [Bool.eq_iff_iff];simp [Qp, sml, h];omega
theorem a5b (c : UInt8) : Tn (c.toNat : Nat) = grt c := by
 rw [Bool.eq_iff_iff];simp [Tn, grt];omega
theorem U4 {r : Int} (h : 128 <= r) : a4j r = false := by simp [a4j, Qp, Tn]; omega
theorem a9m {c : UInt8} (h : 128 <= c.toNat) : nam c = false := by rw [<- Pp]; exact U4 (by omega)
def J4 (q : Int -> Bool) (l : List UInt8) : Bool := !l.isEmpty && q (l.headD 0).toNat && l.all nam
theorem Tz {q : Int -> Bool} {s : ByteArray} {k : Nat} (hk : k < s.size) (h : nam s[k] = false) : J4 q s.data.toList = false := by
 unfold J4;rw [Bool.and_eq_false_iff];right;rw [List.all_eq_false];refine ⟨s[k], ?_, by simp [h]⟩;have := Ol s k hk;exact List.mem_of_getElem? this
theorem a0c {q : Int -> Bool} {s : ByteArray} (hk : 0 < s.size) (h : q (s[0].toNat : Nat) = false) : J4 q s.data.toList = false := by
 unfold J4;rw [C0 s hk, h];simp
theorem a0d {q : Int -> Bool} {s : ByteArray} (hk : 0 < s.size) (h : q (s[0].toNat : Nat) = true) (ha : ∀ k (hk : k < s.size), nam s[k] = true) : J4 q s.data.toList = true := by
 unfold J4;rw [C0 s hk, h]
 have h1 : s.data.toList.isEmpty = false := by
  rw [List.isEmpty_eq_false_iff];intro e;rw [<- Ad, e] at hk;simp at hk
 rw [h1];simp only [Bool.not_false, Bool.and_true, Bool.true_and];rw [List.all_eq_true];intro c hc;obtain ⟨k, hk, rfl⟩ := List.getElem_of_mem hc;exact ha k (by rw [Ad] at hk; exact hk)
def Ou (f : FuncId) (q : Int -> Bool) : Prop := (∀ args w, (callFunc f args).run prog w = .ok (.enter f args) w) ∧ ∀ r w p, q r = p -> Calls prog f #[.int .i32 r] w fun e w' => e = .returned (.bool p) ∧ w = w'
theorem Sw (f : FuncId) (w : World) : Calls prog 104 #[.string { data := #[] }, .func (.func f) #[] #[]] w fun e w' => e = .returned (.bool false) ∧ Below w.heap.size w w' := by
 have hnx : ∀ ty, (Instr.next (.pointer (some ⟨w.heap.size, 0, none⟩)) true ty).run prog (w.iter { data := #[] } 0) = _ := fun ty => run_next_end w { data := #[] } 0 ty (by decide)
 go_enter func104, ntmps104;go_wp2;refine wp_loop_rounds 1 ?_;rw [rounds_succ];go_wp2;go_ret;exact ⟨rfl, Aa _ _⟩
theorem Vf (f : FuncId) (q : Int -> Bool) (hf : Hid (Ou f q)) (s : ByteArray) (w : World) (h0 : 0 < s.size) (P : Bool) (hP : Hid (J4 q s.data.toList = P)) :
  Calls prog 104 #[.string s, .func (.func f) #[] #[]] w fun e w' => e = .returned (.bool P) ∧ Below w.heap.size w w' := by
 have eg := hf.out.1;have HI := zz Vh;have h0' := zz h0;go_enter func104, ntmps104;go_wp2_with fail
 go_loopw [5] (fun _ wr => ∃ pos : Nat, wr = w.iter s pos ∧ pos <= s.size ∧ (0 < pos -> q (s[0].toNat : Nat) = true) ∧ ∀ k (hk : k < s.size), k < pos -> nam s[k] = true) (fun _ wr => s.size - wr.iterPos w.heap.size)
 case atStart => exact ⟨0, rfl, Nat.zero_le _, fun h => absurd h (by omega), fun k _ h => absurd h (by omega)⟩
 case round =>
  obtain ⟨pos, rfl, hpos, hq, hall⟩ := hrel;replace hall := zz hall;by_cases hp : pos < s.size
  ·by_cases ha : s[pos].toNat < 128
   ·have hnx : ∀ ty, (Instr.next (.pointer (some ⟨w.heap.size, 0, none⟩)) true ty).run prog (w.iter s pos) = _ := fun ty => run_next_ascii w s pos ty hp ha
    cases hn : nam s[pos] with
    | false =>
     have hP' : P = false := by rw [<- hP.out]; exact Tz hp hn
     subst hP';rw [<- Pp] at hn;replace hn := zz hn;by_cases hz : pos = 0
     ·subst hz
      cases hq0 : q (s[0].toNat : Nat) with
      | false =>
       replace hq0 := zz hq0;clear hq ha;go_wp2_with fail;refine (hf.out.2 _ _ false hq0.out).mono ?_;rintro e w' ⟨rfl, rfl⟩;go_wp2_with fail;go_ret
       exact ⟨rfl, Aa _ _⟩
      | true =>
       replace hq0 := zz hq0;clear hq ha;go_wp2_with fail;refine (hf.out.2 _ _ true hq0.out).mono ?_;rintro e w' ⟨rfl, rfl⟩;go_wp2_with (go_at_call 149; refine (HI.out _ _ false hn.out).mono ?_; rintro e w' ⟨rfl, rfl⟩);go_ret;exact ⟨rfl, Aa _ _⟩
     ·have e0 : ((pos : Int) == 0) = false := by rw [beq_eq_false_iff_ne]; omega
      clear hq ha hz;go_wp2_with (go_at_call 149; refine (HI.out _ _ false hn.out).mono ?_; rintro e w' ⟨rfl, rfl⟩);go_ret
      exact ⟨rfl, Aa _ _⟩
    | true =>
     have HA := zz (show ∀ k (hk : k < s.size), k < pos + 1 -> nam s[k] = true from fun k hk h => by
      by_cases e : k = pos
      ·subst e; exact hn
      ·exact hall.out k hk (by omega))
     rw [<- Pp] at hn;replace hn := zz hn;by_cases hz : pos = 0
     ·subst hz
      cases hq0 : q (s[0].toNat : Nat) with
      | false =>
       have hP' : P = false := by rw [<- hP.out]; exact a0c hp hq0
       subst hP';replace hq0 := zz hq0;clear hq ha;go_wp2_with fail;refine (hf.out.2 _ _ false hq0.out).mono ?_;rintro e w' ⟨rfl, rfl⟩;go_wp2_with fail;go_ret
       exact ⟨rfl, Aa _ _⟩
      | true =>
       replace hq0 := zz hq0;clear hq ha;go_wp2_with fail;refine (hf.out.2 _ _ true hq0.out).mono ?_;rintro e w' ⟨rfl, rfl⟩;go_wp2_with (go_at_call 149; refine (HI.out _ _ true hn.out).mono ?_; rintro e w' ⟨rfl, rfl⟩)
       go_roundw
       case rel => exact ⟨1, rfl, by omega, fun _ => by first | exact hq0.out | trivial, HA.out⟩
       case measure => simp; omega
     ·have e0 : ((pos : Int) == 0) = false := by rw [beq_eq_false_iff_ne]; omega
      have HQ := zz (hq (by omega));clear hq ha;go_wp2_with (go_at_call 149; refine (HI.out _ _ true hn.out).mono ?_; rintro e w' ⟨rfl, rfl⟩)
      go_roundw
      case rel => exact ⟨pos + 1, rfl, by omega, fun _ => HQ.out, HA.out⟩
      case measure => simp; omega
   ·have hnx : ∀ ty, (Instr.next (.pointer (some ⟨w.heap.size, 0, none⟩)) true ty).run prog (w.iter s pos) = _ := fun ty => run_next_any w s pos ty hp
    have hP' : P = false := by rw [<- hP.out]; exact Tz hp (a9m (by omega))
    subst hP';obtain ⟨g1, g2⟩ := decode_high s pos hp (by omega);have hn := zz (U4 (r := ((Utf8.decode s pos).1 : Nat)) (by omega));clear hq ha;generalize (Utf8.decode s pos).1 = r at hnx hn g1;generalize (Utf8.decode s pos).2 = m at hnx g2;clear g1 g2;by_cases hz : pos = 0
    ·subst hz
     cases hq0 : q (r : Nat) with
     | false =>
      replace hq0 := zz hq0;go_wp2_with fail;refine (hf.out.2 _ _ false hq0.out).mono ?_;rintro e w' ⟨rfl, rfl⟩;go_wp2_with fail;go_ret
      exact ⟨rfl, Aa _ _⟩
     | true =>
      replace hq0 := zz hq0;go_wp2_with fail;refine (hf.out.2 _ _ true hq0.out).mono ?_;rintro e w' ⟨rfl, rfl⟩;go_wp2_with (go_at_call 149; refine (HI.out _ _ false hn.out).mono ?_; rintro e w' ⟨rfl, rfl⟩);go_ret;exact ⟨rfl, Aa _ _⟩
    ·have e0 : ((pos : Int) == 0) = false := by rw [beq_eq_false_iff_ne]; omega
     clear hz;go_wp2_with (go_at_call 149; refine (HI.out _ _ false hn.out).mono ?_; rintro e w' ⟨rfl, rfl⟩);go_ret;exact ⟨rfl, Aa _ _⟩
  ·have hnx : ∀ ty, (Instr.next (.pointer (some ⟨w.heap.size, 0, none⟩)) true ty).run prog (w.iter s pos) = _ := fun ty => run_next_end w s pos ty hp
   have hP' : P = true := by rw [<- hP.out]; exact a0d h0 (hq (by omega)) fun k hk => hall.out k hk (by omega)
   subst hP'
   have e1 : (s.toList == []) = false := by
    rw [ByteArray.toList_eq, beq_eq_false_iff_ne];intro e;rw [<- Ad, e] at h0;simp at h0
   have e2 : (s.toList != []) = true := by rw [bne, e1]; rfl
   have e3 : s.toList.isEmpty = false := by rw [<- e1]; cases s.toList <;> rfl
   clear hq;go_wp2_with fail;go_ret;exact ⟨rfl, Aa _ _⟩
theorem Py (f : FuncId) (q : Int -> Bool) (hf : Ou f q) (s : ByteArray) (w : World) (P : Bool) (hP : J4 q s.data.toList = P) :
  Calls prog 104 #[.string s, .func (.func f) #[] #[]] w fun e w' => e = .returned (.bool P) ∧ Below w.heap.size w w' := by
 by_cases h0 : 0 < s.size
 ·exact Vf f q (zz hf) s w h0 P (zz hP)
 ·have := Dz s h0;subst this;have hP' : P = false := by rw [<- hP]; rfl
  subst hP';exact Sw f w
theorem a0e : Ou 106 Qp := ⟨by intro args w; simp [go_sem], fun r w p h => Pz r w p h⟩
theorem a1b : Ou 105 Tn := ⟨by intro args w; simp [go_sem], fun r w p h => P0 r w p h⟩
def Ed (l : List UInt8) : Bool := J4 Qp l && !Dj l
def Ew (l : List UInt8) : Bool := J4 Tn l
theorem Q9 (s : ByteArray) (w : World) (p : Bool) (hp : Ew s.data.toList = p) : Calls prog 70 #[.string s] w fun e w' => e = .returned (.bool p) ∧ Below w.heap.size w w' := by
 have H := zz (Py 105 Tn a1b s w p hp);clear hp;go_enter func70, ntmps70;go_wp2_with (go_at_call 104; refine H.out.mono ?_; rintro e w' ⟨rfl, hb⟩; replace hb := zz hb);go_ret;exact ⟨rfl, hb.out⟩
theorem G8 (s : ByteArray) (w : World) (p : Bool) (hp : Ed s.data.toList = p) : Calls prog 71 #[.string s] w fun e w' => e = .returned (.bool p) ∧ Below w.heap.size w w' := by
 have H := zz (Py 106 Qp a0e s w);have HW := zz (V8 s);unfold Ed at hp
 cases h1 : J4 Qp s.data.toList with
 | false =>
  rw [h1, Bool.false_and] at hp;subst hp;replace h1 := zz h1;go_enter func71, ntmps71;go_wp2_with (go_at_call 104; refine (H.out false h1.out).mono ?_; rintro e w' ⟨rfl, hb⟩; replace hb := zz hb);go_ret
  exact ⟨rfl, hb.out⟩
 | true =>
  cases h2 : Dj s.data.toList with
  | false =>
   rw [h1, h2] at hp;subst hp;replace h1 := zz h1;replace h2 := zz h2;go_enter func71, ntmps71;go_wp2_with (first | (go_at_call 104; refine (H.out true h1.out).mono ?_; rintro e w' ⟨rfl, hb⟩; replace hb := zz hb) | (go_at_call 107; refine (HW.out false h2.out _).mono ?_; rintro e w' ⟨rfl, rfl⟩));go_ret
   exact ⟨rfl, hb.out⟩
  | true =>
   rw [h1, h2] at hp;subst hp;replace h1 := zz h1;replace h2 := zz h2;go_enter func71, ntmps71;go_wp2_with (first | (go_at_call 104; refine (H.out true h1.out).mono ?_; rintro e w' ⟨rfl, hb⟩; replace hb := zz hb) | (go_at_call 107; refine (HW.out true h2.out _).mono ?_; rintro e w' ⟨rfl, rfl⟩));go_ret;exact ⟨rfl, hb.out⟩
end
section
def Gf (n : Nd) : Inf := ⟨n.kind, 0, 0, n.num, n.text.data.toList⟩
def fo (l : List Nd) : Nat -> Nat -> Nat -> Fo
 | 0, _, _ => .nil
 | f + 1, p, stop => if p < stop then .cons (Gf (nd l p)) (fo l f (p + 1) (p + 1 + (sz l p).toNat)) (fo l f (p + 1 + (sz l p).toNat) stop) else .nil
theorem b2e (l : List Nd) (f p : Nat) : fo l f p p = .nil := by
 cases f with
 | zero => rfl
 | succ f => rw [fo, if_neg (Nat.lt_irrefl _)]
theorem X4 {S : Nat -> Int} {stop p : Nat} (hp : p < stop) (h : (Cq S stop p).isSome = true) : 0 <= S p ∧ p + 1 + (S p).toNat <= stop ∧ (Cq S stop (p + 1 + (S p).toNat)).isSome = true ∧ (Cq S stop p).getD [] = p :: (Cq S stop (p + 1 + (S p).toNat)).getD [] := by
 by_cases hb : S p < 0 ∨ (stop : Int) - 1 - p < S p
 ·rw [Cp hp hb] at h; cases h
 ·rw [Bh hp hb] at h;rw [Bh hp hb];rw [Option.isSome_map] at h;refine ⟨by omega, by omega, h, ?_⟩;obtain ⟨m, hm⟩ := Option.isSome_iff_exists.1 h;rw [hm];rfl
theorem a5j {l : List Nd} {n : Nat} (hok : ∀ j, j < n -> Ok (sz l) n j) : ∀ (f p stop : Nat), p <= stop -> stop <= n -> stop - p <= f -> (Cq (sz l) stop p).isSome = true ->
  (fo l f p stop).cnt = stop - p ∧ D4 (fo l f p stop) p = (Cq (sz l) stop p).getD [] ∧
   ∀ j, j < stop - p -> ∃ f', (sz l (p + j)).toNat <= f' ∧ (Dh (fo l f p stop))[j]? = some (Gf (nd l (p + j)), fo l f' (p + j + 1) (p + j + 1 + (sz l (p + j)).toNat)) := by
 intro f
 induction f with
 | zero =>
  intro p stop h1 h2 h3 h4;obtain rfl : p = stop := by omega
  exact ⟨by simp [fo, Fo.cnt], by rw [Bj (Nat.lt_irrefl _)]; rfl, fun j hj => absurd hj (by omega)⟩
 | succ f ih =>
  intro p stop h1 h2 h3 h4;by_cases hp : p < stop
  ·obtain ⟨s0, s1, s2, s3⟩ := X4 hp h4;have hk := (hok p (by omega)).kids;obtain ⟨a1, a2, a3⟩ := ih (p + 1) (p + 1 + (sz l p).toNat) (by omega) (by omega) (by omega) hk;obtain ⟨b1, b2, b3⟩ := ih (p + 1 + (sz l p).toNat) stop s1 h2 (by omega) s2;have hc : (fo l f (p + 1) (p + 1 + (sz l p).toNat)).cnt = (sz l p).toNat := by rw [a1]; omega
   rw [fo, if_pos hp];refine ⟨by rw [Fo.cnt, hc, b1]; omega, by rw [D4, hc, b2, s3], fun j hj => ?_⟩;by_cases hj0 : j = 0
   ·subst hj0;exact ⟨f, by rw [Nat.add_zero]; omega, by simp [Dh]⟩
   ·obtain ⟨i, rfl⟩ : ∃ i, j = i + 1 := ⟨j - 1, by omega⟩;by_cases hi : i < (sz l p).toNat
    ·obtain ⟨f', h5, h6⟩ := a3 i (by omega);refine ⟨f', by rw [show p + (i + 1) = p + 1 + i by omega]; exact h5, ?_⟩;rw [Dh, List.getElem?_cons_succ, List.getElem?_append_left (by rw [Bd, hc]; exact hi), h6, show p + (i + 1) = p + 1 + i by omega]
    ·obtain ⟨f', h5, h6⟩ := b3 (i - (sz l p).toNat) (by omega);have e : p + (i + 1) = p + 1 + (sz l p).toNat + (i - (sz l p).toNat) := by omega
     refine ⟨f', by rw [e]; exact h5, ?_⟩;rw [Dh, List.getElem?_cons_succ, List.getElem?_append_right (by rw [Bd, hc]; omega), Bd, hc, h6, <- e]
  ·obtain rfl : p = stop := by omega
   rw [fo, if_neg hp];exact ⟨by simp [Fo.cnt], by rw [Bj hp]; rfl, fun j hj => absurd hj (by omega)⟩
def Ie (l : List Nd) : Fo := fo l l.length 0 l.length
theorem Pd {S : Nat -> Int} {n : Nat} (h : Right S n) : (Cq S n 0).isSome = true := by
 have h1 := h.all;have h2 := h.pos;rw [Bh h.pos (by omega), Option.isSome_map, Bj (by omega)];rfl
theorem Gu {l : List Nd} (h : Right (sz l) l.length) : (Ie l).cnt = l.length ∧ ∀ p, p < l.length -> (Ag (Ie l) p).1 = Gf (nd l p) ∧ (Ag (Ie l) p).2.cnt = (sz l p).toNat ∧ A7 (sz l) p = D4 (Ag (Ie l) p).2 (p + 1) := by
 obtain ⟨h1, h2, h3⟩ := a5j h.ok l.length 0 l.length (Nat.zero_le _) (Nat.le_refl _) (by omega) (Pd h);refine ⟨by rw [Ie, h1]; omega, fun p hp => ?_⟩;obtain ⟨f', h4, h5⟩ := h3 p (by omega);rw [Nat.zero_add] at h4 h5
 have e : Ag (Ie l) p = (Gf (nd l p), fo l f' (p + 1) (p + 1 + (sz l p).toNat)) := by
  unfold Ag Ie;rw [List.getD_eq_getElem?_getD, h5];rfl
 have hk := h.ok p hp;have hh := hk.high;have hl := hk.low;obtain ⟨c1, c2, _⟩ := a5j h.ok f' (p + 1) (p + 1 + (sz l p).toNat) (by omega) (by omega) (by omega) hk.kids;rw [e];exact ⟨rfl, by rw [c1]; omega, c2.symm⟩
end
section
end
end Go.Proofs.YtoaplbljflhheaaGreat
