/-
 Contracts and plain facts on the way to PrettyWrites. Conditions: as each says.
-/
import Derived.Lib.AppendStr
import Derived.Test.YtoaplbljflhheaaGreatWav
set_option maxHeartbeats 40000000
set_option maxRecDepth 100000
set_option linter.unusedVariables false
set_option linter.unusedSimpArgs false
namespace Go.Proofs.YtoaplbljflhheaaGreat
open Go.RowKit
theorem a8d : ∀ n : Fin 16, (dgs.extract n.val (n.val + 1)).data = (bs [hx n.val]).data := by decide
theorem Zk (p : Nat) (h : p < 16) (w : World) : Calls Tryz.prog 60 #[.int .i64 p] w fun e w' => e = .returned (.string (bs [hx p])) ∧ w = w' := by
 have H := zz (show dgs.extract p (p + 1) = bs [hx p] from ByteArray.ext (a8d ⟨p, h⟩))
 obtain ⟨q, hq⟩ : ∃ q, p + 1 = q := ⟨_, rfl⟩
 have hq' : (p : Int) + 1 = q := by omega
 have h1 : p ≤ q := by omega
 have h2 : q ≤ 16 := by omega
 rw [hq] at H
 clear hq
 go_enter Tryz.func60, Tryz.ntmps60
 go_wp2
 go_ret
 exact ⟨congrArg (fun x => Ending.returned (Value.string x)) H.out, rfl⟩
def b3g (s : ByteArray) (w : World) (v i : Value) (wr : World) : Prop :=
 ∃ k : Nat, k ≤ s.size ∧ i = .int .i64 k ∧ Own wr w.heap.size v (34 :: F7 (s.data.toList.take k)) ∧ Below w.heap.size w wr
theorem b3g.step {s : ByteArray} {w wr w1 : World} {v' : Value} {k : Nat} {m : List UInt8} (h : k < s.size) (hm : esc s[k] = m) (ho : Own w1 w.heap.size v' (34 :: F7 (s.data.toList.take k) ++ m)) (hb : Below w.heap.size w wr) (hb1 : Below w.heap.size wr w1) :
  b3g s w v' (.int .i64 ((k : Int) + 1)) w1 := by
 refine ⟨k + 1, h, by go_num, ?_, hb.trans hb1⟩
 rw [Lb s k h, hm]
 exact ho
theorem Uq (s : ByteArray) (w : World) (hs : s.size ≤ 100000) : Calls Tryz.prog 33 #[.string s] w fun e w' => e = .returned (.string (bs (lit s.data.toList))) ∧ Below w.heap.size w w' := by
 go_enter Tryz.func33, Tryz.ntmps33
 go_wp2
 go_loopw [3, 4] (fun v i wr => b3g s w v i wr) (fun _ i _ => s.size - (intOf i).toNat)
 case atStart => exact ⟨0, Nat.zero_le _, rfl, Kq [34] rfl (Nat.le_refl _) 1 rfl (by decide), Aa _ _⟩
 case round =>
  obtain ⟨k, hk, rfl, ho, hb⟩ := hrel
  have hz := R2 s k hk hs
  have hbs := hb.size
  by_cases hlt : k < s.size
  ·obtain ⟨l, hl⟩ : ∃ l, 34 :: F7 (s.data.toList.take k) = l := ⟨_, rfl⟩
   have hll : l.length ≤ 400001 := by rw [← hl]; simp; omega
   rw [hl] at ho
   have hst := zz (fun m (hm : esc s[k] = m) w1 v' (h1 : Own w1 w.heap.size v' (l ++ m)) h2 => b3g.step hlt hm (hl ▸ h1) hb h2)
   replace ho := zz ho
   replace hb := zz hb
   clear hz hl
   by_cases h34 : s[k] = 34
   case pos =>
    have HM := zz (show esc s[k] = [92, s[k]] by rw [h34]; rfl)
    have e1 : ((s[k].toNat : Int) == 34) = true := by rw [h34]; rfl
    clear h34
    go_wp2_with (at_builtin; refine A5 rfl _ _ rfl w.heap.size u3 l [92, s[k]] 2 rfl rfl rfl rfl ho.out hbs (by omega) ?_; intro v2 w2 ho2 hb2; replace ho2 := zz ho2; replace hb2 := zz hb2)
    go_roundw
    case rel => exact hst.out _ HM.out _ _ ho2.out hb2.out
    case measure => simp [intOf]; omega
   have e1 : ((s[k].toNat : Int) == 34) = false := Ac (n := 34) (by decide) h34
   by_cases h92 : s[k] = 92
   case pos =>
    have HM := zz (show esc s[k] = [92, s[k]] by rw [h92]; rfl)
    have e2 : ((s[k].toNat : Int) == 92) = true := by rw [h92]; rfl
    clear h34 h92
    go_wp2_with (at_builtin; refine A5 rfl _ _ rfl w.heap.size u3 l [92, s[k]] 2 rfl rfl rfl rfl ho.out hbs (by omega) ?_; intro v2 w2 ho2 hb2; replace ho2 := zz ho2; replace hb2 := zz hb2)
    go_roundw
    case rel => exact hst.out _ HM.out _ _ ho2.out hb2.out
    case measure => simp [intOf]; omega
   have e2 : ((s[k].toNat : Int) == 92) = false := Ac (n := 92) (by decide) h92
   by_cases h10 : s[k] = 10
   case pos =>
    have HM := zz (show esc s[k] = [92, 110] by rw [h10]; rfl)
    have e3 : ((s[k].toNat : Int) == 10) = true := by rw [h10]; rfl
    clear h34 h92 h10
    go_wp2_with (at_builtin; refine A5 rfl _ _ rfl w.heap.size u3 l [92, 110] 2 rfl rfl rfl rfl ho.out hbs (by omega) ?_; intro v2 w2 ho2 hb2; replace ho2 := zz ho2; replace hb2 := zz hb2)
    go_roundw
    case rel => exact hst.out _ HM.out _ _ ho2.out hb2.out
    case measure => simp [intOf]; omega
   have e3 : ((s[k].toNat : Int) == 10) = false := Ac (n := 10) (by decide) h10
   by_cases h9 : s[k] = 9
   case pos =>
    have HM := zz (show esc s[k] = [92, 116] by rw [h9]; rfl)
    have e4 : ((s[k].toNat : Int) == 9) = true := by rw [h9]; rfl
    clear h34 h92 h10 h9
    go_wp2_with (at_builtin; refine A5 rfl _ _ rfl w.heap.size u3 l [92, 116] 2 rfl rfl rfl rfl ho.out hbs (by omega) ?_; intro v2 w2 ho2 hb2; replace ho2 := zz ho2; replace hb2 := zz hb2)
    go_roundw
    case rel => exact hst.out _ HM.out _ _ ho2.out hb2.out
    case measure => simp [intOf]; omega
   have e4 : ((s[k].toNat : Int) == 9) = false := Ac (n := 9) (by decide) h9
   by_cases hlow : s[k].toNat < 32 ∨ 126 < s[k].toNat
   case neg =>
    have HM := zz (show esc s[k] = [s[k]] by simp [esc, h34, h92, h10, h9, hlow])
    have e5 : (32 : Int) ≤ s[k].toNat := by omega
    have e6 : (s[k].toNat : Int) ≤ 126 := by omega
    clear h34 h92 h10 h9 hlow
    go_wp2_with (at_builtin; refine A5 rfl _ _ rfl w.heap.size u3 l [s[k]] 1 rfl rfl rfl rfl ho.out hbs (by omega) ?_; intro v2 w2 ho2 hb2; replace ho2 := zz ho2; replace hb2 := zz hb2)
    go_roundw
    case rel => exact hst.out _ HM.out _ _ ho2.out hb2.out
    case measure => simp [intOf]; omega
   have HM := zz (show esc s[k] = [92, 120] ++ [hx (s[k].toNat / 16)] ++ [hx (s[k].toNat % 16)] by simp [esc, h34, h92, h10, h9, hlow])
   obtain ⟨p, hp⟩ : ∃ p, s[k].toNat / 16 = p := ⟨_, rfl⟩
   obtain ⟨q, hq⟩ : ∃ q, s[k].toNat % 16 = q := ⟨_, rfl⟩
   have hc := s[k].toNat_lt
   have hp2 : p < 16 := by omega
   have hq2 : q < 16 := by omega
   have hp' : (s[k].toNat : Int).tdiv 16 = p := by rw [Int.tdiv_eq_ediv_of_nonneg (by omega)]; omega
   have hq' : (s[k].toNat : Int).tmod 16 = q := by rw [Int.tmod_eq_emod_of_nonneg (by omega)]; omega
   rw [hp, hq] at HM
   have HP := zz (fun w => Zk p hp2 w)
   have HQ := zz (fun w => Zk q hq2 w)
   clear hp hq h34 h92 h10 h9
   have hst2 := zz (fun w1 v' (h1 : Own w1 w.heap.size v' (l ++ [92, 120] ++ [hx p] ++ [hx q])) h2 => hst.out _ HM.out w1 v' (by simpa using h1) h2)
   rcases hlow with hlow | hlow
   ·have e5 : (s[k].toNat : Int) < 32 := by omega
    clear hlow hc
    go_wp2_with (first
     | (at_builtin; refine A5 rfl _ _ rfl w.heap.size u3 l [92, 120] 2 rfl rfl rfl rfl ho.out hbs (by omega) ?_; intro v2 w2 ho2 hb2; have hz2 := Nat.le_trans hbs hb2.size; replace ho2 := zz ho2; replace hb2 := zz hb2)
     | fail)
    refine (HP.out _).mono ?_
    rintro e w3 ⟨rfl, rfl⟩
    go_wp2_with (first
     | (at_builtin; refine Fk rfl _ _ rfl w.heap.size v2 (l ++ [92, 120]) [hx p] rfl rfl ho2.out hz2 (by simp; omega) ?_; intro v3 w3 ho3 hb3; replace ho3 := zz ho3; replace hb3 := zz (hb2.out.trans hb3); have hz3 := Nat.le_trans hbs hb3.out.size)
     | fail)
    refine (HQ.out _).mono ?_
    rintro e w4 ⟨rfl, rfl⟩
    go_wp2_with (first
     | (at_builtin; refine Fk rfl _ _ rfl w.heap.size v3 (l ++ [92, 120] ++ [hx p]) [hx q] rfl rfl ho3.out hz3 (by simp; omega) ?_; intro v4 w4 ho4 hb4; replace ho4 := zz ho4; replace hb4 := zz (hb3.out.trans hb4))
     | fail)
    go_roundw
    case rel => exact hst2.out _ _ ho4.out hb4.out
    case measure => simp [intOf]; omega
   ·have e5 : (126 : Int) < s[k].toNat := by omega
    have e6 : (32 : Int) ≤ s[k].toNat := by omega
    have e7 : (s[k].toNat : Int) ≤ 255 := by omega
    clear hlow hc
    go_wp2_with (first
     | (at_builtin; refine A5 rfl _ _ rfl w.heap.size u3 l [92, 120] 2 rfl rfl rfl rfl ho.out hbs (by omega) ?_; intro v2 w2 ho2 hb2; have hz2 := Nat.le_trans hbs hb2.size; replace ho2 := zz ho2; replace hb2 := zz hb2)
     | fail)
    refine (HP.out _).mono ?_
    rintro e w3 ⟨rfl, rfl⟩
    go_wp2_with (first
     | (at_builtin; refine Fk rfl _ _ rfl w.heap.size v2 (l ++ [92, 120]) [hx p] rfl rfl ho2.out hz2 (by simp; omega) ?_; intro v3 w3 ho3 hb3; replace ho3 := zz ho3; replace hb3 := zz (hb2.out.trans hb3); have hz3 := Nat.le_trans hbs hb3.out.size)
     | fail)
    refine (HQ.out _).mono ?_
    rintro e w4 ⟨rfl, rfl⟩
    go_wp2_with (first
     | (at_builtin; refine Fk rfl _ _ rfl w.heap.size v3 (l ++ [92, 120] ++ [hx p]) [hx q] rfl rfl ho3.out hz3 (by simp; omega) ?_; intro v4 w4 ho4 hb4; replace ho4 := zz ho4; replace hb4 := zz (hb3.out.trans hb4))
     | fail)
    go_roundw
    case rel => exact hst2.out _ _ ho4.out hb4.out
    case measure => simp [intOf]; omega
  ·obtain rfl : k = s.size := by omega
   have HB := zz (show 34 :: F7 (s.data.toList.take s.size) ++ [34] = lit s.data.toList by rw [List.take_of_length_le (by rw [Ae]; omega)]; rfl)
   obtain ⟨l, hl⟩ : ∃ l, 34 :: F7 (s.data.toList.take s.size) = l := ⟨_, rfl⟩
   have hll : l.length ≤ 400001 := by rw [← hl]; simp; omega
   rw [hl] at ho HB
   replace hb := zz hb
   replace ho := zz ho
   clear hl hz
   go_wp2_with (at_builtin; refine A5 rfl _ _ rfl w.heap.size u3 l [34] 1 rfl rfl rfl rfl ho.out hbs (by omega) ?_; intro v2 w2 ho2 hb2; have hcv := Fu ho2; replace ho2 := zz ho2; replace hb2 := zz hb2)
   go_ret
   rw [HB.out]
   exact ⟨rfl, hb.out.trans hb2.out⟩
end Go.Proofs.YtoaplbljflhheaaGreat
