/-
 Contracts and plain facts on the way to PrettyBack. Conditions: as each says.
-/
import Derived.Test.YtoaplbljflhheaaGreatBbl
set_option maxHeartbeats 40000000
set_option maxRecDepth 100000
set_option linter.unusedVariables false
set_option linter.unusedSimpArgs false
namespace Go.Proofs.YtoaplbljflhheaaGreat
open _root_.Go.Proofs.Tryz
section
open Go.RowKit Go.Sort
theorem a24 (a : Option Addr) (n cap : Nat) (l : List Nd) (a' : Option Addr) (n' cap' : Nat) (m : List Nd) (w : World) (hn : Hid (l.length = n)) (hn' : Hid (m.length = n')) (hl : n <= 1000000) (hl' : n' <= 1000000) (hr : Hid (Row w a l)) (hr' : Hid (Row w a' m)) (p : Bool) (hp : Hid (Uc l m = p)) :
  Calls prog 20 #[.slice a n cap, .slice a' n' cap'] w fun e w' => e = .returned (.bool p) ∧ Below w.heap.size w w' := by
 by_cases hnn : n = n'
 ·subst hnn;have e0 : ((n : Int) != (n : Int)) = false := by simp
  go_enter func20, ntmps20;go_wp2_with fail
  go_loopw [13] (fun j wr => ∃ k : Nat, k <= n ∧ j = .int .i64 k ∧ (∀ i, i < k -> eqN (nd l i) (nd m i) = true) ∧ Below w.heap.size w wr) (fun j _ => n - (intOf j).toNat)
  case atStart => exact ⟨0, Nat.zero_le _, rfl, fun i hi => absurd hi (by omega), Below.refl _ _⟩
  case round =>
   obtain ⟨k, hk, rfl, hall, hbel⟩ := hrel;replace hall := zz hall;by_cases hlt : k < n
   ·obtain ⟨b, o, rfl, hat, hwf⟩ := (hr.out.carry hbel) k (by rw [hn.out]; exact hlt);obtain ⟨b', o', rfl, hat', hwf'⟩ := (hr'.out.carry hbel) k (by rw [hn'.out]; exact hlt);obtain ⟨c0, c1, c2, c3, c4, c5⟩ := hat;obtain ⟨d0, d1, d2, d3, d4, d5⟩ := hat';obtain ⟨kd, ln, cl, s, num, tx, hN⟩ : ∃ kd ln cl s num tx, nd l k = ⟨kd, ln, cl, s, num, tx⟩ := ⟨_, _, _, _, _, _, rfl⟩;obtain ⟨kd', ln', cl', s', num', tx', hN'⟩ : ∃ kd ln cl s num tx, nd m k = ⟨kd, ln, cl, s, num, tx⟩ := ⟨_, _, _, _, _, _, rfl⟩;rw [hN] at c0 c1 c2 c3 c4 c5;rw [hN'] at d0 d1 d2 d3 d4 d5;simp only at c0 c1 c2 c3 c4 c5 d0 d1 d2 d3 d4 d5;have hE : eqN (nd l k) (nd m k) = ((kd == kd') && ((s == s') && ((num == num') && (tx.data.toList == tx'.data.toList)))) := by rw [hN, hN']; rfl
    have hbad : Hid (eqN (nd l k) (nd m k) = false -> p = false) := zz fun h => by rw [<- hp.out]; exact a8e (by rw [hn.out]; exact hlt) h
    have hgood : Hid (eqN (nd l k) (nd m k) = true -> ∀ i, i < k + 1 -> eqN (nd l i) (nd m i) = true) := zz fun h i hi => by
     by_cases e : i = k
     ·subst e; exact h
     ·exact hall.out i (by omega)
    replace hE := zz hE;replace hbel := zz hbel;clear hN hN' hwf hwf' c1 c2 d1 d2;by_cases h1 : kd = kd'
    ·have f1 : ((kd : Int) != (kd' : Int)) = false := by rw [h1]; simp
     by_cases h2 : s = s'
     ·have f2 : (s != s') = false := by rw [h2]; simp
      by_cases h3 : num = num'
      ·have f3 : (num != num') = false := by rw [h3]; simp
       by_cases h4 : tx.data.toList = tx'.data.toList
       ·have f4 : (tx.toList != tx'.toList) = false := by rw [ByteArray.toList_eq, ByteArray.toList_eq, h4]; simp
        have f5 : (tx.toList == tx'.toList) = true := by rw [ByteArray.toList_eq, ByteArray.toList_eq, h4]; simp
        have HA := zz (hgood.out (by rw [hE.out, h1, h2, h3, h4]; simp));clear h1 h2 h3 h4;go_wp2_with fail
        go_quiet (fail)
        have hb5 := zz (Ab hbel.out (An _ nq));go_wp2_with fail
        go_roundw
        case rel => exact ⟨k + 1, hlt, by go_num, HA.out, hb5.out⟩
        case measure => simp [intOf]; omega
       ·have f4 : (tx.toList != tx'.toList) = true := by rw [ByteArray.toList_eq, ByteArray.toList_eq]; simpa using h4
        have f5 : (tx.toList == tx'.toList) = false := by rw [ByteArray.toList_eq, ByteArray.toList_eq]; simpa using h4
        have hp' : p = false := hbad.out (by rw [hE.out, show (tx.data.toList == tx'.data.toList) = false from beq_eq_false_iff_ne.2 h4]; simp);subst hp';clear h1 h2 h3 h4;go_wp2_with fail
        go_quiet (fail)
        have hb5 := zz (Ab hbel.out (An _ nq));go_wp2_with fail;go_ret;exact ⟨rfl, hb5.out⟩
      ·have f3 : (num != num') = true := by rw [bne_iff_ne]; exact h3
       have hp' : p = false := hbad.out (by rw [hE.out]; simp [h3]);subst hp';clear h1 h2 h3;go_wp2_with fail
       go_quiet (fail)
       have hb5 := zz (Ab hbel.out (An _ nq));go_wp2_with fail;go_ret;exact ⟨rfl, hb5.out⟩
     ·have f2 : (s != s') = true := by rw [bne_iff_ne]; exact h2
      have hp' : p = false := hbad.out (by rw [hE.out]; simp [h2]);subst hp';clear h1 h2;go_wp2_with fail
      go_quiet (fail)
      have hb5 := zz (Ab hbel.out (An _ nq));go_wp2_with fail;go_ret;exact ⟨rfl, hb5.out⟩
    ·have f1 : ((kd : Int) != (kd' : Int)) = true := by rw [bne_iff_ne]; omega
     have hp' : p = false := hbad.out (by rw [hE.out]; simp [h1]);subst hp';clear h1;go_wp2_with fail
     go_quiet (fail)
     have hb5 := zz (Ab hbel.out (An _ nq));go_wp2_with fail;go_ret;exact ⟨rfl, hb5.out⟩
   ·have hp' : p = true := by rw [<- hp.out]; exact Ub (by rw [hn.out, hn'.out]) fun i hi => hall.out i (by rw [hn.out] at hi; omega)
    subst hp';replace hbel := zz hbel;go_wp2_with fail;go_ret;exact ⟨rfl, hbel.out⟩
 ·have hp' : p = false := by rw [<- hp.out]; exact a8d (by rw [hn.out, hn'.out]; exact hnn)
  subst hp';have e0 : ((n : Int) != (n' : Int)) = true := by rw [bne_iff_ne]; omega
  go_enter func20, ntmps20;go_wp2_with fail;go_ret;exact ⟨rfl, Below.refl _ _⟩
end
end Go.Proofs.YtoaplbljflhheaaGreat
