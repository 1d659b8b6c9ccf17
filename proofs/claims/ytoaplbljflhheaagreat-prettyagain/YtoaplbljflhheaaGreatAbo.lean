/-
 Contracts and plain facts on the way to PrettyAgain. Conditions: as each says.
-/
import Derived.Test.YtoaplbljflhheaaGreatAbn
set_option maxHeartbeats 40000000
set_option maxRecDepth 100000
set_option linter.unusedVariables false
set_option linter.unusedSimpArgs false
namespace Go.Proofs.YtoaplbljflhheaaGreat
open _root_.Go.Proofs.Tryz
section
open Go.RowKit
open Classical in
noncomputable def J1 (S : Nat → Int) (n : Nat) : Bool := decide (Right S n)
theorem Jb {S : Nat → Int} {n : Nat} (h : Right S n) : J1 S n = true := by unfold J1; simp [h]
theorem J0 {S : Nat → Int} {n : Nat} (h : ¬ Right S n) : J1 S n = false := by unfold J1; simp [h]
theorem M3 {S : Nat → Int} {n : Nat} : J1 S n = true ↔ Right S n := by unfold J1; simp
theorem a2v (a : Option Addr) (cap : Nat) (w : World) : Calls prog 40 #[.slice a 0 cap] w fun e w' => e = .returned (.bool false) ∧ Below w.heap.size w w' := by
 go_enter func40, ntmps40;go_wp2_with fail;go_ret;exact ⟨rfl, Below.refl _ _⟩
theorem Pa (b o n cap : Nat) (l : List Nd) (w : World) (hn : Hid (l.length = n)) (hl : n ≤ 1000000) (hr : Hid (a6o w b o l)) (hpos : 0 < n) (p : Bool) (hp : Hid (J1 (sz l) n = p)) :
  Calls prog 40 #[.slice (some ⟨b, o, none⟩) n cap] w fun e w' => e = .returned (.bool p) ∧ Below w.heap.size w w' := by
 obtain ⟨hat, hwf⟩ := hr.out 0 (by rw [hn.out]; exact hpos);have c3 := hat.c3;have hs := hwf.size;unfold A9 at hs;rw [Nat.zero_mul, Nat.add_zero] at c3;obtain ⟨z, hz⟩ : ∃ z, (nd l 0).size = z := ⟨_, rfl⟩;have hz0 : sz l 0 = z := hz;rw [hz] at c3 hs;clear hz hat hwf;obtain ⟨hs1, hs2⟩ := hs;have e0 : ((n : Int) == 0) = false := by rw [beq_eq_false_iff_ne]; omega
 by_cases hzn : z = (n : Int) - 1
 ·have e1 : (z != (n : Int) - 1) = false := by rw [hzn]; simp
  have hall : Hid (sz l 0 = (n : Int) - 1) := zz (by rw [hz0, hzn]);clear hz0 hzn;go_enter func40, ntmps40;go_wp2_with fail
  go_loopw [21] (fun j wr => ∃ k : Nat, k ≤ n ∧ j = .int .i64 k ∧ (∀ j, j < k → Ok (sz l) n j) ∧ Below w.heap.size w wr) (fun j _ => n - (intOf j).toNat)
  case atStart => exact ⟨0, Nat.zero_le _, rfl, fun j hj => absurd hj (by omega), Below.refl _ _⟩
  case round =>
   obtain ⟨k, hk, rfl, hok, hbel⟩ := hrel;have hsz := hbel.size;by_cases hlt : k < n
   ·obtain ⟨g1, g2⟩ := a13 hall.out hlt hok;have HC := zz (fun R hR => N2 b o n cap l wr hn hl (zz (hr.out.carry hbel)) k (k + 1 + (sz l k).toNat) hlt g1 (by omega) (zz (by omega)) R hR)
    cases hR : Da (sz l) (k + 1 + (sz l k).toNat) (k + 1) with
    | none =>
     have hp' : p = false := by
      rw [← hp.out];apply J0;intro h;have := (h.ok k hlt).kids;rw [hR] at this;cases this
     replace hR := zz hR;replace hok := zz hok;replace hbel := zz hbel;clear g1 g2;subst hp';go_wp2_with fail;refine (HC.out none hR).mono ?_;rintro e w1 ⟨v, rfl, ho1, hb1⟩;replace hb1 := zz hb1;go_wp2_with fail;go_ret
     exact ⟨rfl, Ab hbel.out hb1.out⟩
    | some x =>
     have HO := zz (show ∀ j, j < k + 1 → Ok (sz l) n j from fun j hj => by
      by_cases e : j = k
      ·subst e; exact ⟨g1, g2, by rw [hR]; rfl⟩
      ·exact hok j (by omega))
     replace hR := zz hR;clear hok;replace hbel := zz hbel;clear g1 g2;go_wp2_with fail;refine (HC.out (some x) hR).mono ?_;rintro e w1 ⟨v, rfl, ho1, hb1⟩;replace hb1 := zz hb1;replace ho1 := zz ho1;go_wp2_with fail
     go_roundw
     case rel => exact ⟨k + 1, hlt, by go_num, HO.out, Ab hbel.out hb1.out⟩
     case measure => simp [intOf]; omega
   ·have hp' : p = true := by
     rw [← hp.out];exact Jb ⟨hpos, hall.out, fun j hj => hok j (by omega)⟩
    subst hp';clear hok;replace hbel := zz hbel;go_wp2_with fail;go_ret;exact ⟨rfl, hbel.out⟩
 ·have hp' : p = false := by
   rw [← hp.out];exact J0 fun h => hzn (by rw [← hz0]; exact h.all)
  subst hp';have e1 : (z != (n : Int) - 1) = true := by rw [bne_iff_ne]; exact hzn
  clear hz0;go_enter func40, ntmps40;go_wp2_with fail;go_ret;exact ⟨rfl, Below.refl _ _⟩
theorem a2w (a : Option Addr) (n cap : Nat) (l : List Nd) (w : World) (hn : l.length = n) (hl : n ≤ 1000000) (hr : Row w a l) (p : Bool) (hp : J1 (sz l) n = p) :
  Calls prog 40 #[.slice a n cap] w fun e w' => e = .returned (.bool p) ∧ Below w.heap.size w w' := by
 by_cases h0 : l = []
 ·subst h0;obtain rfl : n = 0 := by simpa using hn.symm
  have : p = false := by rw [← hp]; exact J0 fun h => absurd h.pos (by omega)
  subst this;exact a2v a cap w
 ·obtain ⟨b, o, rfl, hb⟩ := hr.block h0;exact Pa b o n cap l w (zz hn) hl (zz hb) (by rw [← hn]; exact List.length_pos_iff.2 h0) p (zz hp)
end
end Go.Proofs.YtoaplbljflhheaaGreat
