/-
 Contracts and plain facts on the way to PrettyBack. Conditions: as each says.
-/
import Derived.Test.YtoaplbljflhheaaGreatBbp
set_option maxHeartbeats 40000000
set_option maxRecDepth 100000
set_option linter.unusedVariables false
set_option linter.unusedSimpArgs false
namespace Go.Proofs.YtoaplbljflhheaaGreat
open _root_.Go.Proofs.Tryz
section
open Go.RowKit
open Classical in
noncomputable def Gn (S : Nat -> Int) (n : Nat) : Bool := decide (Right S n)
theorem Ec {S : Nat -> Int} {n : Nat} (h : Right S n) : Gn S n = true := by unfold Gn; simp [h]
theorem Fv {S : Nat -> Int} {n : Nat} (h : ¬ Right S n) : Gn S n = false := by unfold Gn; simp [h]
theorem Kt {S : Nat -> Int} {n : Nat} : Gn S n = true ↔ Right S n := by unfold Gn; simp
theorem a3e (a : Option Addr) (cap : Nat) (w : World) : Calls prog 40 #[.slice a 0 cap] w fun e w' => e = .returned (.bool false) ∧ Below w.heap.size w w' := by
 go_enter func40, ntmps40;go_wp2_with fail;go_ret;exact ⟨rfl, Below.refl _ _⟩
theorem Pb (b o n cap : Nat) (l : List Nd) (w : World) (hn : Hid (l.length = n)) (hl : n <= 1000000) (hr : Hid (Qv w b o l)) (hpos : 0 < n) (p : Bool) (hp : Hid (Gn (sz l) n = p)) :
  Calls prog 40 #[.slice (some ⟨b, o, none⟩) n cap] w fun e w' => e = .returned (.bool p) ∧ Below w.heap.size w w' := by
 obtain ⟨hat, hwf⟩ := hr.out 0 (by rw [hn.out]; exact hpos);have c3 := hat.c3;have hs := hwf.size;unfold Bg at hs;rw [Nat.zero_mul, Nat.add_zero] at c3;obtain ⟨z, hz⟩ : ∃ z, (nd l 0).size = z := ⟨_, rfl⟩;have hz0 : sz l 0 = z := hz;rw [hz] at c3 hs;clear hz hat hwf;obtain ⟨hs1, hs2⟩ := hs;have e0 : ((n : Int) == 0) = false := by rw [beq_eq_false_iff_ne]; omega
 by_cases hzn : z = (n : Int) - 1
 ·have e1 : (z != (n : Int) - 1) = false := by rw [hzn]; simp
  have hall : Hid (sz l 0 = (n : Int) - 1) := zz (by rw [hz0, hzn]);clear hz0 hzn;go_enter func40, ntmps40;go_wp2_with fail
  go_loopw [21] (fun j wr => ∃ k : Nat, k <= n ∧ j = .int .i64 k ∧ (∀ j, j < k -> Ok (sz l) n j) ∧ Below w.heap.size w wr) (fun j _ => n - (intOf j).toNat)
  case atStart => exact ⟨0, Nat.zero_le _, rfl, fun j hj => absurd hj (by omega), Below.refl _ _⟩
  case round =>
   obtain ⟨k, hk, rfl, hok, hbel⟩ := hrel;have hsz := hbel.size;by_cases hlt : k < n
   ·obtain ⟨g1, g2⟩ := a2g hall.out hlt hok;have HC := zz (fun R hR => N0 b o n cap l wr hn hl (zz (hr.out.carry hbel)) k (k + 1 + (sz l k).toNat) hlt g1 (by omega) (zz (by omega)) R hR)
    cases hR : Cq (sz l) (k + 1 + (sz l k).toNat) (k + 1) with
    | none =>
     have hp' : p = false := by
      rw [<- hp.out];apply Fv;intro h;have := (h.ok k hlt).kids;rw [hR] at this;cases this
     replace hR := zz hR;replace hok := zz hok;replace hbel := zz hbel;clear g1 g2;subst hp';go_wp2_with fail;refine (HC.out none hR).mono ?_;rintro e w1 ⟨v, rfl, ho1, hb1⟩;replace hb1 := zz hb1;go_wp2_with fail;go_ret
     exact ⟨rfl, Ab hbel.out hb1.out⟩
    | some x =>
     have HO := zz (show ∀ j, j < k + 1 -> Ok (sz l) n j from fun j hj => by
      by_cases e : j = k
      ·subst e; exact ⟨g1, g2, by rw [hR]; rfl⟩
      ·exact hok j (by omega))
     replace hR := zz hR;clear hok;replace hbel := zz hbel;clear g1 g2;go_wp2_with fail;refine (HC.out (some x) hR).mono ?_;rintro e w1 ⟨v, rfl, ho1, hb1⟩;replace hb1 := zz hb1;replace ho1 := zz ho1;go_wp2_with fail
     go_roundw
     case rel => exact ⟨k + 1, hlt, by go_num, HO.out, Ab hbel.out hb1.out⟩
     case measure => simp [intOf]; omega
   ·have hp' : p = true := by
     rw [<- hp.out];exact Ec ⟨hpos, hall.out, fun j hj => hok j (by omega)⟩
    subst hp';clear hok;replace hbel := zz hbel;go_wp2_with fail;go_ret;exact ⟨rfl, hbel.out⟩
 ·have hp' : p = false := by
   rw [<- hp.out];exact Fv fun h => hzn (by rw [<- hz0]; exact h.all)
  subst hp';have e1 : (z != (n : Int) - 1) = true := by rw [bne_iff_ne]; exact hzn
  clear hz0;go_enter func40, ntmps40;go_wp2_with fail;go_ret;exact ⟨rfl, Below.refl _ _⟩
theorem a3f (a : Option Addr) (n cap : Nat) (l : List Nd) (w : World) (hn : l.length = n) (hl : n <= 1000000) (hr : Row w a l) (p : Bool) (hp : Gn (sz l) n = p) :
  Calls prog 40 #[.slice a n cap] w fun e w' => e = .returned (.bool p) ∧ Below w.heap.size w w' := by
 by_cases h0 : l = []
 ·subst h0;obtain rfl : n = 0 := by simpa using hn.symm
  have : p = false := by rw [<- hp]; exact Fv fun h => absurd h.pos (by omega)
  subst this;exact a3e a cap w
 ·obtain ⟨b, o, rfl, hb⟩ := hr.block h0;exact Pb b o n cap l w (zz hn) hl (zz hb) (by rw [<- hn]; exact List.length_pos_iff.2 h0) p (zz hp)
open Classical in
noncomputable def Ms (S : Nat -> Int) (n i : Nat) : Int := if Hm S n i then i + 1 + S i else -1
def c3h (S : Nat -> Int) (n i st : Nat) (j : Value) : Prop := ∃ x : Int, j = .int .i64 x ∧ ((∃ k : Nat, x = k ∧ k <= st ∧ a63 S n i k) ∨ (¬ Hm S n i ∧ (x = -1 ∨ ((st : Int) < x ∧ x <= 1000001))))
theorem a7q (b o n cap : Nat) (l : List Nd) (w : World) (hn : Hid (l.length = n)) (hl : n <= 1000000) (hr : Hid (Qv w b o l)) (d : Nat) : ∀ (i : Nat), i < n -> n - i <= d -> ∀ E, Ms (sz l) n i = E ->
  Calls prog 51 #[.slice (some ⟨b, o, none⟩) n cap, .int .i64 (i : Nat)] w fun e w' => e = .returned (.int .i64 E) ∧ w = w' := by
 induction d with
 | zero => intro i h1 h2; omega
 | succ d ih =>
  intro i hi hd E hE;obtain ⟨hat, hwf⟩ := hr.out i (by rw [hn.out]; exact hi);have c3 := hat.c3;have hs := hwf.size;unfold Bg at hs;obtain ⟨z, hz⟩ : ∃ z, (nd l i).size = z := ⟨_, rfl⟩;have hz0 : sz l i = z := hz;rw [hz] at c3 hs;clear hz hat hwf;obtain ⟨hs1, hs2⟩ := hs;by_cases hb0 : z < 0
  ·have hE' : E = -1 := by
    rw [<- hE, Ms, if_neg];intro h;have := h.1;omega
   subst hE';clear hE hz0 ih;go_enter func51, ntmps51;go_wp2_with fail;go_ret;exact ⟨rfl, rfl⟩
  ·by_cases hb1 : (n : Int) - 1 - i < z
   ·have hE' : E = -1 := by
     rw [<- hE, Ms, if_neg];intro h;have := h.2.1;omega
    subst hE';clear hE hz0 ih;go_enter func51, ntmps51;go_wp2_with fail;go_ret;exact ⟨rfl, rfl⟩
   ·obtain ⟨m, rfl⟩ : ∃ m : Nat, z = m := ⟨z.toNat, by omega⟩;obtain ⟨st, hst⟩ : ∃ st, i + 1 + m = st := ⟨_, rfl⟩;have hst' : i + 1 + (sz l i).toNat = st := by rw [hz0]; exact hst
    have hst1 : i + 1 <= st := by omega
    have hst2 : st <= n := by omega
    have hw1 : 0 <= sz l i := by omega
    have hw2 : i + sz l i <= (n : Int) - 1 := by omega
    have hstw : (i : Int) + 1 + m = st := by omega
    replace hst := zz hst;replace hst' := zz hst';replace hz0 := zz hz0;replace hE := zz hE;have HW := zz (And.intro hw1 hw2);clear hw1 hw2;replace hb1 : ¬ (n : Int) - 1 - i < m := hb1;go_enter func51, ntmps51;go_wp2_with fail
    go_loop [6] (fun j => c3h (sz l) n i st j) (fun j => if intOf j < 0 then 0 else st - (intOf j).toNat)
    case atStart => exact ⟨((i + 1 : Nat) : Int), by go_num, .inl ⟨i + 1, rfl, hst1, a63.start _ _ _⟩⟩
    case round =>
     obtain ⟨x, rfl, hx⟩ := hrel;rcases hx with ⟨k, rfl, hk, hg⟩ | ⟨hnw, hx⟩
     ·by_cases hlt : k < st
      ·have hik : i + 1 <= k := by obtain ⟨_, _, h, _⟩ := hg; exact h
       have hkn : k < n := by omega
       have HI := zz (ih k hkn (by omega));obtain ⟨F, hF⟩ : ∃ F, Ms (sz l) n k = F := ⟨_, rfl⟩
       have HREL : Hid (c3h (sz l) n i st (.int .i64 F)) := zz (by
        by_cases hwk : Hm (sz l) n k
        ·rw [Ms, if_pos hwk] at hF;have a1 := hwk.1;have a2 := hwk.2.1;by_cases hex : ((i + 1 + (sz l i).toNat : Nat) : Int) - 1 - k < sz l k
         ·refine ⟨F, rfl, .inr ⟨fun hw => (hg.kid hw (by rw [hst'.out]; exact hlt)).2 hex, .inr ?_⟩⟩;rw [hst'.out] at hex;omega
         ·refine ⟨F, rfl, .inl ⟨k + 1 + (sz l k).toNat, by omega, ?_, hg.step (by rw [hst'.out]; exact hlt) hwk hex⟩⟩;rw [hst'.out] at hex;omega
        ·rw [Ms, if_neg hwk] at hF
         exact ⟨F, rfl, .inr ⟨fun hw => hwk (hg.kid hw (by rw [hst'.out]; exact hlt)).1, .inl hF.symm⟩⟩)
       have hFm : F < 0 ∨ (k : Int) < F := by
        by_cases hwk : Hm (sz l) n k
        ·rw [Ms, if_pos hwk] at hF;have a1 := hwk.1;omega
        ·rw [Ms, if_neg hwk] at hF;omega
       replace hF := zz hF;clear hg ih;have hlt' : (k : Int) < i + 1 + m := by omega
       go_wp2_with (go_at_call 51; refine (HI.out F hF.out).mono ?_; rintro e w' ⟨rfl, rfl⟩)
       go_round
       case rel => exact HREL.out
       case measure =>
        have hk0 : ¬ (k : Int) < 0 := by omega
        by_cases hF0 : F < 0 <;> simp [intOf, hF0, hk0] <;> omega
      ·have hks : k = st := by omega
       have hE' : E = st := by
        have := HW.out;rw [<- hE.out, Ms, if_pos (hg.done this.1 this.2 (by rw [hst'.out]; exact hks)), hz0.out];omega
       subst hks;clear hg ih;have hlt' : ¬ (k : Int) < i + 1 + m := by omega
       have hne : ((k : Int) != i + 1 + m) = false := by rw [hstw]; simp
       subst hE';replace hstw := zz hstw;go_wp2_with fail;go_ret;exact ⟨rfl, rfl⟩
     ·have hE' : E = -1 := by rw [<- hE.out, Ms, if_neg hnw]
      subst hE';clear hnw ih;replace hstw := hstw;rcases hx with rfl | ⟨hx1, hx2⟩
      ·have hne : ((-1 : Int) != i + 1 + m) = true := by rw [bne_iff_ne]; omega
       replace hstw := zz hstw;go_wp2_with fail;go_ret;exact ⟨rfl, rfl⟩
      ·have hne : (x != i + 1 + m) = true := by rw [bne_iff_ne]; omega
       have hx0 : 0 <= x := by omega
       have hlt' : ¬ x < i + 1 + m := by omega
       replace hstw := zz hstw;go_wp2_with fail;go_ret;exact ⟨rfl, rfl⟩
theorem a0n (a : Option Addr) (cap : Nat) (w : World) : Calls prog 25 #[.slice a 0 cap] w fun e w' => e = .returned (.bool false) ∧ w = w' := by
 go_enter func25, ntmps25;go_wp2_with fail;go_ret;exact ⟨rfl, rfl⟩
theorem Xx {S : Nat -> Int} {n : Nat} (hpos : 0 < n) : ((Ms S n 0) == (n : Int)) = Gn S n := by
 by_cases h : Right S n
 ·rw [Ec h];obtain ⟨_, h1, h2⟩ := Oz.1 h;rw [Ms, if_pos h1, beq_iff_eq];omega
 ·rw [Fv h, beq_eq_false_iff_ne];intro e;apply h;rw [Ms] at e;split at e
  ·rename_i hw;exact Oz.2 ⟨hpos, hw, by omega⟩
  ·omega
theorem M3 (b o n cap : Nat) (l : List Nd) (w : World) (hn : Hid (l.length = n)) (hl : n <= 1000000) (hr : Hid (Qv w b o l)) (hpos : 0 < n) (p : Bool) (hp : Gn (sz l) n = p) :
  Calls prog 25 #[.slice (some ⟨b, o, none⟩) n cap] w fun e w' => e = .returned (.bool p) ∧ w = w' := by
 have HE := zz (a7q b o n cap l w hn hl hr n 0 hpos (by omega));obtain ⟨E, hE⟩ : ∃ E, Ms (sz l) n 0 = E := ⟨_, rfl⟩;have e1 := Xx (S := sz l) hpos;rw [hE, hp] at e1;have g : (0 : Int) < n := by omega
 replace hE := zz hE;clear hp;go_enter func25, ntmps25;go_wp2_with (go_at_call 51; refine (HE.out E hE.out).mono ?_; rintro e w' ⟨rfl, rfl⟩);go_ret;exact ⟨rfl, rfl⟩
theorem a0o (a : Option Addr) (n cap : Nat) (l : List Nd) (w : World) (hn : l.length = n) (hl : n <= 1000000) (hr : Row w a l) (p : Bool) (hp : Gn (sz l) n = p) :
  Calls prog 25 #[.slice a n cap] w fun e w' => e = .returned (.bool p) ∧ w = w' := by
 by_cases h0 : l = []
 ·subst h0;obtain rfl : n = 0 := by simpa using hn.symm
  have : p = false := by rw [<- hp]; exact Fv fun h => absurd h.pos (by omega)
  subst this;exact a0n a cap w
 ·obtain ⟨b, o, rfl, hb⟩ := hr.block h0;exact M3 b o n cap l w (zz hn) hl (zz hb) (by rw [<- hn]; exact List.length_pos_iff.2 h0) p hp
end
section
open Go.RowKit Go.Sort
end
end Go.Proofs.YtoaplbljflhheaaGreat
