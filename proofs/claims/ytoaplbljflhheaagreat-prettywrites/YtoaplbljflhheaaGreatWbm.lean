/-
 Contracts and plain facts on the way to PrettyWrites. Conditions: as each says.
-/
import Derived.Test.YtoaplbljflhheaaGreatWbl
set_option maxHeartbeats 40000000
set_option maxRecDepth 100000
set_option linter.unusedVariables false
set_option linter.unusedSimpArgs false
namespace Go.Proofs.YtoaplbljflhheaaGreat
open Go.RowKit
open Classical in
noncomputable def D0 (S : Nat → Int) (n : Nat) : Bool := decide (Right S n)
theorem Cu {S : Nat → Int} {n : Nat} (h : Right S n) : D0 S n = true := by unfold D0; simp [h]
theorem Dt {S : Nat → Int} {n : Nat} (h : ¬ Right S n) : D0 S n = false := by unfold D0; simp [h]
theorem Hd {S : Nat → Int} {n : Nat} : D0 S n = true ↔ Right S n := by unfold D0; simp
theorem X8 (a : Option Addr) (cap : Nat) (w : World) : Calls Tryz.prog 40 #[.slice a 0 cap] w fun e w' => e = .returned (.bool false) ∧ Below w.heap.size w w' := by
 go_enter Tryz.func40, Tryz.ntmps40
 go_wp2_with fail
 go_ret
 exact ⟨rfl, Below.refl _ _⟩
theorem Kj (b o n cap : Nat) (l : List Nd) (w : World) (hn : Hid (l.length = n)) (hl : n ≤ 1000000) (hr : Hid (Li w b o l)) (hpos : 0 < n) (p : Bool) (hp : Hid (D0 (sz l) n = p)) :
  Calls Tryz.prog 40 #[.slice (some ⟨b, o, none⟩) n cap] w fun e w' => e = .returned (.bool p) ∧ Below w.heap.size w w' := by
 obtain ⟨hat, hwf⟩ := hr.out 0 (by rw [hn.out]; exact hpos)
 have c3 := hat.c3
 have hs := hwf.size
 unfold Ax at hs
 rw [Nat.zero_mul, Nat.add_zero] at c3
 obtain ⟨z, hz⟩ : ∃ z, (nd l 0).size = z := ⟨_, rfl⟩
 have hz0 : sz l 0 = z := hz
 rw [hz] at c3 hs
 clear hz hat hwf
 obtain ⟨hs1, hs2⟩ := hs
 have e0 : ((n : Int) == 0) = false := by rw [beq_eq_false_iff_ne]; omega
 by_cases hzn : z = (n : Int) - 1
 ·have e1 : (z != (n : Int) - 1) = false := by rw [hzn]; simp
  have hall : Hid (sz l 0 = (n : Int) - 1) := zz (by rw [hz0, hzn])
  clear hz0 hzn
  go_enter Tryz.func40, Tryz.ntmps40
  go_wp2_with fail
  go_loopw [21] (fun j wr => ∃ k : Nat, k ≤ n ∧ j = .int .i64 k ∧ (∀ j, j < k → Ok (sz l) n j) ∧ Below w.heap.size w wr) (fun j _ => n - (intOf j).toNat)
  case atStart => exact ⟨0, Nat.zero_le _, rfl, fun j hj => absurd hj (by omega), Below.refl _ _⟩
  case round =>
   obtain ⟨k, hk, rfl, hok, hbel⟩ := hrel
   have hsz := hbel.size
   by_cases hlt : k < n
   ·obtain ⟨g1, g2⟩ := Wu hall.out hlt hok
    have HC := zz (fun R hR => Jk b o n cap l wr hn hl (zz (hr.out.carry hbel)) k (k + 1 + (sz l k).toNat) hlt g1 (by omega) (zz (by omega)) R hR)
    cases hR : Bw (sz l) (k + 1 + (sz l k).toNat) (k + 1) with
    | none =>
     have hp' : p = false := by
      rw [← hp.out]
      apply Dt
      intro h
      have := (h.ok k hlt).kids
      rw [hR] at this
      cases this
     replace hR := zz hR
     replace hok := zz hok
     replace hbel := zz hbel
     clear g1 g2
     subst hp'
     go_wp2_with fail
     refine (HC.out none hR).mono ?_
     rintro e w1 ⟨v, rfl, ho1, hb1⟩
     replace hb1 := zz hb1
     go_wp2_with fail
     go_ret
     exact ⟨rfl, Ab hbel.out hb1.out⟩
    | some x =>
     have HO := zz (show ∀ j, j < k + 1 → Ok (sz l) n j from fun j hj => by
      by_cases e : j = k
      ·subst e; exact ⟨g1, g2, by rw [hR]; rfl⟩
      ·exact hok j (by omega))
     replace hR := zz hR
     clear hok
     replace hbel := zz hbel
     clear g1 g2
     go_wp2_with fail
     refine (HC.out (some x) hR).mono ?_
     rintro e w1 ⟨v, rfl, ho1, hb1⟩
     replace hb1 := zz hb1
     replace ho1 := zz ho1
     go_wp2_with fail
     go_roundw
     case rel => exact ⟨k + 1, hlt, by go_num, HO.out, Ab hbel.out hb1.out⟩
     case measure => simp [intOf]; omega
   ·have hp' : p = true := by
     rw [← hp.out]
     exact Cu ⟨hpos, hall.out, fun j hj => hok j (by omega)⟩
    subst hp'
    clear hok
    replace hbel := zz hbel
    go_wp2_with fail
    go_ret
    exact ⟨rfl, hbel.out⟩
 ·have hp' : p = false := by
   rw [← hp.out]
   exact Dt fun h => hzn (by rw [← hz0]; exact h.all)
  subst hp'
  have e1 : (z != (n : Int) - 1) = true := by rw [bne_iff_ne]; exact hzn
  clear hz0
  go_enter Tryz.func40, Tryz.ntmps40
  go_wp2_with fail
  go_ret
  exact ⟨rfl, Below.refl _ _⟩
theorem X9 (a : Option Addr) (n cap : Nat) (l : List Nd) (w : World) (hn : l.length = n) (hl : n ≤ 1000000) (hr : Row w a l) (p : Bool) (hp : D0 (sz l) n = p) :
  Calls Tryz.prog 40 #[.slice a n cap] w fun e w' => e = .returned (.bool p) ∧ Below w.heap.size w w' := by
 by_cases h0 : l = []
 ·subst h0
  obtain rfl : n = 0 := by simpa using hn.symm
  have : p = false := by rw [← hp]; exact Dt fun h => absurd h.pos (by omega)
  subst this
  exact X8 a cap w
 ·obtain ⟨b, o, rfl, hb⟩ := hr.block h0
  exact Kj b o n cap l w (zz hn) hl (zz hb) (by rw [← hn]; exact List.length_pos_iff.2 h0) p (zz hp)
open Classical in
noncomputable def Ip (S : Nat → Int) (n i : Nat) : Int := if Ek S n i then i + 1 + S i else -1
def b5a (S : Nat → Int) (n i st : Nat) (j : Value) : Prop := ∃ x : Int, j = .int .i64 x ∧ ((∃ k : Nat, x = k ∧ k ≤ st ∧ a0v S n i k) ∨ (¬ Ek S n i ∧ (x = -1 ∨ ((st : Int) < x ∧ x ≤ 1000001))))
theorem a1c (b o n cap : Nat) (l : List Nd) (w : World) (hn : Hid (l.length = n)) (hl : n ≤ 1000000) (hr : Hid (Li w b o l)) (d : Nat) : ∀ (i : Nat), i < n → n - i ≤ d → ∀ E, Ip (sz l) n i = E →
  Calls Tryz.prog 51 #[.slice (some ⟨b, o, none⟩) n cap, .int .i64 (i : Nat)] w fun e w' => e = .returned (.int .i64 E) ∧ w = w' := by
 induction d with
 | zero => intro i h1 h2; omega
 | succ d ih =>
  intro i hi hd E hE
  obtain ⟨hat, hwf⟩ := hr.out i (by rw [hn.out]; exact hi)
  have c3 := hat.c3
  have hs := hwf.size
  unfold Ax at hs
  obtain ⟨z, hz⟩ : ∃ z, (nd l i).size = z := ⟨_, rfl⟩
  have hz0 : sz l i = z := hz
  rw [hz] at c3 hs
  clear hz hat hwf
  obtain ⟨hs1, hs2⟩ := hs
  by_cases hb0 : z < 0
  ·have hE' : E = -1 := by
    rw [← hE, Ip, if_neg]
    intro h
    have := h.1
    omega
   subst hE'
   clear hE hz0 ih
   go_enter Tryz.func51, Tryz.ntmps51
   go_wp2_with fail
   go_ret
   exact ⟨rfl, rfl⟩
  ·by_cases hb1 : (n : Int) - 1 - i < z
   ·have hE' : E = -1 := by
     rw [← hE, Ip, if_neg]
     intro h
     have := h.2.1
     omega
    subst hE'
    clear hE hz0 ih
    go_enter Tryz.func51, Tryz.ntmps51
    go_wp2_with fail
    go_ret
    exact ⟨rfl, rfl⟩
   ·obtain ⟨m, rfl⟩ : ∃ m : Nat, z = m := ⟨z.toNat, by omega⟩
    obtain ⟨st, hst⟩ : ∃ st, i + 1 + m = st := ⟨_, rfl⟩
    have hst' : i + 1 + (sz l i).toNat = st := by rw [hz0]; exact hst
    have hst1 : i + 1 ≤ st := by omega
    have hst2 : st ≤ n := by omega
    have hw1 : 0 ≤ sz l i := by omega
    have hw2 : i + sz l i ≤ (n : Int) - 1 := by omega
    have hstw : (i : Int) + 1 + m = st := by omega
    replace hst := zz hst
    replace hst' := zz hst'
    replace hz0 := zz hz0
    replace hE := zz hE
    have HW := zz (And.intro hw1 hw2)
    clear hw1 hw2
    replace hb1 : ¬ (n : Int) - 1 - i < m := hb1
    go_enter Tryz.func51, Tryz.ntmps51
    go_wp2_with fail
    go_loop [6] (fun j => b5a (sz l) n i st j) (fun j => if intOf j < 0 then 0 else st - (intOf j).toNat)
    case atStart => exact ⟨((i + 1 : Nat) : Int), by go_num, .inl ⟨i + 1, rfl, hst1, a0v.start _ _ _⟩⟩
    case round =>
     obtain ⟨x, rfl, hx⟩ := hrel
     rcases hx with ⟨k, rfl, hk, hg⟩ | ⟨hnw, hx⟩
     ·by_cases hlt : k < st
      ·have hik : i + 1 ≤ k := by obtain ⟨_, _, h, _⟩ := hg; exact h
       have hkn : k < n := by omega
       have HI := zz (ih k hkn (by omega))
       obtain ⟨F, hF⟩ : ∃ F, Ip (sz l) n k = F := ⟨_, rfl⟩
       have HREL : Hid (b5a (sz l) n i st (.int .i64 F)) := zz (by
        by_cases hwk : Ek (sz l) n k
        ·rw [Ip, if_pos hwk] at hF
         have a1 := hwk.1
         have a2 := hwk.2.1
         by_cases hex : ((i + 1 + (sz l i).toNat : Nat) : Int) - 1 - k < sz l k
         ·refine ⟨F, rfl, .inr ⟨fun hw => (hg.kid hw (by rw [hst'.out]; exact hlt)).2 hex, .inr ?_⟩⟩
          rw [hst'.out] at hex
          omega
         ·refine ⟨F, rfl, .inl ⟨k + 1 + (sz l k).toNat, by omega, ?_, hg.step (by rw [hst'.out]; exact hlt) hwk hex⟩⟩
          rw [hst'.out] at hex
          omega
        ·rw [Ip, if_neg hwk] at hF
         exact ⟨F, rfl, .inr ⟨fun hw => hwk (hg.kid hw (by rw [hst'.out]; exact hlt)).1, .inl hF.symm⟩⟩)
       have hFm : F < 0 ∨ (k : Int) < F := by
        by_cases hwk : Ek (sz l) n k
        ·rw [Ip, if_pos hwk] at hF
         have a1 := hwk.1
         omega
        ·rw [Ip, if_neg hwk] at hF
         omega
       replace hF := zz hF
       clear hg ih
       have hlt' : (k : Int) < i + 1 + m := by omega
       go_wp2_with (go_at_call 51; refine (HI.out F hF.out).mono ?_; rintro e w' ⟨rfl, rfl⟩)
       go_round
       case rel => exact HREL.out
       case measure =>
        have hk0 : ¬ (k : Int) < 0 := by omega
        by_cases hF0 : F < 0 <;> simp [intOf, hF0, hk0] <;> omega
      ·have hks : k = st := by omega
       have hE' : E = st := by
        have := HW.out
        rw [← hE.out, Ip, if_pos (hg.done this.1 this.2 (by rw [hst'.out]; exact hks)), hz0.out]
        omega
       subst hks
       clear hg ih
       have hlt' : ¬ (k : Int) < i + 1 + m := by omega
       have hne : ((k : Int) != i + 1 + m) = false := by rw [hstw]; simp
       subst hE'
       replace hstw := zz hstw
       go_wp2_with fail
       go_ret
       exact ⟨rfl, rfl⟩
     ·have hE' : E = -1 := by rw [← hE.out, Ip, if_neg hnw]
      subst hE'
      clear hnw ih
      replace hstw := hstw
      rcases hx with rfl | ⟨hx1, hx2⟩
      ·have hne : ((-1 : Int) != i + 1 + m) = true := by rw [bne_iff_ne]; omega
       replace hstw := zz hstw
       go_wp2_with fail
       go_ret
       exact ⟨rfl, rfl⟩
      ·have hne : (x != i + 1 + m) = true := by rw [bne_iff_ne]; omega
       have hx0 : 0 ≤ x := by omega
       have hlt' : ¬ x < i + 1 + m := by omega
       replace hstw := zz hstw
       go_wp2_with fail
       go_ret
       exact ⟨rfl, rfl⟩
theorem Uo (a : Option Addr) (cap : Nat) (w : World) : Calls Tryz.prog 25 #[.slice a 0 cap] w fun e w' => e = .returned (.bool false) ∧ w = w' := by
 go_enter Tryz.func25, Tryz.ntmps25
 go_wp2_with fail
 go_ret
 exact ⟨rfl, rfl⟩
theorem Rv {S : Nat → Int} {n : Nat} (hpos : 0 < n) : ((Ip S n 0) == (n : Int)) = D0 S n := by
 by_cases h : Right S n
 ·rw [Cu h]
  obtain ⟨_, h1, h2⟩ := Kc.1 h
  rw [Ip, if_pos h1, beq_iff_eq]
  omega
 ·rw [Dt h, beq_eq_false_iff_ne]
  intro e
  apply h
  rw [Ip] at e
  split at e
  ·rename_i hw
   exact Kc.2 ⟨hpos, hw, by omega⟩
  ·omega
theorem Ix (b o n cap : Nat) (l : List Nd) (w : World) (hn : Hid (l.length = n)) (hl : n ≤ 1000000) (hr : Hid (Li w b o l)) (hpos : 0 < n) (p : Bool) (hp : D0 (sz l) n = p) :
  Calls Tryz.prog 25 #[.slice (some ⟨b, o, none⟩) n cap] w fun e w' => e = .returned (.bool p) ∧ w = w' := by
 have HE := zz (a1c b o n cap l w hn hl hr n 0 hpos (by omega))
 obtain ⟨E, hE⟩ : ∃ E, Ip (sz l) n 0 = E := ⟨_, rfl⟩
 have e1 := Rv (S := sz l) hpos
 rw [hE, hp] at e1
 have g : (0 : Int) < n := by omega
 replace hE := zz hE
 clear hp
 go_enter Tryz.func25, Tryz.ntmps25
 go_wp2_with (go_at_call 51; refine (HE.out E hE.out).mono ?_; rintro e w' ⟨rfl, rfl⟩)
 go_ret
 exact ⟨rfl, rfl⟩
theorem Up (a : Option Addr) (n cap : Nat) (l : List Nd) (w : World) (hn : l.length = n) (hl : n ≤ 1000000) (hr : Row w a l) (p : Bool) (hp : D0 (sz l) n = p) :
  Calls Tryz.prog 25 #[.slice a n cap] w fun e w' => e = .returned (.bool p) ∧ w = w' := by
 by_cases h0 : l = []
 ·subst h0
  obtain rfl : n = 0 := by simpa using hn.symm
  have : p = false := by rw [← hp]; exact Dt fun h => absurd h.pos (by omega)
  subst this
  exact Uo a cap w
 ·obtain ⟨b, o, rfl, hb⟩ := hr.block h0
  exact Ix b o n cap l w (zz hn) hl (zz hb) (by rw [← hn]; exact List.length_pos_iff.2 h0) p hp
end Go.Proofs.YtoaplbljflhheaaGreat
namespace Go.Proofs.YtoaplbljflhheaaGreat
open Go.RowKit Go.Sort
theorem Ak (l m : List UInt8) : bs l ++ bs m = bs (l ++ m) := by
 apply ByteArray.ext
 simp [bs]
def b6u (w : World) (n : Nat) (s i : Value) (wr : World) : Prop := ∃ k : Nat, k ≤ n ∧ s = .string (bs (nl k)) ∧ i = .int .i64 k ∧ wr = w
theorem On (n : Nat) (w : World) (hn : n ≤ 1000000) : Calls Tryz.prog 56 #[.int .i64 n] w fun e w' => e = .returned (.string (bs (nl n))) ∧ Below w.heap.size w w' := by
 go_enter Tryz.func56, Tryz.ntmps56
 go_wp2_with fail
 go_loopw [3, 4] (fun s i wr => b6u w n s i wr) (fun _ i _ => n - (intOf i).toNat)
 case atStart => exact ⟨0, Nat.zero_le _, rfl, rfl, rfl⟩
 case round =>
  obtain ⟨k, hk, rfl, rfl, rfl⟩ := hrel
  by_cases hlt : k < n
  ·have hlt' : (k : Int) < n := by omega
   have e1 : IntKind.i64.wrap ((k : Int) + 1) = ((k + 1 : Nat) : Int) := by rw [IntKind.wrap_i64]; omega
   have e2 : bs (nl k) ++ { data := #[9] } = bs (nl (k + 1)) := by
    have : nl (k + 1) = nl k ++ [9] := by simp [nl, List.replicate_succ']
    rw [this, ← Ak]; rfl
   have hs : ¬ 9223372036854775807 < (bs (nl k)).size + 1 := by rw [An, show (nl k).length = k + 1 by simp [nl]]; omega
   have hK := zz hlt
   clear hlt hk hn
   go_wp2_with fail
   go_roundw
   case rel => exact ⟨k + 1, hK.out, rfl, rfl, rfl⟩
   case measure => have := hK.out; simp [intOf]; omega
  ·obtain rfl : k = n := by omega
   have hlt' : ¬ (k : Int) < k := by omega
   go_wp2_with fail
   exact bodyPost_ret (v := .string (bs (nl k))) (by simp [results, Tryz.results56, go_sem]) rfl ⟨rfl, Below.refl _ _⟩
theorem Kh (n : Int) (w : World) (hn : n ∈ sgE.map (·.1)) : Calls Tryz.prog 36 #[.int .i64 n] w fun e w' => e = .returned (.tuple #[.string (bs (opS n).1), .int .i64 ((opS n).2 : Nat)]) ∧ Below w.heap.size w w' := by
 have mixed : Tryz.prog.follows Departure.mixedOrders = true := by kernel_rfl
 simp only [sgE, List.map_cons, List.map_nil, List.mem_cons, List.not_mem_nil, or_false] at hn
 rcases hn with rfl | rfl | rfl | rfl | rfl | rfl | rfl | rfl | rfl | rfl | rfl | rfl | rfl | rfl | rfl
 all_goals
  go_enter Tryz.func36, Tryz.ntmps36
  go_wp2_with fail
  go_region
  all_goals (go_wp2_with fail)
  all_goals (refine bodyPost_ret (v := .tuple #[.string (bs (opS _).1), .int .i64 ((opS _).2 : Nat)]) (by simp [results, Tryz.results36, go_sem]; exact ⟨rfl, rfl⟩) rfl ⟨rfl, by go_grown⟩)
end Go.Proofs.YtoaplbljflhheaaGreat
