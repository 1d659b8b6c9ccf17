/-
  Contracts of tree.Right and of the document's end and Right. Conditions: rows of at most 1000000 nodes.
-/
import Derived.Test.YtogpfbmkbnooeaaChi
namespace Go.Proofs.Ytogpfbmkbnooeaa
open Go.RowKit
set_option linter.unusedVariables false

open Classical in
noncomputable def rightB (S : Nat → Int) (n : Nat) : Bool := decide (Right S n)
theorem rightB_true {S : Nat → Int} {n : Nat} (h : Right S n) : rightB S n = true := by unfold rightB; simp [h]
theorem rightB_false {S : Nat → Int} {n : Nat} (h : ¬ Right S n) : rightB S n = false := by unfold rightB; simp [h]
theorem rightB_iff {S : Nat → Int} {n : Nat} : rightB S n = true ↔ Right S n := by unfold rightB; simp

theorem ret_b {p q : Bool} {w w' : World} (h : p = q) (hb : Below w.heap.size w w') : Ending.returned (.bool p) = .returned (.bool q) ∧ Below w.heap.size w w' := ⟨by rw [h], hb⟩

theorem right_nil (a : Option Addr) (cap : Nat) (w : World) : Calls Try.prog 10 #[.slice a 0 cap] w fun e w' => e = .returned (.bool false) ∧ Below w.heap.size w w' := by
  go_enter Try.func10, Try.ntmps10
  go_wp2_with fail
  go_ret
  exact ⟨rfl, Below.refl _ _⟩

set_option maxHeartbeats 1000000 in
theorem right_row (b o n cap : Nat) (l : List Nd) (w : World) (hn : Hid (l.length = n)) (hl : n ≤ 1000000) (hr : Hid (RowB w b o l)) (hpos : 0 < n) (p : Bool) (hp : Hid (rightB (sz l) n = p)) :
    Calls Try.prog 10 #[.slice (some ⟨b, o, none⟩) n cap] w fun e w' => e = .returned (.bool p) ∧ Below w.heap.size w w' := by
  obtain ⟨hat, hwf⟩ := hr.out 0 (by rw [hn.out]; exact hpos)
  have c3 := hat.c3
  have hs := hwf.size
  unfold i64In at hs
  rw [Nat.zero_mul, Nat.add_zero] at c3
  obtain ⟨z, hz⟩ : ∃ z, (nd l 0).size = z := ⟨_, rfl⟩
  have hz0 : sz l 0 = z := hz
  rw [hz] at c3 hs
  clear hz hat hwf
  obtain ⟨hs1, hs2⟩ := hs
  have e0 : ((n : Int) == 0) = false := by rw [beq_eq_false_iff_ne]; omega
  by_cases hzn : z = (n : Int) - 1
  · have e1 : (z != (n : Int) - 1) = false := by rw [hzn]; simp
    have hall : Hid (sz l 0 = (n : Int) - 1) := Lib.hid (by rw [hz0, hzn])
    clear hz0 hzn
    go_enter Try.func10, Try.ntmps10
    go_wp2_with fail
    go_loopw [21] (fun j wr => ∃ k : Nat, k ≤ n ∧ j = .int .i64 k ∧ (∀ j, j < k → Ok (sz l) n j) ∧ Below w.heap.size w wr) (fun j _ => n - (intOf j).toNat)
    case atStart => exact ⟨0, Nat.zero_le _, rfl, fun j hj => absurd hj (by omega), Below.refl _ _⟩
    case round =>
      obtain ⟨k, hk, rfl, hok, hbel⟩ := hrel
      have hsz := hbel.size
      by_cases hlt : k < n
      · obtain ⟨g1, g2⟩ := sure_high hall.out hlt hok
        have HC := Lib.hid (fun R hR => children_any b o n cap l wr hn hl (Lib.hid (hr.out.carry hbel)) k (k + 1 + (sz l k).toNat) hlt g1 (by omega) (Lib.hid (by omega)) R hR)
        cases hR : chain (sz l) (k + 1 + (sz l k).toNat) (k + 1) with
        | none =>
          have hp' : p = false := by
            rw [← hp.out]
            apply rightB_false
            intro h
            have := (h.ok k hlt).kids
            rw [hR] at this
            cases this
          replace hR := Lib.hid hR
          replace hok := Lib.hid hok
          replace hbel := Lib.hid hbel
          clear g1 g2
          subst hp'
          go_wp2_with fail
          refine (HC.out none hR).mono ?_
          rintro e w1 ⟨v, rfl, ho1, hb1⟩
          replace hb1 := Lib.hid hb1
          go_wp2_with fail
          go_ret
          exact ⟨rfl, below_step hbel.out hb1.out⟩
        | some x =>
          have HO := Lib.hid (show ∀ j, j < k + 1 → Ok (sz l) n j from fun j hj => by
            by_cases e : j = k
            · subst e; exact ⟨g1, g2, by rw [hR]; rfl⟩
            · exact hok j (by omega))
          replace hR := Lib.hid hR
          clear hok
          replace hbel := Lib.hid hbel
          clear g1 g2
          go_wp2_with fail
          refine (HC.out (some x) hR).mono ?_
          rintro e w1 ⟨v, rfl, ho1, hb1⟩
          replace hb1 := Lib.hid hb1
          replace ho1 := Lib.hid ho1
          go_wp2_with fail
          go_roundw
          case rel => exact ⟨k + 1, hlt, by go_num, HO.out, below_step hbel.out hb1.out⟩
          case measure => simp [intOf]; omega
      · have hp' : p = true := by
          rw [← hp.out]
          exact rightB_true ⟨hpos, hall.out, fun j hj => hok j (by omega)⟩
        subst hp'
        clear hok
        replace hbel := Lib.hid hbel
        go_wp2_with fail
        go_ret
        exact ⟨rfl, hbel.out⟩
  · have hp' : p = false := by
      rw [← hp.out]
      exact rightB_false fun h => hzn (by rw [← hz0]; exact h.all)
    subst hp'
    have e1 : (z != (n : Int) - 1) = true := by rw [bne_iff_ne]; exact hzn
    clear hz0
    go_enter Try.func10, Try.ntmps10
    go_wp2_with fail
    go_ret
    exact ⟨rfl, Below.refl _ _⟩

theorem right_any (a : Option Addr) (n cap : Nat) (l : List Nd) (w : World) (hn : l.length = n) (hl : n ≤ 1000000) (hr : Row w a l) (p : Bool) (hp : rightB (sz l) n = p) :
    Calls Try.prog 10 #[.slice a n cap] w fun e w' => e = .returned (.bool p) ∧ Below w.heap.size w w' := by
  by_cases h0 : l = []
  · subst h0
    obtain rfl : n = 0 := by simpa using hn.symm
    have : p = false := by rw [← hp]; exact rightB_false fun h => absurd h.pos (by omega)
    subst this
    exact right_nil a cap w
  · obtain ⟨b, o, rfl, hb⟩ := hr.block h0
    exact right_row b o n cap l w (Lib.hid hn) hl (Lib.hid hb) (by rw [← hn]; exact List.length_pos_iff.2 h0) p (Lib.hid hp)

/-! The document's. -/
open Classical in
noncomputable def endOf (S : Nat → Int) (n i : Nat) : Int := if Whole S n i then i + 1 + S i else -1

def ERel (S : Nat → Int) (n i st : Nat) (j : Value) : Prop := ∃ x : Int, j = .int .i64 x ∧ ((∃ k : Nat, x = k ∧ k ≤ st ∧ Gone S n i k) ∨ (¬ Whole S n i ∧ (x = -1 ∨ ((st : Int) < x ∧ x ≤ 1000001))))

set_option maxHeartbeats 2000000 in
theorem end_any (b o n cap : Nat) (l : List Nd) (w : World) (hn : Hid (l.length = n)) (hl : n ≤ 1000000) (hr : Hid (RowB w b o l)) (d : Nat) : ∀ (i : Nat), i < n → n - i ≤ d → ∀ E, endOf (sz l) n i = E →
    Calls Try.prog 28 #[.slice (some ⟨b, o, none⟩) n cap, .int .i64 (i : Nat)] w fun e w' => e = .returned (.int .i64 E) ∧ w = w' := by
  induction d with
  | zero => intro i h1 h2; omega
  | succ d ih =>
    intro i hi hd E hE
    obtain ⟨hat, hwf⟩ := hr.out i (by rw [hn.out]; exact hi)
    have c3 := hat.c3
    have hs := hwf.size
    unfold i64In at hs
    obtain ⟨z, hz⟩ : ∃ z, (nd l i).size = z := ⟨_, rfl⟩
    have hz0 : sz l i = z := hz
    rw [hz] at c3 hs
    clear hz hat hwf
    obtain ⟨hs1, hs2⟩ := hs
    by_cases hb0 : z < 0
    · have hE' : E = -1 := by
        rw [← hE, endOf, if_neg]
        intro h
        have := h.1
        omega
      subst hE'
      clear hE hz0 ih
      go_enter Try.func28, Try.ntmps28
      go_wp2_with fail
      go_ret
      exact ⟨rfl, rfl⟩
    · by_cases hb1 : (n : Int) - 1 - i < z
      · have hE' : E = -1 := by
          rw [← hE, endOf, if_neg]
          intro h
          have := h.2.1
          omega
        subst hE'
        clear hE hz0 ih
        go_enter Try.func28, Try.ntmps28
        go_wp2_with fail
        go_ret
        exact ⟨rfl, rfl⟩
      · obtain ⟨m, rfl⟩ : ∃ m : Nat, z = m := ⟨z.toNat, by omega⟩
        obtain ⟨st, hst⟩ : ∃ st, i + 1 + m = st := ⟨_, rfl⟩
        have hst' : i + 1 + (sz l i).toNat = st := by rw [hz0]; exact hst
        have hst1 : i + 1 ≤ st := by omega
        have hst2 : st ≤ n := by omega
        have hw1 : 0 ≤ sz l i := by omega
        have hw2 : i + sz l i ≤ (n : Int) - 1 := by omega
        have hstw : (i : Int) + 1 + m = st := by omega
        replace hst := Lib.hid hst
        replace hst' := Lib.hid hst'
        replace hz0 := Lib.hid hz0
        replace hE := Lib.hid hE
        have HW := Lib.hid (And.intro hw1 hw2)
        clear hw1 hw2
        replace hb1 : ¬ (n : Int) - 1 - i < m := hb1
        go_enter Try.func28, Try.ntmps28
        go_wp2_with fail
        go_loop [6] (fun j => ERel (sz l) n i st j) (fun j => if intOf j < 0 then 0 else st - (intOf j).toNat)
        case atStart => exact ⟨((i + 1 : Nat) : Int), by go_num, .inl ⟨i + 1, rfl, hst1, Gone.start _ _ _⟩⟩
        case round =>
          obtain ⟨x, rfl, hx⟩ := hrel
          rcases hx with ⟨k, rfl, hk, hg⟩ | ⟨hnw, hx⟩
          · by_cases hlt : k < st
            · have hik : i + 1 ≤ k := by obtain ⟨_, _, h, _⟩ := hg; exact h
              have hkn : k < n := by omega
              have HI := Lib.hid (ih k hkn (by omega))
              obtain ⟨F, hF⟩ : ∃ F, endOf (sz l) n k = F := ⟨_, rfl⟩
              have HREL : Hid (ERel (sz l) n i st (.int .i64 F)) := Lib.hid (by
                by_cases hwk : Whole (sz l) n k
                · rw [endOf, if_pos hwk] at hF
                  have a1 := hwk.1
                  have a2 := hwk.2.1
                  by_cases hex : ((i + 1 + (sz l i).toNat : Nat) : Int) - 1 - k < sz l k
                  · refine ⟨F, rfl, .inr ⟨fun hw => (hg.kid hw (by rw [hst'.out]; exact hlt)).2 hex, .inr ?_⟩⟩
                    rw [hst'.out] at hex
                    omega
                  · refine ⟨F, rfl, .inl ⟨k + 1 + (sz l k).toNat, by omega, ?_, hg.step (by rw [hst'.out]; exact hlt) hwk hex⟩⟩
                    rw [hst'.out] at hex
                    omega
                · rw [endOf, if_neg hwk] at hF
                  exact ⟨F, rfl, .inr ⟨fun hw => hwk (hg.kid hw (by rw [hst'.out]; exact hlt)).1, .inl hF.symm⟩⟩)
              have hFm : F < 0 ∨ (k : Int) < F := by
                by_cases hwk : Whole (sz l) n k
                · rw [endOf, if_pos hwk] at hF
                  have a1 := hwk.1
                  omega
                · rw [endOf, if_neg hwk] at hF
                  omega
              replace hF := Lib.hid hF
              clear hg ih
              have hlt' : (k : Int) < i + 1 + m := by omega
              go_wp2_with (go_at_call 28; refine (HI.out F hF.out).mono ?_; rintro e w' ⟨rfl, rfl⟩)
              go_round
              case rel => exact HREL.out
              case measure =>
                have hk0 : ¬ (k : Int) < 0 := by omega
                by_cases hF0 : F < 0 <;> simp [intOf, hF0, hk0] <;> omega
            · have hks : k = st := by omega
              have hE' : E = st := by
                have := HW.out
                rw [← hE.out, endOf, if_pos (hg.done this.1 this.2 (by rw [hst'.out]; exact hks)), hz0.out]
                omega
              subst hks
              clear hg ih
              have hlt' : ¬ (k : Int) < i + 1 + m := by omega
              have hne : ((k : Int) != i + 1 + m) = false := by rw [hstw]; simp
              subst hE'
              replace hstw := Lib.hid hstw
              go_wp2_with fail
              go_ret
              exact ⟨rfl, rfl⟩
          · have hE' : E = -1 := by rw [← hE.out, endOf, if_neg hnw]
            subst hE'
            clear hnw ih
            replace hstw := hstw
            rcases hx with rfl | ⟨hx1, hx2⟩
            · have hne : ((-1 : Int) != i + 1 + m) = true := by rw [bne_iff_ne]; omega
              replace hstw := Lib.hid hstw
              go_wp2_with fail
              go_ret
              exact ⟨rfl, rfl⟩
            · have hne : (x != i + 1 + m) = true := by rw [bne_iff_ne]; omega
              have hx0 : 0 ≤ x := by omega
              have hlt' : ¬ x < i + 1 + m := by omega
              replace hstw := Lib.hid hstw
              go_wp2_with fail
              go_ret
              exact ⟨rfl, rfl⟩

theorem rright_nil (a : Option Addr) (cap : Nat) (w : World) : Calls Try.prog 11 #[.slice a 0 cap] w fun e w' => e = .returned (.bool false) ∧ w = w' := by
  go_enter Try.func11, Try.ntmps11
  go_wp2_with fail
  go_ret
  exact ⟨rfl, rfl⟩

theorem endOf_right {S : Nat → Int} {n : Nat} (hpos : 0 < n) : ((endOf S n 0) == (n : Int)) = rightB S n := by
  by_cases h : Right S n
  · rw [rightB_true h]
    obtain ⟨_, h1, h2⟩ := whole_right.1 h
    rw [endOf, if_pos h1, beq_iff_eq]
    omega
  · rw [rightB_false h, beq_eq_false_iff_ne]
    intro e
    apply h
    rw [endOf] at e
    split at e
    · rename_i hw
      exact whole_right.2 ⟨hpos, hw, by omega⟩
    · omega

theorem rright_row (b o n cap : Nat) (l : List Nd) (w : World) (hn : Hid (l.length = n)) (hl : n ≤ 1000000) (hr : Hid (RowB w b o l)) (hpos : 0 < n) (p : Bool) (hp : rightB (sz l) n = p) :
    Calls Try.prog 11 #[.slice (some ⟨b, o, none⟩) n cap] w fun e w' => e = .returned (.bool p) ∧ w = w' := by
  have HE := Lib.hid (end_any b o n cap l w hn hl hr n 0 hpos (by omega))
  obtain ⟨E, hE⟩ : ∃ E, endOf (sz l) n 0 = E := ⟨_, rfl⟩
  have e1 := endOf_right (S := sz l) hpos
  rw [hE, hp] at e1
  have g : (0 : Int) < n := by omega
  replace hE := Lib.hid hE
  clear hp
  go_enter Try.func11, Try.ntmps11
  go_wp2_with (go_at_call 28; refine (HE.out E hE.out).mono ?_; rintro e w' ⟨rfl, rfl⟩)
  go_ret
  exact ⟨rfl, rfl⟩

theorem rright_any (a : Option Addr) (n cap : Nat) (l : List Nd) (w : World) (hn : l.length = n) (hl : n ≤ 1000000) (hr : Row w a l) (p : Bool) (hp : rightB (sz l) n = p) :
    Calls Try.prog 11 #[.slice a n cap] w fun e w' => e = .returned (.bool p) ∧ w = w' := by
  by_cases h0 : l = []
  · subst h0
    obtain rfl : n = 0 := by simpa using hn.symm
    have : p = false := by rw [← hp]; exact rightB_false fun h => absurd h.pos (by omega)
    subst this
    exact rright_nil a cap w
  · obtain ⟨b, o, rfl, hb⟩ := hr.block h0
    exact rright_row b o n cap l w (Lib.hid hn) hl (Lib.hid hb) (by rw [← hn]; exact List.length_pos_iff.2 h0) p hp

end Go.Proofs.Ytogpfbmkbnooeaa
