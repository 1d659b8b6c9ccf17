/-
  Contracts of tree.children and tree.isPlace. Conditions: rows of at most 1000000 nodes; a node that does not go beyond its row.
-/
import Derived.Test.YtogpfbmkbnooeaaInts
namespace Go.Proofs.Ytogpfbmkbnooeaa
open Go.RowKit
set_option linter.unusedVariables false

/-- What children answers. -/
def RetK (w : World) (R : Option (List Nat)) (e : Ending) (w' : World) : Prop := ∃ v, e = .returned (.tuple #[v, .bool R.isSome]) ∧ OwnI w' w.heap.size v (R.getD []) ∧ Below w.heap.size w w'

def KRel (l : List Nd) (w : World) (R : Option (List Nat)) (i st : Nat) (v j : Value) (wr : World) : Prop :=
  ∃ (k : Nat) (x : List Nat), i + 1 ≤ k ∧ k ≤ st ∧ j = .int .i64 k ∧ x.length ≤ k ∧ (chain (sz l) st k).map (x ++ ·) = R ∧ OwnI wr w.heap.size v x ∧ Below w.heap.size w wr

theorem RetK.bad {w w' : World} {R : Option (List Nat)} (h : R = none) (hb : Below w.heap.size w w') : RetK w R (.returned (.tuple #[.slice none 0 0, .bool false])) w' := by
  subst h
  exact ⟨_, rfl, ownI_nil _ _, hb⟩

theorem RetK.good {w w' : World} {R : Option (List Nat)} {x : List Nat} {v : Value} (h : R = some x) (ho : OwnI w' w.heap.size v x) (hb : Below w.heap.size w w') : RetK w R (.returned (.tuple #[v, .bool true])) w' := by
  subst h
  exact ⟨_, rfl, ho, hb⟩

set_option maxHeartbeats 1000000 in
theorem children_any (b o n cap : Nat) (l : List Nd) (w : World) (hn : Hid (l.length = n)) (hl : n ≤ 1000000) (hr : Hid (RowB w b o l)) (i st : Nat) (hi : i < n) (h1 : 0 ≤ sz l i) (h2 : st ≤ n) (hst : Hid ((i : Int) + 1 + sz l i = st)) (R : Option (List Nat)) (hR : Hid (chain (sz l) st (i + 1) = R)) :
    Calls Try.prog 27 #[.slice (some ⟨b, o, none⟩) n cap, .int .i64 (i : Nat)] w (RetK w R) := by
  have c3 := (hr.out i (by rw [hn.out]; exact hi)).1.c3
  obtain ⟨z, hz⟩ : ∃ z, (nd l i).size = z := ⟨_, rfl⟩
  have hz1 : 0 ≤ z := by rw [← hz]; exact h1
  have hz2 : (i : Int) + 1 + z = st := by rw [← hst.out, ← hz]; rfl
  rw [hz] at c3
  have hlast : (i : Int) + z = st - 1 := by omega
  have hz3 : z ≤ 1000000 := by omega
  have hist : i + 1 ≤ st := by omega
  clear hz
  replace hz2 := Lib.hid hz2
  replace hlast := Lib.hid hlast
  clear h1
  go_enter Try.func27, Try.ntmps27
  go_wp2_with fail
  go_loopw [6, 8] (fun v j wr => KRel l w R i st v j wr) (fun _ j _ => st - (intOf j).toNat)
  case atStart =>
    refine ⟨i + 1, [], Nat.le_refl _, hist, by go_num, by simp, by rw [hR.out]; simp, ownI_nil _ _, Below.refl _ _⟩
  case round =>
    obtain ⟨k, x, hk1, hk2, rfl, hx, hRR, hown, hbel⟩ := hrel
    have hsz := hbel.size
    have hlast' := hlast.out
    by_cases hlt : k < st
    · have hkn : k < l.length := by rw [hn.out]; omega
      obtain ⟨hat, hwf⟩ := (hr.out.carry hbel) k hkn
      have d3 := hat.c3
      have hs := hwf.size
      unfold i64In at hs
      obtain ⟨s, hs0⟩ : ∃ s, (nd l k).size = s := ⟨_, rfl⟩
      have hss : sz l k = s := hs0
      rw [hs0] at d3 hs
      clear hs0 hat hwf c3
      obtain ⟨hs1, hs2⟩ := hs
      have g0 : (k : Int) ≤ i + z := by omega
      by_cases hb0 : s < 0
      · have HR := Lib.hid (show R = none by rw [← hRR, chain_bad hlt (by rw [hss]; exact .inl hb0)]; rfl)
        clear hRR hss hown hlast'
        replace hbel := Lib.hid hbel
        go_wp2_with fail
        go_ret2
        exact RetK.bad HR.out hbel.out
      · by_cases hb1 : (st : Int) - 1 - k < s
        · have HR := Lib.hid (show R = none by rw [← hRR, chain_bad hlt (by rw [hss]; exact .inr hb1)]; rfl)
          have g1 : (i : Int) + z - k < s := by omega
          clear hRR hss hown hlast'
          replace hbel := Lib.hid hbel
          go_wp2_with fail
          go_ret2
          exact RetK.bad HR.out hbel.out
        · have g1 : ¬ (i : Int) + z - k < s := by omega
          have hsn : s = (s.toNat : Nat) := by omega
          obtain ⟨m, hm⟩ : ∃ m, s.toNat = m := ⟨_, rfl⟩
          rw [hm] at hsn
          have HR := Lib.hid (show (chain (sz l) st (k + 1 + m)).map ((x ++ [k]) ++ ·) = R by
            rw [← hRR, chain_step hlt (by rw [hss]; omega), hss, hm]
            cases chain (sz l) st (k + 1 + m) <;> simp)
          have HC := Lib.hid (show ∀ w2, Below w.heap.size w w2 → w2.cell? ⟨b, o + k * 6 + 3, none⟩ = some (.int .i64 (m : Nat)) from fun w2 h => by
            rw [((hr.out.carry h) k hkn).1.c3, show (nd l k).size = s from hss, hsn])
          have hkn' : k < n := by omega
          have hm2 : k + 1 + m ≤ st := by omega
          clear hRR hss hlast' hm hkn
          subst hsn
          replace hbel := Lib.hid hbel
          replace hown := Lib.hid hown
          go_wp2_with (at_builtin; refine wpList_appI rfl _ _ rfl w.heap.size u6 x k wr.heap.size rfl rfl rfl rfl hown.out hsz (by omega) ?_; intro v2 w2 ho2 hb2; have d4 := HC.out w2 (hbel.out.trans hb2); replace ho2 := Lib.hid ho2; replace hb2 := Lib.hid (hbel.out.trans hb2))
          go_roundw
          case rel => exact ⟨k + 1 + m, x ++ [k], by omega, hm2, by go_num, by simp; omega, HR.out, ho2.out, hb2.out⟩
          case measure => simp [intOf]; omega
    · have HR := Lib.hid (show R = some x by rw [← hRR, chain_end hlt]; simp)
      have g0 : ¬ (k : Int) ≤ i + z := by omega
      clear hRR hlast'
      replace hbel := Lib.hid hbel
      replace hown := Lib.hid hown
      go_wp2_with fail
      go_ret2
      exact RetK.good HR.out hown.out hbel.out

theorem isPlace_any (a : Option Addr) (n cap : Nat) (i : Int) (w : World) (hn : n ≤ 1000000) (hi : i64In i) (p : Bool) (hp : decide (0 ≤ i ∧ i < n) = p) :
    Calls Try.prog 35 #[.slice a n cap, .int .i64 i] w fun e w' => e = .returned (.bool p) ∧ w = w' := by
  subst hp
  by_cases h0 : 0 ≤ i
  · by_cases h1 : i < n
    · rw [show decide (0 ≤ i ∧ i < n) = true by simp [h0, h1]]
      go_enter Try.func35, Try.ntmps35
      go_wp2
      go_ret
      exact ⟨rfl, rfl⟩
    · rw [show decide (0 ≤ i ∧ i < n) = false by simp [h1]]
      go_enter Try.func35, Try.ntmps35
      go_wp2
      go_ret
      exact ⟨rfl, rfl⟩
  · rw [show decide (0 ≤ i ∧ i < n) = false by simp [h0]]
    go_enter Try.func35, Try.ntmps35
    go_wp2
    go_ret
    exact ⟨rfl, rfl⟩

end Go.Proofs.Ytogpfbmkbnooeaa
