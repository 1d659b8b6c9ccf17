/-
  Tests of rows of kinds that are handed on: contracts of tree.just, tree.leading and tree.either. Conditions: as said.
-/
import Derived.Test.YtogpfbmkbnooeaaKt
import Derived.Deep.RegionHeld3
namespace Go.Proofs.Ytogpfbmkbnooeaa
open Go.RowKit
set_option linter.unusedVariables false

/-- A row of tests that lies in memory: each tells as it should. -/
def TRow (w : World) (a : Option Addr) (ps : List (Nat → Bool)) : Prop := ∀ i, i < ps.length → ∃ g o v, a = some ⟨g, o, none⟩ ∧ w.cell? ⟨g, o + i, none⟩ = some v ∧ KT w v (ps.getD i fun _ => false)

theorem TRow.carry {w w' : World} {a : Option Addr} {ps : List (Nat → Bool)} (h : TRow w a ps) (hb : Below w.heap.size w w') : TRow w' a ps := fun i hi => by
  obtain ⟨g, o, v, h1, h2, h3⟩ := h i hi
  exact ⟨g, o, v, h1, cell_carry hb h2, h3.carry hb⟩

def justB (ps : List (Nat → Bool)) (ks : List Nat) : Bool := decide (ks.length = ps.length) && (List.range ps.length).all fun i => (ps.getD i fun _ => false) (ks.getD i 0)

set_option maxHeartbeats 1000000 in
theorem just1_any (b : Nat) (a : Option Addr) (m cap : Nat) (ps : List (Nat → Bool)) (w : World) (hm : Hid (ps.length = m)) (hml : m ≤ 1000000) (ht : Hid (TRow w a ps)) (hb : w.cell? ⟨b, 0, none⟩ = some (.slice a m cap))
    (a' : Option Addr) (n cap' : Nat) (ks : List Nat) (hn : Hid (ks.length = n)) (hl : n ≤ 1000000) (hr : Hid (KRow w a' ks)) (q : Bool) (hq : Hid (justB ps ks = q)) :
    Calls Try.prog 60 #[.slice a' n cap', .pointer (some ⟨b, 0, none⟩)] w fun e w' => e = .returned (.bool q) ∧ w = w' := by
  by_cases hnm : n = m
  · subst hnm
    have e0 : ((n : Int) != (n : Int)) = false := by simp
    go_enter Try.func60, Try.ntmps60
    go_wp2_with fail
    go_loop [13] (fun j => ∃ k : Nat, k ≤ n ∧ j = .int .i64 k ∧ ∀ k', k' < k → (ps.getD k' fun _ => false) (ks.getD k' 0) = true) (fun j => n - (intOf j).toNat)
    case atStart => exact ⟨0, Nat.zero_le _, rfl, fun k' h => absurd h (by omega)⟩
    case round =>
      obtain ⟨k, hk, rfl, hall⟩ := hrel
      replace hall := Lib.hid hall
      by_cases hlt : k < n
      · obtain ⟨g, o, rfl, hcell, hk2⟩ := hr.out k (by rw [hn.out]; exact hlt)
        obtain ⟨g', o', v, rfl, hcell', hkt⟩ := ht.out k (by rw [hm.out]; exact hlt)
        obtain ⟨d, hd⟩ : ∃ d, ks.getD k 0 = d := ⟨_, rfl⟩
        obtain ⟨p, hp0⟩ : ∃ p, (ps.getD k fun _ => false) = p := ⟨_, rfl⟩
        rw [hd] at hcell hk2
        rw [hp0] at hkt
        obtain ⟨f, caps, rfl, eg, hc⟩ := hkt
        have HC := Lib.hid (hc w (Below.refl _ _) d hk2)
        clear hc
        cases hp : p d with
        | true =>
          have HN := Lib.hid (show ∀ k', k' < k + 1 → (ps.getD k' fun _ => false) (ks.getD k' 0) = true from fun k' h => by
            by_cases e : k' = k
            · subst e; rw [hp0, hd]; exact hp
            · exact hall.out k' (by omega))
          replace hp := Lib.hid hp
          clear hd hp0
          go_wp2_with fail
          refine (HC.out true hp.out).mono ?_
          rintro e w' ⟨rfl, rfl⟩
          go_wp2_with fail
          go_round
          case rel => exact ⟨k + 1, hlt, by go_num, HN.out⟩
          case measure => simp [intOf]; omega
        | false =>
          have hq' : q = false := by
            rw [← hq.out, justB, Bool.and_eq_false_iff]
            right
            rw [List.all_eq_false]
            exact ⟨k, by rw [List.mem_range, hm.out]; exact hlt, by rw [hp0, hd, hp]; simp⟩
          subst hq'
          replace hp := Lib.hid hp
          clear hd hp0
          go_wp2_with fail
          refine (HC.out false hp.out).mono ?_
          rintro e w' ⟨rfl, rfl⟩
          go_wp2_with fail
          go_ret
          exact ⟨rfl, rfl⟩
      · have hq' : q = true := by
          rw [← hq.out, justB, hn.out, hm.out]
          simp only [decide_true, Bool.true_and, List.all_eq_true, List.mem_range]
          intro i hi
          exact hall.out i (by omega)
        subst hq'
        go_wp2_with fail
        go_ret
        exact ⟨rfl, rfl⟩
  · have hq' : q = false := by
      rw [← hq.out, justB, hn.out, hm.out]
      simp [hnm]
    subst hq'
    have e0 : ((n : Int) != (m : Int)) = true := by rw [bne_iff_ne]; omega
    go_enter Try.func60, Try.ntmps60
    go_wp2_with fail
    go_ret
    exact ⟨rfl, rfl⟩

theorem just_any (a : Option Addr) (m cap : Nat) (ps : List (Nat → Bool)) (w : World) (hm : ps.length = m) (hml : m ≤ 1000000) (ht : TRow w a ps) :
    Calls Try.prog 46 #[.slice a m cap] w fun e w' => ∃ v', e = .returned v' ∧ RT w' v' (justB ps) ∧ Below w.heap.size w w' := by
  have HK : Hid (RT (w.alloc (.cells #[.slice a m cap] 62)) (.func (.func 60) #[] #[.pointer (some ⟨w.heap.size, 0, none⟩)]) (justB ps)) := Lib.hid
    ⟨60, _, rfl, by intro args w; simp [go_sem], fun w' hb g o n cap' ks h1 h2 h3 h4 q hq => same_below (just1_any w.heap.size a m cap ps w' (Lib.hid hm) hml (Lib.hid ((ht.carry (below_alloc _ _)).carry hb)) (cell_carry hb (by simp [go_sem])) _ n cap' ks (Lib.hid h1) (by omega) (Lib.hid h4) q (Lib.hid hq))⟩
  clear hm ht
  go_enter Try.func46, Try.ntmps46
  go_wp2_with fail
  go_ret
  exact ⟨_, rfl, HK.out, below_alloc _ _⟩

set_option maxHeartbeats 1000000 in
theorem either1_any (b b' : Nat) (v v' : Value) (p p' : List Nat → Bool) (w : World) (hk : Hid (RT w v p)) (hk' : Hid (RT w v' p')) (hb : w.cell? ⟨b, 0, none⟩ = some v) (hb' : w.cell? ⟨b', 0, none⟩ = some v')
    (g o n cap : Nat) (ks : List Nat) (hn : Hid (ks.length = n)) (hc1 : n ≤ cap) (hc2 : cap ≤ 1000000) (hr : Hid (KRow w (some ⟨g, o, none⟩) ks)) (q : Bool) (hq : Hid ((p ks || p' ks) = q)) :
    Calls Try.prog 62 #[.slice (some ⟨g, o, none⟩) n cap, .pointer (some ⟨b, 0, none⟩), .pointer (some ⟨b', 0, none⟩)] w fun e w' => e = .returned (.bool q) ∧ Below w.heap.size w w' := by
  obtain ⟨f, caps, rfl, eg, hc⟩ := hk.out
  obtain ⟨f', caps', rfl, eg', hc'⟩ := hk'.out
  clear hk hk'
  have HC := Lib.hid (hc w (Below.refl _ _) g o n cap ks hn.out hc1 hc2 hr.out)
  have HC' := Lib.hid (fun w' (h : Below w.heap.size w w') => hc' w' h g o n cap ks hn.out hc1 hc2 (hr.out.carry h))
  clear hc hc'
  cases hp : p ks with
  | true =>
    have hq' : q = true := by rw [← hq.out, hp]; rfl
    subst hq'
    replace hp := Lib.hid hp
    go_enter Try.func62, Try.ntmps62
    go_wp2_with fail
    refine (HC.out true hp.out).mono ?_
    rintro e w1 ⟨rfl, hb1⟩
    replace hb1 := Lib.hid hb1
    go_wp2_with fail
    go_ret
    exact ⟨rfl, hb1.out⟩
  | false =>
    have hq' : p' ks = q := by rw [← hq.out, hp]; rfl
    replace hq' := Lib.hid hq'
    replace hp := Lib.hid hp
    go_enter Try.func62, Try.ntmps62
    go_wp2_with fail
    refine (HC.out false hp.out).mono ?_
    rintro e w1 ⟨rfl, hb1⟩
    have c1 := cell_carry hb1 hb'
    have HC2 := Lib.hid (HC'.out w1 hb1)
    replace hb1 := Lib.hid hb1
    go_wp2_with fail
    refine (HC2.out q hq'.out).mono ?_
    rintro e w2 ⟨rfl, hb2⟩
    replace hb2 := Lib.hid hb2
    go_wp2_with fail
    go_ret
    exact ⟨rfl, below_step hb1.out hb2.out⟩

theorem either_any (v v' : Value) (p p' : List Nat → Bool) (w : World) (hk : RT w v p) (hk' : RT w v' p') :
    Calls Try.prog 52 #[v, v'] w fun e w' => ∃ u, e = .returned u ∧ RT w' u (fun ks => p ks || p' ks) ∧ Below w.heap.size w w' := by
  have hbb : Below w.heap.size w ((w.alloc (.cells #[v] 39)).alloc (.cells #[v'] 39)) := by go_grown
  have HK : Hid (RT ((w.alloc (.cells #[v] 39)).alloc (.cells #[v'] 39)) (.func (.func 62) #[] #[.pointer (some ⟨w.heap.size, 0, none⟩), .pointer (some ⟨w.heap.size + 1, 0, none⟩)]) (fun ks => p ks || p' ks)) := Lib.hid
    ⟨62, _, rfl, by intro args w; simp [go_sem], fun w' hb g o n cap ks h1 h2 h3 h4 q hq => either1_any w.heap.size (w.heap.size + 1) v v' p p' w' (Lib.hid ((hk.carry hbb).carry hb)) (Lib.hid ((hk'.carry hbb).carry hb)) (cell_carry hb (by simp [go_sem])) (cell_carry hb (by simp [go_sem])) g o n cap ks (Lib.hid h1) h2 h3 (Lib.hid h4) q (Lib.hid hq)⟩
  replace hbb := Lib.hid hbb
  obtain ⟨f, caps, rfl, _⟩ := hk
  obtain ⟨f', caps', rfl, _⟩ := hk'
  go_enter Try.func52, Try.ntmps52
  go_wp2_with fail
  go_ret
  exact ⟨_, rfl, HK.out, hbb.out⟩

end Go.Proofs.Ytogpfbmkbnooeaa
