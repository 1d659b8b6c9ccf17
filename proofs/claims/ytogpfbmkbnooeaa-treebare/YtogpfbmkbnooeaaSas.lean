/-
  Contracts of slices.EqualFunc at nodes, of tree.Same, of the document's Same and Equal. Conditions: rows of at most 1000000 nodes.
-/
import Derived.Test.YtogpfbmkbnooeaaSam
namespace Go.Proofs.Ytogpfbmkbnooeaa
open Go.RowKit Go.Sort
set_option linter.unusedVariables false

theorem same_len {l m : List Nd} (h : ¬ l.length = m.length) : sameB l m = false := by rw [sameB, decide_eq_false h, Bool.false_and]
theorem same_bad {l m : List Nd} {i : Nat} (hi : i < l.length) (h : eqN (nd l i) (nd m i) = false) : sameB l m = false := by
  rw [sameB, Bool.and_eq_false_iff]
  right
  rw [List.all_eq_false]
  exact ⟨i, List.mem_range.2 hi, by rw [h]; simp⟩
theorem same_good {l m : List Nd} (h : l.length = m.length) (ha : ∀ i, i < l.length → eqN (nd l i) (nd m i) = true) : sameB l m = true := by
  rw [sameB, decide_eq_true h, Bool.true_and, List.all_eq_true]
  intro i hi
  exact ha i (List.mem_range.1 hi)

set_option maxHeartbeats 2000000 in
theorem equalFunc_any (a : Option Addr) (n cap : Nat) (l : List Nd) (a' : Option Addr) (n' cap' : Nat) (m : List Nd) (w : World) (hn : Hid (l.length = n)) (hn' : Hid (m.length = n')) (hl : n ≤ 1000000) (hl' : n' ≤ 1000000) (hr : Hid (Row w a l)) (hr' : Hid (Row w a' m)) (p : Bool) (hp : Hid (sameB l m = p)) :
    Calls Try.prog 37 #[.slice a n cap, .slice a' n' cap', .func (.func 38) #[] #[]] w fun e w' => e = .returned (.bool p) ∧ Below w.heap.size w w' := by
  by_cases hnn : n = n'
  · subst hnn
    have e0 : ((n : Int) != (n : Int)) = false := by simp
    go_enter Try.func37, Try.ntmps37
    go_wp2_with fail
    go_loopw [17] (fun j wr => ∃ k : Nat, k ≤ n ∧ j = .int .i64 k ∧ (∀ i, i < k → eqN (nd l i) (nd m i) = true) ∧ Below w.heap.size w wr) (fun j _ => n - (intOf j).toNat)
    case atStart => exact ⟨0, Nat.zero_le _, rfl, fun i hi => absurd hi (by omega), Below.refl _ _⟩
    case round =>
      obtain ⟨k, hk, rfl, hall, hbel⟩ := hrel
      replace hall := Lib.hid hall
      by_cases hlt : k < n
      · obtain ⟨b, o, rfl, hat, hwf⟩ := (hr.out.carry hbel) k (by rw [hn.out]; exact hlt)
        obtain ⟨b', o', rfl, hat', hwf'⟩ := (hr'.out.carry hbel) k (by rw [hn'.out]; exact hlt)
        obtain ⟨c0, c1, c2, c3, c4, c5⟩ := hat
        obtain ⟨d0, d1, d2, d3, d4, d5⟩ := hat'
        obtain ⟨kd, ln, cl, s, num, tx, hN⟩ : ∃ kd ln cl s num tx, nd l k = ⟨kd, ln, cl, s, num, tx⟩ := ⟨_, _, _, _, _, _, rfl⟩
        obtain ⟨kd', ln', cl', s', num', tx', hN'⟩ : ∃ kd ln cl s num tx, nd m k = ⟨kd, ln, cl, s, num, tx⟩ := ⟨_, _, _, _, _, _, rfl⟩
        rw [hN] at c0 c1 c2 c3 c4 c5
        rw [hN'] at d0 d1 d2 d3 d4 d5
        simp only at c0 c1 c2 c3 c4 c5 d0 d1 d2 d3 d4 d5
        have g0 := fun O => cell_alloc d0 O
        have g1 := fun O => cell_alloc d1 O
        have g2 := fun O => cell_alloc d2 O
        have g3 := fun O => cell_alloc d3 O
        have g4 := fun O => cell_alloc d4 O
        have g5 := fun O => cell_alloc d5 O
        have HS := Lib.hid (fun w t (h : eqN (nd l k) (nd m k) = t) => same1_any ⟨kd, ln, cl, s, num, tx⟩ ⟨kd', ln', cl', s', num', tx'⟩ w t (by rw [← h, hN, hN']))
        have HB := Lib.hid (below_step hbel (show Below wr.heap.size wr ((wr.alloc (.cells #[.int .u8 (kd : Nat), .int .i64 ln, .int .i64 cl, .int .i64 s, .int .i64 num, .string tx] 31)).alloc (.cells #[.int .u8 (kd' : Nat), .int .i64 ln', .int .i64 cl', .int .i64 s', .int .i64 num', .string tx'] 31)) by go_grown))
        clear hN hN' hwf hwf' hbel d0 d1 d2 d3 d4 d5
        cases hE : eqN (nd l k) (nd m k) with
        | false =>
          have hp' : p = false := by rw [← hp.out]; exact same_bad (by rw [hn.out]; exact hlt) hE
          subst hp'
          replace hE := Lib.hid hE
          go_wp2_with fail
          refine (HS.out _ false hE.out).mono ?_
          rintro e w2 ⟨rfl, hb2⟩
          replace hb2 := Lib.hid (below_step HB.out hb2)
          go_wp2_with fail
          go_ret
          exact ⟨rfl, hb2.out⟩
        | true =>
          have HA := Lib.hid (show ∀ i, i < k + 1 → eqN (nd l i) (nd m i) = true from fun i hi => by
            by_cases e : i = k
            · subst e; exact hE
            · exact hall.out i (by omega))
          replace hE := Lib.hid hE
          go_wp2_with fail
          refine (HS.out _ true hE.out).mono ?_
          rintro e w2 ⟨rfl, hb2⟩
          replace hb2 := Lib.hid (below_step HB.out hb2)
          go_wp2_with fail
          go_roundw
          case rel => exact ⟨k + 1, hlt, by go_num, HA.out, hb2.out⟩
          case measure => simp [intOf]; omega
      · have hp' : p = true := by rw [← hp.out]; exact same_good (by rw [hn.out, hn'.out]) fun i hi => hall.out i (by rw [hn.out] at hi; omega)
        subst hp'
        replace hbel := Lib.hid hbel
        go_wp2_with fail
        go_ret
        exact ⟨rfl, hbel.out⟩
  · have hp' : p = false := by rw [← hp.out]; exact same_len (by rw [hn.out, hn'.out]; exact hnn)
    subst hp'
    have e0 : ((n : Int) != (n' : Int)) = true := by rw [bne_iff_ne]; omega
    go_enter Try.func37, Try.ntmps37
    go_wp2_with fail
    go_ret
    exact ⟨rfl, Below.refl _ _⟩

theorem same_any (a : Option Addr) (n cap : Nat) (l : List Nd) (a' : Option Addr) (n' cap' : Nat) (m : List Nd) (w : World) (hn : l.length = n) (hn' : m.length = n') (hl : n ≤ 1000000) (hl' : n' ≤ 1000000) (hr : Row w a l) (hr' : Row w a' m) (p : Bool) (hp : sameB l m = p) :
    Calls Try.prog 21 #[.slice a n cap, .slice a' n' cap'] w fun e w' => e = .returned (.bool p) ∧ Below w.heap.size w w' := by
  have H := Lib.hid (equalFunc_any a n cap l a' n' cap' m w (Lib.hid hn) (Lib.hid hn') hl hl' (Lib.hid hr) (Lib.hid hr') p (Lib.hid hp))
  clear hn hn' hr hr' hp
  go_enter Try.func21, Try.ntmps21
  go_wp2_with (go_at_call 37; refine H.out.mono ?_; rintro e w' ⟨rfl, hb⟩; replace hb := Lib.hid hb)
  go_ret
  exact ⟨rfl, hb.out⟩

/-! The document's. -/
set_option maxHeartbeats 4000000 in
set_option maxRecDepth 100000 in
theorem rsame_any (a : Option Addr) (n cap : Nat) (l : List Nd) (a' : Option Addr) (n' cap' : Nat) (m : List Nd) (w : World) (hn : Hid (l.length = n)) (hn' : Hid (m.length = n')) (hl : n ≤ 1000000) (hl' : n' ≤ 1000000) (hr : Hid (Row w a l)) (hr' : Hid (Row w a' m)) (p : Bool) (hp : Hid (sameB l m = p)) :
    Calls Try.prog 19 #[.slice a n cap, .slice a' n' cap'] w fun e w' => e = .returned (.bool p) ∧ Below w.heap.size w w' := by
  by_cases hnn : n = n'
  · subst hnn
    have e0 : ((n : Int) != (n : Int)) = false := by simp
    go_enter Try.func19, Try.ntmps19
    go_wp2_with fail
    go_loopw [13] (fun j wr => ∃ k : Nat, k ≤ n ∧ j = .int .i64 k ∧ (∀ i, i < k → eqN (nd l i) (nd m i) = true) ∧ Below w.heap.size w wr) (fun j _ => n - (intOf j).toNat)
    case atStart => exact ⟨0, Nat.zero_le _, rfl, fun i hi => absurd hi (by omega), Below.refl _ _⟩
    case round =>
      obtain ⟨k, hk, rfl, hall, hbel⟩ := hrel
      replace hall := Lib.hid hall
      by_cases hlt : k < n
      · obtain ⟨b, o, rfl, hat, hwf⟩ := (hr.out.carry hbel) k (by rw [hn.out]; exact hlt)
        obtain ⟨b', o', rfl, hat', hwf'⟩ := (hr'.out.carry hbel) k (by rw [hn'.out]; exact hlt)
        obtain ⟨c0, c1, c2, c3, c4, c5⟩ := hat
        obtain ⟨d0, d1, d2, d3, d4, d5⟩ := hat'
        obtain ⟨kd, ln, cl, s, num, tx, hN⟩ : ∃ kd ln cl s num tx, nd l k = ⟨kd, ln, cl, s, num, tx⟩ := ⟨_, _, _, _, _, _, rfl⟩
        obtain ⟨kd', ln', cl', s', num', tx', hN'⟩ : ∃ kd ln cl s num tx, nd m k = ⟨kd, ln, cl, s, num, tx⟩ := ⟨_, _, _, _, _, _, rfl⟩
        rw [hN] at c0 c1 c2 c3 c4 c5
        rw [hN'] at d0 d1 d2 d3 d4 d5
        simp only at c0 c1 c2 c3 c4 c5 d0 d1 d2 d3 d4 d5
        have hE : eqN (nd l k) (nd m k) = ((kd == kd') && ((s == s') && ((num == num') && (tx.data.toList == tx'.data.toList)))) := by rw [hN, hN']; rfl
        have hbad : Hid (eqN (nd l k) (nd m k) = false → p = false) := Lib.hid fun h => by rw [← hp.out]; exact same_bad (by rw [hn.out]; exact hlt) h
        have hgood : Hid (eqN (nd l k) (nd m k) = true → ∀ i, i < k + 1 → eqN (nd l i) (nd m i) = true) := Lib.hid fun h i hi => by
          by_cases e : i = k
          · subst e; exact h
          · exact hall.out i (by omega)
        replace hE := Lib.hid hE
        replace hbel := Lib.hid hbel
        clear hN hN' hwf hwf' c1 c2 d1 d2
        by_cases h1 : kd = kd'
        · have f1 : ((kd : Int) != (kd' : Int)) = false := by rw [h1]; simp
          by_cases h2 : s = s'
          · have f2 : (s != s') = false := by rw [h2]; simp
            by_cases h3 : num = num'
            · have f3 : (num != num') = false := by rw [h3]; simp
              by_cases h4 : tx.data.toList = tx'.data.toList
              · have f4 : (tx.toList != tx'.toList) = false := by rw [ByteArray.toList_eq, ByteArray.toList_eq, h4]; simp
                have f5 : (tx.toList == tx'.toList) = true := by rw [ByteArray.toList_eq, ByteArray.toList_eq, h4]; simp
                have HA := Lib.hid (hgood.out (by rw [hE.out, h1, h2, h3, h4]; simp))
                clear h1 h2 h3 h4
                go_wp2_with fail
                go_quiet (fail)
                have hb5 := Lib.hid (below_step hbel.out (below_drewN _ nq))
                go_wp2_with fail
                go_roundw
                case rel => exact ⟨k + 1, hlt, by go_num, HA.out, hb5.out⟩
                case measure => simp [intOf]; omega
              · have f4 : (tx.toList != tx'.toList) = true := by rw [ByteArray.toList_eq, ByteArray.toList_eq]; simpa using h4
                have f5 : (tx.toList == tx'.toList) = false := by rw [ByteArray.toList_eq, ByteArray.toList_eq]; simpa using h4
                have hp' : p = false := hbad.out (by rw [hE.out, show (tx.data.toList == tx'.data.toList) = false from beq_eq_false_iff_ne.2 h4]; simp)
                subst hp'
                clear h1 h2 h3 h4
                go_wp2_with fail
                go_quiet (fail)
                have hb5 := Lib.hid (below_step hbel.out (below_drewN _ nq))
                go_wp2_with fail
                go_ret
                exact ⟨rfl, hb5.out⟩
            · have f3 : (num != num') = true := by rw [bne_iff_ne]; exact h3
              have hp' : p = false := hbad.out (by rw [hE.out]; simp [h3])
              subst hp'
              clear h1 h2 h3
              go_wp2_with fail
              go_quiet (fail)
              have hb5 := Lib.hid (below_step hbel.out (below_drewN _ nq))
              go_wp2_with fail
              go_ret
              exact ⟨rfl, hb5.out⟩
          · have f2 : (s != s') = true := by rw [bne_iff_ne]; exact h2
            have hp' : p = false := hbad.out (by rw [hE.out]; simp [h2])
            subst hp'
            clear h1 h2
            go_wp2_with fail
            go_quiet (fail)
            have hb5 := Lib.hid (below_step hbel.out (below_drewN _ nq))
            go_wp2_with fail
            go_ret
            exact ⟨rfl, hb5.out⟩
        · have f1 : ((kd : Int) != (kd' : Int)) = true := by rw [bne_iff_ne]; omega
          have hp' : p = false := hbad.out (by rw [hE.out]; simp [h1])
          subst hp'
          clear h1
          go_wp2_with fail
          go_quiet (fail)
          have hb5 := Lib.hid (below_step hbel.out (below_drewN _ nq))
          go_wp2_with fail
          go_ret
          exact ⟨rfl, hb5.out⟩
      · have hp' : p = true := by rw [← hp.out]; exact same_good (by rw [hn.out, hn'.out]) fun i hi => hall.out i (by rw [hn.out] at hi; omega)
        subst hp'
        replace hbel := Lib.hid hbel
        go_wp2_with fail
        go_ret
        exact ⟨rfl, hbel.out⟩
  · have hp' : p = false := by rw [← hp.out]; exact same_len (by rw [hn.out, hn'.out]; exact hnn)
    subst hp'
    have e0 : ((n : Int) != (n' : Int)) = true := by rw [bne_iff_ne]; omega
    go_enter Try.func19, Try.ntmps19
    go_wp2_with fail
    go_ret
    exact ⟨rfl, Below.refl _ _⟩

set_option maxHeartbeats 2000000 in
theorem requal_self (a : Option Addr) (n cap : Nat) (l : List Nd) (a' : Option Addr) (cap' : Nat) (w : World) (hn : Hid (l.length = n)) (hl : n ≤ 1000000) (hr : Hid (Row w a l)) (hr' : Hid (Row w a' l)) :
    Calls Try.prog 20 #[.slice a n cap, .slice a' n cap'] w fun e w' => e = .returned (.bool true) ∧ Below w.heap.size w w' := by
  have e0 : ((n : Int) != (n : Int)) = false := by simp
  have hgd := guard_nd
  go_enter Try.func20, Try.ntmps20
  go_wp2_with fail
  go_loopw [13] (fun j wr => ∃ k : Nat, k ≤ n ∧ j = .int .i64 k ∧ Below w.heap.size w wr) (fun j _ => n - (intOf j).toNat)
  case atStart => exact ⟨0, Nat.zero_le _, rfl, Below.refl _ _⟩
  case round =>
    obtain ⟨k, hk, rfl, hbel⟩ := hrel
    by_cases hlt : k < n
    · obtain ⟨b, o, rfl, hat, hwf⟩ := (hr.out.carry hbel) k (by rw [hn.out]; exact hlt)
      obtain ⟨b', o', rfl, hat', hwf'⟩ := (hr'.out.carry hbel) k (by rw [hn.out]; exact hlt)
      obtain ⟨c0, c1, c2, c3, c4, c5⟩ := hat
      obtain ⟨d0, d1, d2, d3, d4, d5⟩ := hat'
      obtain ⟨kd, ln, cl, s, num, tx, hN⟩ : ∃ kd ln cl s num tx, nd l k = ⟨kd, ln, cl, s, num, tx⟩ := ⟨_, _, _, _, _, _, rfl⟩
      rw [hN] at c0 c1 c2 c3 c4 c5 d0 d1 d2 d3 d4 d5
      simp only at c0 c1 c2 c3 c4 c5 d0 d1 d2 d3 d4 d5
      have hq := neq_self kd ln cl s num tx
      replace hbel := Lib.hid hbel
      clear hN hwf hwf'
      go_wp2_with fail
      go_quiet (fail)
      have hb5 := Lib.hid (below_step hbel.out (below_drewN _ nq))
      go_wp2_with fail
      go_roundw
      case rel => exact ⟨k + 1, hlt, by go_num, hb5.out⟩
      case measure => simp [intOf]; omega
    · replace hbel := Lib.hid hbel
      go_wp2_with fail
      go_ret
      exact ⟨rfl, hbel.out⟩

end Go.Proofs.Ytogpfbmkbnooeaa
