/-
  Contracts of tree.Kids, tree.Up and of the document's Kids and Up. Conditions: rows of at most 1000000 nodes; the document's: of one tree, a place within.
-/
import Derived.Test.YtogpfbmkbnooeaaRgt
namespace Go.Proofs.Ytogpfbmkbnooeaa
open Go.RowKit
set_option linter.unusedVariables false

theorem ownI_open {w : World} {B : Nat} {v : Value} {l : List Nat} (h : OwnI w B v l) : ∃ a cap, v = .slice a l.length cap ∧ ∀ i, i < l.length → ∃ g, a = some ⟨g, 0, none⟩ ∧ B ≤ g ∧ w.cell? ⟨g, i, none⟩ = some (itv (l.getD i 0)) := by
  rcases h.2 with ⟨rfl, hn⟩ | ⟨g, cap, cur, rfl, h2, h3⟩
  · obtain rfl := List.eq_nil_of_length_eq_zero hn
    exact ⟨none, 0, rfl, fun i hi => absurd hi (by simp)⟩
  · have hown : w.ownsRow B 3 1 (.slice (some ⟨g, 0, none⟩) l.length cap) l.length (l.map itv) := h
    refine ⟨_, cap, rfl, fun i hi => ⟨g, rfl, h2, ?_⟩⟩
    rw [hown.cellAt i (by omega)]
    simp [List.getD, hi]

theorem getD_mem {x : List Nat} {k : Nat} (h : k < x.length) : x.getD k 0 ∈ x := by simp [List.getD, h]

theorem mem_getD {x : List Nat} {y : Nat} (h : y ∈ x) : ∃ k, k < x.length ∧ x.getD k 0 = y := by
  obtain ⟨k, hk, rfl⟩ := List.getElem_of_mem h
  exact ⟨k, hk, by simp [List.getD, hk]⟩

theorem chain_len {S : Nat → Int} {stop : Nat} : ∀ {d k : Nat}, stop - k ≤ d → ∀ {l : List Nat}, chain S stop k = some l → l.length ≤ stop - k := by
  intro d
  induction d with
  | zero =>
    intro k hd l h
    rw [chain_end (by omega)] at h
    cases h; simp
  | succ d ih =>
    intro k hd l h
    by_cases hk : k < stop
    · by_cases hb : S k < 0 ∨ (stop : Int) - 1 - k < S k
      · rw [chain_bad hk hb] at h; cases h
      · rw [chain_step hk hb] at h
        obtain ⟨m, hm, rfl⟩ := Option.map_eq_some_iff.1 h
        have := ih (by omega) hm
        rw [List.length_cons]; omega
    · rw [chain_end hk] at h
      cases h; simp

theorem kids_len {S : Nat → Int} {n i : Nat} (h : Ok S n i) : (kidsOf S i).length ≤ n := by
  have := chain_len (Nat.le_refl _) (kids_some h)
  have := h.high
  have := h.low
  omega

/-- What Kids answers. -/
def RetI (w : World) (x : List Nat) (e : Ending) (w' : World) : Prop := ∃ v, e = .returned v ∧ OwnI w' w.heap.size v x ∧ Below w.heap.size w w'

noncomputable def kidsAt (S : Nat → Int) (n : Nat) (i : Int) : List Nat := if decide (0 ≤ i ∧ i < n) = true ∧ rightB S n = true then kidsOf S i.toNat else []
noncomputable def upAt (S : Nat → Int) (n : Nat) (i : Int) : Int := if decide (0 ≤ i ∧ i < n) = true ∧ rightB S n = true then upOf S i.toNat else -1

set_option maxHeartbeats 1000000 in
theorem kids_any (a : Option Addr) (n cap : Nat) (l : List Nd) (w : World) (hn : l.length = n) (hl : n ≤ 1000000) (hr : Row w a l) (i : Int) (hi : i64In i) (x : List Nat) (hx : kidsAt (sz l) n i = x) :
    Calls Try.prog 14 #[.slice a n cap, .int .i64 i] w (RetI w x) := by
  have HP := Lib.hid (fun p hp => isPlace_any a n cap i w hl hi p hp)
  have HR := Lib.hid (fun p hp => right_any a n cap l w hn hl hr p hp)
  cases hp : decide (0 ≤ i ∧ i < n) with
  | false =>
    rw [kidsAt, if_neg (by rw [hp]; simp)] at hx
    subst hx
    replace hp := Lib.hid hp
    replace hr := Lib.hid hr
    clear hn
    go_enter Try.func14, Try.ntmps14
    go_wp2_with (go_at_call 35; refine (HP.out false hp.out).mono ?_; rintro e w' ⟨rfl, rfl⟩)
    go_ret
    exact ⟨_, rfl, ownI_nil _ _, Below.refl _ _⟩
  | true =>
    cases hq : rightB (sz l) n with
    | false =>
      rw [kidsAt, if_neg (by rw [hq]; simp)] at hx
      subst hx
      replace hp := Lib.hid hp
      replace hq := Lib.hid hq
      replace hr := Lib.hid hr
      clear hn
      go_enter Try.func14, Try.ntmps14
      go_wp2_with (first | (go_at_call 35; refine (HP.out true hp.out).mono ?_; rintro e w' ⟨rfl, rfl⟩) | (go_at_call 10; refine (HR.out false hq.out).mono ?_; rintro e w' ⟨rfl, hb1⟩; replace hb1 := Lib.hid hb1))
      go_ret
      exact ⟨_, rfl, ownI_nil _ _, hb1.out⟩
    | true =>
      rw [kidsAt, if_pos ⟨hp, hq⟩] at hx
      have hpi : 0 ≤ i ∧ i < n := by simpa using hp
      obtain ⟨k, rfl⟩ : ∃ k : Nat, i = k := ⟨i.toNat, by omega⟩
      have hk : k < n := by omega
      have hRi := rightB_iff.1 hq
      obtain ⟨b, o, rfl, hbk⟩ := hr.block (by intro h; rw [h] at hn; simp at hn; omega)
      have ok := hRi.ok k hk
      have l1 := ok.low
      have l2 := ok.high
      have hch := kids_some ok
      rw [show kidsOf (sz l) k = x from hx] at hch
      have HC := Lib.hid (fun w1 (h : Below w.heap.size w w1) => children_any b o n cap l w1 (Lib.hid hn) hl (Lib.hid (hbk.carry h)) k (k + 1 + (sz l k).toNat) hk l1 (by omega) (Lib.hid (by omega)) (some x) (Lib.hid hch))
      replace hp := Lib.hid hp
      replace hq := Lib.hid hq
      clear hn hr hx hpi hRi hbk ok l1 l2 hch
      go_enter Try.func14, Try.ntmps14
      go_wp2_with (first | (go_at_call 35; refine (HP.out true hp.out).mono ?_; rintro e w' ⟨rfl, rfl⟩) | (go_at_call 10; refine (HR.out true hq.out).mono ?_; rintro e w1 ⟨rfl, hb1⟩; have HC1 := Lib.hid (HC.out w1 hb1); replace hb1 := Lib.hid hb1) | (go_at_call 27; refine (HC1.out).mono ?_; rintro e w2 ⟨v, rfl, ho, hb2⟩; replace ho := Lib.hid ho; replace hb2 := Lib.hid hb2))
      go_ret
      exact ⟨_, rfl, ownI_mono ho.out hb1.out.size, below_step hb1.out hb2.out⟩

set_option maxHeartbeats 1000000 in
theorem up_any (a : Option Addr) (n cap : Nat) (l : List Nd) (w : World) (hn : l.length = n) (hl : n ≤ 1000000) (hr : Row w a l) (i : Int) (hi : i64In i) (x : Int) (hx : upAt (sz l) n i = x) :
    Calls Try.prog 15 #[.slice a n cap, .int .i64 i] w fun e w' => e = .returned (.int .i64 x) ∧ Below w.heap.size w w' := by
  have HP := Lib.hid (fun p hp => isPlace_any a n cap i w hl hi p hp)
  have HR := Lib.hid (fun p hp => right_any a n cap l w hn hl hr p hp)
  cases hp : decide (0 ≤ i ∧ i < n) with
  | false =>
    rw [upAt, if_neg (by rw [hp]; simp)] at hx
    subst hx
    replace hp := Lib.hid hp
    replace hr := Lib.hid hr
    clear hn
    go_enter Try.func15, Try.ntmps15
    go_wp2_with (go_at_call 35; refine (HP.out false hp.out).mono ?_; rintro e w' ⟨rfl, rfl⟩)
    go_ret
    exact ⟨rfl, Below.refl _ _⟩
  | true =>
    cases hq : rightB (sz l) n with
    | false =>
      rw [upAt, if_neg (by rw [hq]; simp)] at hx
      subst hx
      replace hp := Lib.hid hp
      replace hq := Lib.hid hq
      replace hr := Lib.hid hr
      clear hn
      go_enter Try.func15, Try.ntmps15
      go_wp2_with (first | (go_at_call 35; refine (HP.out true hp.out).mono ?_; rintro e w' ⟨rfl, rfl⟩) | (go_at_call 10; refine (HR.out false hq.out).mono ?_; rintro e w' ⟨rfl, hb1⟩; replace hb1 := Lib.hid hb1))
      go_ret
      exact ⟨rfl, hb1.out⟩
    | true =>
      rw [upAt, if_pos ⟨hp, hq⟩] at hx
      have hpi : 0 ≤ i ∧ i < n := by simpa using hp
      obtain ⟨k, rfl⟩ : ∃ k : Nat, i = k := ⟨i.toNat, by omega⟩
      have hk : k < n := by omega
      obtain ⟨b, o, rfl, hbk⟩ := hr.block (by intro h; rw [h] at hn; simp at hn; omega)
      have hx' : upTo (sz l) k k = x := hx
      replace hp := Lib.hid hp
      replace hq := Lib.hid hq
      replace hx := Lib.hid hx'
      replace hbk := Lib.hid hbk
      replace hn := Lib.hid hn
      clear hr hpi hx'
      go_enter Try.func15, Try.ntmps15
      go_wp2_with (first | (go_at_call 35; refine (HP.out true hp.out).mono ?_; rintro e w' ⟨rfl, rfl⟩) | (go_at_call 10; refine (HR.out true hq.out).mono ?_; rintro e w1 ⟨rfl, hb1⟩; replace hb1 := Lib.hid hb1))
      go_loop [5] (fun j => ∃ m : Nat, m ≤ k ∧ j = .int .i64 ((m : Int) - 1) ∧ upTo (sz l) k m = x) (fun j => (intOf j + 1).toNat)
      case atStart => exact ⟨k, Nat.le_refl _, rfl, hx.out⟩
      case round =>
        obtain ⟨m, hm, rfl, hu⟩ := hrel
        by_cases h0 : m = 0
        · subst h0
          have hx0 : x = -1 := hu.symm
          subst hx0
          clear hu
          rw [show (((0 : Nat) : Int) - 1) = -1 from rfl]
          go_wp2_with fail
          go_ret
          exact ⟨rfl, hb1.out⟩
        · obtain ⟨m, rfl⟩ : ∃ m', m = m' + 1 := ⟨m - 1, by omega⟩
          rw [show (((m + 1 : Nat) : Int) - 1) = (m : Nat) by omega]
          obtain ⟨hat, hwf⟩ := (hbk.out.carry hb1.out) m (by rw [hn.out]; omega)
          have c3 := hat.c3
          have hs := hwf.size
          unfold i64In at hs
          obtain ⟨z, hz⟩ : ∃ z, (nd l m).size = z := ⟨_, rfl⟩
          have hz0 : sz l m = z := hz
          rw [hz] at c3 hs
          clear hz hat hwf
          obtain ⟨hs1, hs2⟩ := hs
          have hmn : m < n := by omega
          rw [upTo, hz0] at hu
          clear hz0
          by_cases hg : (k : Int) - m ≤ z
          · rw [if_pos hg] at hu
            subst hu
            go_wp2_with fail
            go_ret
            exact ⟨rfl, hb1.out⟩
          · rw [if_neg hg] at hu
            replace hu := Lib.hid hu
            go_wp2_with fail
            go_round
            case rel => exact ⟨m, by omega, rfl, hu.out⟩
            case measure => simp [intOf]

/-! The document's. -/
set_option maxHeartbeats 1000000 in
theorem rkids_row (b o n cap : Nat) (l : List Nd) (w : World) (hn : Hid (l.length = n)) (hl : n ≤ 1000000) (hr : Hid (RowB w b o l)) (i : Nat) (hi : i < n) (hok : Hid (Ok (sz l) n i)) (xs : List Nat) (hxs : Hid (kidsOf (sz l) i = xs)) :
    Calls Try.prog 16 #[.slice (some ⟨b, o, none⟩) n cap, .int .i64 (i : Nat)] w (RetI w xs) := by
  have hch := kids_some hok.out
  rw [hxs.out] at hch
  have l1 := hok.out.low
  have l2 := hok.out.high
  obtain ⟨st, hst⟩ : ∃ st, i + 1 + (sz l i).toNat = st := ⟨_, rfl⟩
  rw [hst] at hch
  obtain ⟨m, hm⟩ : ∃ m : Nat, sz l i = m := ⟨(sz l i).toNat, by omega⟩
  have hstw : (i : Int) + 1 + m = st := by omega
  have hist : i + 1 ≤ st := by omega
  have hstn : st ≤ n := by omega
  have hmb : m ≤ 1000000 := by omega
  have HC0 := Lib.hid (show ∀ w2, Below w.heap.size w w2 → w2.cell? ⟨b, o + i * 6 + 3, none⟩ = some (.int .i64 (m : Nat)) from fun w2 h => by
    rw [((hr.out.carry h) i (by rw [hn.out]; exact hi)).1.c3, show (nd l i).size = (m : Int) from hm])
  clear l1 l2 hst hm
  replace hstw := Lib.hid hstw
  replace hch := Lib.hid hch
  go_enter Try.func16, Try.ntmps16
  go_wp2_with fail
  go_loopw [5, 6] (fun v j wr => KRel l w (some xs) i st v j wr) (fun _ j _ => st - (intOf j).toNat)
  case atStart => exact ⟨i + 1, [], Nat.le_refl _, hist, by go_num, by simp, by rw [hch.out]; simp, ownI_made (Nat.le_refl _), below_alloc _ _⟩
  case round =>
    obtain ⟨k, x, hk1, hk2, rfl, hx, hRR, hown, hbel⟩ := hrel
    have hsz := hbel.size
    have d0 := HC0.out wr hbel
    have hstw' := hstw.out
    by_cases hlt : k < st
    · have hkn : k < l.length := by rw [hn.out]; omega
      by_cases hb : sz l k < 0 ∨ (st : Int) - 1 - k < sz l k
      · rw [chain_bad hlt hb] at hRR; cases hRR
      · obtain ⟨q, hq⟩ : ∃ q : Nat, sz l k = q := ⟨(sz l k).toNat, by omega⟩
        have HR := Lib.hid (show (chain (sz l) st (k + 1 + q)).map ((x ++ [k]) ++ ·) = some xs by
            rw [← hRR, chain_step hlt hb, hq, Int.toNat_natCast]
            cases chain (sz l) st (k + 1 + q) <;> simp)
        have HC := Lib.hid (show ∀ w2, Below w.heap.size w w2 → w2.cell? ⟨b, o + k * 6 + 3, none⟩ = some (.int .i64 (q : Nat)) from fun w2 h => by
          rw [((hr.out.carry h) k hkn).1.c3, show (nd l k).size = (q : Int) from hq])
        have hq2 : k + 1 + q ≤ st := by omega
        have g0 : (k : Int) < i + 1 + m := by omega
        have hkn' : k < n := by omega
        clear hRR hq hb hkn hstw'
        replace hbel := Lib.hid hbel
        replace hown := Lib.hid hown
        go_wp2_with (at_builtin; refine wpList_appI rfl _ _ rfl w.heap.size u5 x k wr.heap.size rfl rfl rfl rfl hown.out hsz (by omega) ?_; intro v2 w2 ho2 hb2; have d4 := HC.out w2 (hbel.out.trans hb2); replace ho2 := Lib.hid ho2; replace hb2 := Lib.hid (hbel.out.trans hb2))
        go_roundw
        case rel => exact ⟨k + 1 + q, x ++ [k], by omega, hq2, by go_num, by simp; omega, HR.out, ho2.out, hb2.out⟩
        case measure => simp [intOf]; omega
    · have HR := Lib.hid (show x = xs by rw [chain_end hlt] at hRR; simpa using hRR)
      have g0 : ¬ (k : Int) < i + 1 + m := by omega
      clear hRR hstw'
      replace hbel := Lib.hid hbel
      replace hown := Lib.hid hown
      go_wp2_with fail
      go_ret
      exact ⟨_, rfl, HR.out ▸ hown.out, hbel.out⟩

set_option maxHeartbeats 2000000 in
theorem rup_row (b o n cap : Nat) (l : List Nd) (w : World) (hn : Hid (l.length = n)) (hl : n ≤ 1000000) (hr : Hid (RowB w b o l)) (hR : Hid (Right (sz l) n)) (y : Nat) (hy : y < n) (U : Int) (hU : Hid (upOf (sz l) y = U)) :
    Calls Try.prog 17 #[.slice (some ⟨b, o, none⟩) n cap, .int .i64 (y : Nat)] w fun e w' => e = .returned (.int .i64 U) ∧ Below w.heap.size w w' := by
  go_enter Try.func17, Try.ntmps17
  go_wp2_with fail
  go_loopw [10] (fun j wr => ∃ i : Nat, i ≤ n ∧ j = .int .i64 i ∧ (∀ i' : Nat, i' < i → U ≠ i') ∧ Below w.heap.size w wr) (fun j _ => n - (intOf j).toNat)
  case atStart => exact ⟨0, Nat.zero_le _, rfl, fun i' h => absurd h (by omega), Below.refl _ _⟩
  case round =>
    obtain ⟨i, hi, rfl, hno, hbel⟩ := hrel
    replace hno := Lib.hid hno
    by_cases hlt : i < n
    · have HC := Lib.hid (rkids_row b o n cap l wr hn hl (Lib.hid (hr.out.carry hbel)) i hlt (Lib.hid (hR.out.ok i hlt)) _ (Lib.hid rfl))
      have hiff := Lib.hid (hR.out.kid_iff hlt hy)
      have hlen := kids_len (hR.out.ok i hlt)
      obtain ⟨x, hx⟩ : ∃ x, kidsOf (sz l) i = x := ⟨_, rfl⟩
      rw [hx] at HC hiff hlen
      rw [hU.out] at hiff
      clear hx
      replace hbel := Lib.hid hbel
      go_wp2_with fail
      refine HC.out.mono ?_
      rintro e w1 ⟨v, rfl, hown, hb1⟩
      obtain ⟨a', cap', rfl, hcell⟩ := ownI_open hown
      replace hcell := Lib.hid hcell
      replace hb1 := Lib.hid (below_step hbel.out hb1)
      clear hown HC hbel
      go_wp2_with fail
      go_loop [18] (fun j => ∃ k : Nat, k ≤ x.length ∧ j = .int .i64 k ∧ ∀ k', k' < k → x.getD k' 0 ≠ y) (fun j => x.length - (intOf j).toNat)
      case atStart => exact ⟨0, Nat.zero_le _, rfl, fun k' h => absurd h (by omega)⟩
      case round =>
        obtain ⟨k, hk, rfl, hne⟩ := hrel
        replace hne := Lib.hid hne
        by_cases hkl : k < x.length
        · obtain ⟨g, rfl, _, hc⟩ := hcell.out k hkl
          obtain ⟨c, hcx⟩ : ∃ c, x.getD k 0 = c := ⟨_, rfl⟩
          rw [hcx] at hc
          by_cases hcy : c = y
          · have hUi : U = i := hiff.out.1 (by
              rw [← hcy, ← hcx]
              exact getD_mem hkl)
            have e1 : ((c : Int) == (y : Int)) = true := by rw [hcy]; simp
            clear hcx hcy
            subst hUi
            go_wp2_with fail
            go_ret
            exact ⟨rfl, hb1.out⟩
          · have e1 : ((c : Int) == (y : Int)) = false := by rw [beq_eq_false_iff_ne]; omega
            have HN := Lib.hid (show ∀ k', k' < k + 1 → x.getD k' 0 ≠ y from fun k' h => by
              by_cases e : k' = k
              · subst e; rw [hcx]; exact hcy
              · exact hne.out k' (by omega))
            clear hcx hcy
            go_wp2_with fail
            go_round
            case rel => exact ⟨k + 1, hkl, by go_num, HN.out⟩
            case measure => simp [intOf]; omega
        · have HO := Lib.hid (show ∀ i' : Nat, i' < i + 1 → U ≠ i' from fun i' h => by
            by_cases e : i' = i
            · subst e
              intro hU2
              obtain ⟨q, hq, hq2⟩ := mem_getD (hiff.out.2 hU2)
              exact hne.out q (by omega) hq2
            · exact hno.out i' (by omega))
          go_wp2_with fail
          go_roundw
          case rel => exact ⟨i + 1, hlt, by go_num, HO.out, hb1.out⟩
          case measure => simp [intOf]; omega
    · have hU1 : U = -1 := by
        rcases upTo_cases (sz l) y y with h | ⟨j, h⟩
        · rw [← hU.out]; exact h
        · have := (upTo_some h).1
          exact absurd (hU.out.symm.trans h) (hno.out j (by omega))
      subst hU1
      replace hbel := Lib.hid hbel
      go_wp2_with fail
      go_ret
      exact ⟨rfl, hbel.out⟩

end Go.Proofs.Ytogpfbmkbnooeaa
