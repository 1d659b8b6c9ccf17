/-
  The walk of TreeOnce. Conditions: none beyond a row's own.
-/
import Derived.Test.YtogpfbmkbnooeaaAw
import Derived.Deep.OwnRows
namespace Go.Proofs.Ytogpfbmkbnooeaa
open Go.RowKit Go.Sort
set_option linter.unusedVariables false

theorem chain_lt {S : Nat → Int} {stop : Nat} : ∀ {d k : Nat}, stop - k ≤ d → ∀ {l : List Nat}, chain S stop k = some l → l.Pairwise (· < ·) := by
  intro d
  induction d with
  | zero =>
    intro k hd l h
    rw [chain_end (by omega)] at h
    cases h; exact List.Pairwise.nil
  | succ d ih =>
    intro k hd l h
    by_cases hk : k < stop
    · by_cases hb : S k < 0 ∨ (stop : Int) - 1 - k < S k
      · rw [chain_bad hk hb] at h; cases h
      · rw [chain_step hk hb] at h
        obtain ⟨m, hm, rfl⟩ := Option.map_eq_some_iff.1 h
        refine List.Pairwise.cons (fun x hx => ?_) (ih (by omega) hm)
        have := chain_mem (Nat.le_refl _) hm x hx
        omega
    · rw [chain_end hk] at h
      cases h; exact List.Pairwise.nil

theorem take_fresh {l : List Nat} (h : l.Pairwise (· < ·)) {j : Nat} (hj : j < l.length) : l.getD j 0 ∉ l.take j := by
  intro hm
  obtain ⟨i, hi, he⟩ := List.getElem_of_mem hm
  rw [List.length_take] at hi
  have e1 : l.getD j 0 = l[j] := by simp [List.getD, hj]
  rw [List.getElem_take, e1] at he
  have := List.pairwise_iff_getElem.1 h i j (by omega) hj (by omega)
  omega

theorem mem_take_succ {l : List Nat} {j y : Nat} (hj : j < l.length) : y ∈ l.take (j + 1) ↔ y ∈ l.take j ∨ y = l.getD j 0 := by
  have e1 : l.getD j 0 = l[j] := by simp [List.getD, hj]
  rw [List.take_succ_eq_append_getElem hj, List.mem_append, List.mem_singleton, e1]

/-- What stands in up: whose child a place is, and one more; 0 as long as nobody came by. -/
def upv (S : Nat → Int) (i y : Nat) : Nat := if 0 ≤ upOf S y ∧ upOf S y < i then (upOf S y + 1).toNat else 0
def upw (S : Nat → Int) (i : Nat) (xs : List Nat) (j y : Nat) : Nat := if y ∈ xs.take j then i + 1 else upv S i y

theorem upv_zero (S : Nat → Int) (y : Nat) : upv S 0 y = 0 := by unfold upv; rw [if_neg (by omega)]
theorem upw_zero (S : Nat → Int) (i : Nat) (xs : List Nat) (y : Nat) : upw S i xs 0 y = upv S i y := by unfold upw; rw [if_neg (by simp)]
theorem upw_step {S : Nat → Int} {i : Nat} {xs : List Nat} {j : Nat} (hj : j < xs.length) (y : Nat) : upw S i xs (j + 1) y = if y = xs.getD j 0 then i + 1 else upw S i xs j y := by
  unfold upw
  by_cases h : y = xs.getD j 0
  · rw [if_pos h, if_pos ((mem_take_succ hj).2 (.inr h))]
  · rw [if_neg h]
    by_cases h2 : y ∈ xs.take j
    · rw [if_pos h2, if_pos ((mem_take_succ hj).2 (.inl h2))]
    · rw [if_neg h2, if_neg (fun h3 => ((mem_take_succ hj).1 h3).elim h2 h)]
theorem upw_all {S : Nat → Int} {i n : Nat} {xs : List Nat} (hR : Right S n) (hi : i < n) (hx : kidsOf S i = xs) (y : Nat) (hy : y < n) : upw S i xs xs.length y = upv S (i + 1) y := by
  have hk := hR.kid_iff hi hy
  rw [hx] at hk
  unfold upw
  rw [List.take_length]
  by_cases h : y ∈ xs
  · have := hk.1 h
    rw [if_pos h, upv, if_pos (by omega), this]
    omega
  · have : ¬ upOf S y = i := fun e => h (hk.2 e)
    rw [if_neg h, upv, upv]
    by_cases h2 : 0 ≤ upOf S y ∧ upOf S y < i
    · rw [if_pos h2, if_pos (by omega)]
    · rw [if_neg h2, if_neg (by omega)]
theorem upw_free {S : Nat → Int} {i n : Nat} {xs : List Nat} (hR : Right S n) (hi : i < n) (hx : kidsOf S i = xs) {j : Nat} (hj : j < xs.length) : upw S i xs j (xs.getD j 0) = 0 := by
  have hm : xs.getD j 0 ∈ xs := getD_mem hj
  have hlt := hR.kid_lt (y := xs.getD j 0) hi (by rw [hx]; exact hm)
  have hk := (hR.kid_iff hi hlt.2).1 (by rw [hx]; exact hm)
  have hs := kids_some (hR.ok i hi)
  rw [hx] at hs
  have hp := chain_lt (Nat.le_refl _) hs
  unfold upw
  rw [if_neg (take_fresh hp hj), upv, if_neg (by omega)]

theorem treeOnce_no (a : Option Addr) (n cap : Nat) (l : List Nd) (w : World) (hn : l.length = n) (hm : n ≤ 9223372036854775807) (hr : Row w a l) (h : 100 < n ∨ (n ≤ 100 ∧ rightB (sz l) n = false)) : Calls Try.prog 5 #[.slice a n cap] w fun e w' => e = .returned (.bool true) ∧ Below w.heap.size w w' := by
  have HA := Lib.hid awake_any
  rcases h with h | ⟨h, hq⟩
  · have h' : (100 : Int) < (n : Int) := by omega
    clear hr hn
    go_enter Try.func5, Try.ntmps5
    go_wp2_with fail
    refine (HA.out _).mono ?_
    rintro e w1 ⟨rfl, hb1⟩
    replace hb1 := Lib.hid hb1
    go_wp2_with fail
    go_ret
    exact ⟨rfl, hb1.out⟩
  · have h' : ¬ (100 : Int) < (n : Int) := by omega
    have H := Lib.hid (rright_any a n cap l w hn (by omega) hr false hq)
    clear hr hn hq
    go_enter Try.func5, Try.ntmps5
    go_wp2_with fail
    refine H.out.mono ?_
    rintro e w1 ⟨rfl, rfl⟩
    go_wp2_with fail
    refine (HA.out _).mono ?_
    rintro e w1 ⟨rfl, hb1⟩
    replace hb1 := Lib.hid hb1
    go_wp2_with fail
    go_ret
    exact ⟨rfl, hb1.out⟩

def OIn (S : Nat → Int) (n i : Nat) (xs : List Nat) (a' : Option Addr) (w : World) (j : Value) (wr : World) : Prop :=
  ∃ q : Nat, q ≤ xs.length ∧ j = .int .i64 q ∧ wr.rowIs w.heap.size 3 n (fun y => itv (upw S i xs q y)) ∧ Below w.heap.size w wr ∧ ∀ t, t < xs.length → ∃ g, a' = some ⟨g, 0, none⟩ ∧ w.heap.size < g ∧ wr.cell? ⟨g, t, none⟩ = some (itv (xs.getD t 0))

set_option maxHeartbeats 4000000 in
set_option maxRecDepth 100000 in
theorem treeOnce_yes (b o n cap : Nat) (l : List Nd) (w : World) (hn : Hid (l.length = n)) (h : n ≤ 100) (hR : Hid (Right (sz l) n)) (hrow : Hid (Row w (some ⟨b, o, none⟩) l)) :
    Calls Try.prog 5 #[.slice (some ⟨b, o, none⟩) n cap] w fun e w' => e = .returned (.bool true) ∧ Below w.heap.size w w' := by
  have HA := Lib.hid awake_any
  have hpos := hR.out.pos
  have h' : ¬ (100 : Int) < (n : Int) := by omega
  have H := Lib.hid (rright_any (some ⟨b, o, none⟩) n cap l w hn.out (by omega) hrow.out true (rightB_true hR.out))
  have HK := Lib.hid (fun w1 (hb : Below w.heap.size w w1) (i : Nat) (hi : i < n) => kids_any (some ⟨b, o, none⟩) n cap l w1 hn.out (by omega) (hrow.out.carry hb) (i : Nat) (by unfold i64In; omega) (kidsOf (sz l) i) (by rw [kidsAt, if_pos ⟨by simp; omega, rightB_true hR.out⟩]; rfl))
  have HU := Lib.hid (fun w1 (hb : Below w.heap.size w w1) (y : Nat) (hy : y < n) (i : Int) (hu : upOf (sz l) y = i) => up_any (some ⟨b, o, none⟩) n cap l w1 hn.out (by omega) (hrow.out.carry hb) (y : Nat) (by unfold i64In; omega) i (by rw [upAt, if_pos ⟨by simp; omega, rightB_true hR.out⟩]; exact hu))
  have hmk := run_make_row' (P := Try.prog) 25 3 (.int .i64 0) 8 Try.underlying25 Try.info3 rfl .i64 .i64 n (by omega) (by omega)
  go_enter Try.func5, Try.ntmps5
  go_wp2_with fail
  refine H.out.mono ?_
  rintro e w1 ⟨rfl, rfl⟩
  clear H
  go_wp2_with fail
  go_loopw [22] (fun j wr => ∃ i : Nat, i ≤ n ∧ j = .int .i64 i ∧ wr.rowIs w.heap.size 3 n (fun y => itv (upv (sz l) i y)) ∧ Below w.heap.size w wr) (fun j _ => n - (intOf j).toNat)
  case atStart => exact ⟨0, Nat.zero_le _, rfl, (World.rowIs_made w (.int .i64 0) n 3).congr fun y _ => by rw [upv_zero]; rfl, below_alloc _ _⟩
  case round =>
    clear hmk
    obtain ⟨i, hi, rfl, hup, hbel⟩ := hrel
    by_cases hlt : i < n
    · have HKI := Lib.hid (HK.out wr hbel i hlt)
      have hxl := kids_len (hR.out.ok i hlt)
      obtain ⟨xs, hxs⟩ : ∃ xs, kidsOf (sz l) i = xs := ⟨_, rfl⟩
      rw [hxs] at HKI hxl
      have HXS := Lib.hid hxs
      have hul := hup.lt
      replace hup := Lib.hid hup
      replace hbel := Lib.hid hbel
      clear hxs
      go_wp2_with fail
      refine HKI.out.mono ?_
      rintro e w2 ⟨v, rfl, hown, hb2⟩
      obtain ⟨a', cap', rfl, hcell⟩ := ownI_open hown
      have H0 : Hid (OIn (sz l) n i xs a' w (.int .i64 ((0 : Nat) : Int)) w2) := Lib.hid ⟨0, Nat.zero_le _, rfl, (hup.out.of_block (hb2.block _ hul)).congr fun y _ => by rw [upw_zero], below_step hbel.out hb2, fun t ht => by
        obtain ⟨g, h1, h2, h3⟩ := hcell t ht
        exact ⟨g, h1, by omega, h3⟩⟩
      clear hown hcell hb2 hup hbel HKI
      go_wp2_with fail
      go_loopw [30] (fun j wr => OIn (sz l) n i xs a' w j wr) (fun j _ => xs.length - (intOf j).toNat)
      case atStart => exact H0.out
      case round =>
        clear H0
        obtain ⟨q, hq, rfl, hup, hbel, hcell⟩ := hrel
        by_cases hql : q < xs.length
        · obtain ⟨g, rfl, hg, hc⟩ := hcell q hql
          have hym : xs.getD q 0 ∈ xs := getD_mem hql
          have hyl := hR.out.kid_lt (y := xs.getD q 0) hlt (by rw [HXS.out]; exact hym)
          have hyu := (hR.out.kid_iff hlt hyl.2).1 (by rw [HXS.out]; exact hym)
          have hfree := upw_free hR.out hlt HXS.out hql
          have hst := fun y => upw_step (S := sz l) (i := i) hql y
          obtain ⟨y, hy⟩ : ∃ y, xs.getD q 0 = y := ⟨_, rfl⟩
          rw [hy] at hc hyl hyu hfree hst
          have s1 := hup.cell hyl.2
          rw [hfree] at s1
          have hul := hup.lt
          have HUP := Lib.hid (HU.out wr hbel y hyl.2 i hyu)
          have y1 : (1 : Int) ≤ (y : Int) := by omega
          have y2 : (y : Int) < (n : Int) := by omega
          have e1 : ((i : Int) != (i : Int)) = false := by simp
          have hyn := hyl.2
          have hst' := Lib.hid hst
          replace hup := Lib.hid hup
          replace hbel := Lib.hid hbel
          replace hcell := Lib.hid hcell
          replace s1 : wr.cell? ⟨w.heap.size, y, none⟩ = some (.int .i64 0) := s1
          clear hyu hfree hst hy hym
          go_wp2_with fail
          refine HUP.out.mono ?_
          rintro e w3 ⟨rfl, hb3⟩
          have hup3 := hup.out.of_block (hb3.block _ hul)
          have t1 := cell_carry hb3 s1
          have t2 := hup3.frozen y
          have c3 := cell_carry hb3 hc
          have HS : Hid (OIn (sz l) n i xs (some ⟨g, 0, none⟩) w (.int .i64 ((q + 1 : Nat) : Int)) (w3.setCell ⟨w.heap.size, y, none⟩ (.int .i64 ((i : Int) + 1)))) := Lib.hid ⟨q + 1, hql, rfl, (hup3.set y (.int .i64 ((i : Int) + 1))).congr fun z _ => by
              rw [hst'.out z]
              by_cases e : z = y
              · rw [if_pos e, if_pos e]; simp
              · rw [if_neg e, if_neg e], (below_step hbel.out hb3).setCell (Nat.le_refl _) _, fun t ht => by
              obtain ⟨g', h1, h2, h3⟩ := hcell.out t ht
              cases h1
              refine ⟨g, rfl, h2, ?_⟩
              rw [cell_other _ _ _ (by omega)]
              exact cell_carry hb3 h3⟩
          clear hb3 hup3 hup hbel hcell s1 HUP hc
          go_wp2_with fail
          go_roundw
          case rel => exact HS.out
          case measure => simp [intOf]; omega
        · have hqe : q = xs.length := by omega
          subst hqe
          have HN := Lib.hid (hup.congr (g := fun y => itv (upv (sz l) (i + 1) y)) fun y hy => by rw [upw_all hR.out hlt HXS.out y hy])
          replace hbel := Lib.hid hbel
          clear hup hcell
          go_wp2_with fail
          go_roundw
          case rel => exact ⟨i + 1, hlt, by go_num, HN.out, hbel.out⟩
          case measure => simp [intOf]; omega
    · have hin : i = n := by omega
      subst hin
      have HV : Hid (∀ y, 1 ≤ y → y < i → ∃ v : Nat, wr.cell? ⟨w.heap.size, y, none⟩ = some (itv v) ∧ v ≠ 0) := Lib.hid fun y h1 h2 => ⟨_, hup.cell h2, by
        obtain ⟨j, hj, hjy⟩ := hR.out.up_some (y := y) (by omega) h2
        rw [upv, if_pos (by omega)]
        omega⟩
      have HU0 := Lib.hid (HU.out wr hbel 0 hpos (-1) (up_zero _))
      replace hbel := Lib.hid hbel
      clear hup
      go_wp2_with fail
      go_loop [7] (fun j => ∃ y : Nat, 1 ≤ y ∧ y ≤ i ∧ j = .int .i64 y) (fun j => i - (intOf j).toNat)
      case atStart => exact ⟨1, Nat.le_refl _, hpos, rfl⟩
      case round =>
        obtain ⟨y, hy1, hy2, rfl⟩ := hrel
        by_cases hyl : y < i
        · obtain ⟨v, hv, hv0⟩ := HV.out y hy1 hyl
          have e1 : ((v : Int) == 0) = false := by rw [beq_eq_false_iff_ne]; omega
          clear hv0
          go_wp2_with fail
          go_round
          case rel => exact ⟨y + 1, by omega, hyl, by go_num⟩
          case measure => simp [intOf]; omega
        · go_wp2_with fail
          refine HU0.out.mono ?_
          rintro e w5 ⟨rfl, hb5⟩
          replace hb5 := Lib.hid (below_step hbel.out hb5)
          go_wp2_with fail
          refine (HA.out _).mono ?_
          rintro e w6 ⟨rfl, hb6⟩
          replace hb6 := Lib.hid (below_step hb5.out hb6)
          go_wp2_with fail
          go_ret
          exact ⟨rfl, hb6.out⟩

theorem treeOnce_walk (a : Option Addr) (n cap : Nat) (l : List Nd) (w : World) (hn : l.length = n) (hm : n ≤ maxLen) (hr : Row w a l) : Calls Try.prog 5 #[.slice a n cap] w fun e w' => e = .returned (.bool true) ∧ Below w.heap.size w w' := by
  unfold maxLen at hm
  by_cases h : 100 < n
  · exact treeOnce_no a n cap l w hn hm hr (.inl h)
  · cases hq : rightB (sz l) n with
    | false => exact treeOnce_no a n cap l w hn hm hr (.inr ⟨by omega, hq⟩)
    | true =>
      have hR := rightB_iff.1 hq
      have hpos := hR.pos
      have hrow := hr
      obtain ⟨b, o, rfl, _⟩ := hr.block (by intro h; rw [h] at hn; simp at hn; omega)
      exact treeOnce_yes b o n cap l w (Lib.hid hn) (by omega) (Lib.hid hR) (Lib.hid hrow)

end Go.Proofs.Ytogpfbmkbnooeaa
