/-
  Contract of the document's family, the kinds 1, 2, 6, 27, 3, 5, 20. Conditions: rows of at most 1000000 nodes, of one tree, a place within.
-/
import Derived.Test.YtogpfbmkbnooeaaFamA
namespace Go.Proofs.Ytogpfbmkbnooeaa
open Go.RowKit Go.Sort
set_option linter.unusedVariables false
set_option linter.unusedSimpArgs false

set_option maxHeartbeats 8000000 in
set_option maxRecDepth 100000 in
theorem fam_1 (b o n cap : Nat) (l : List Nd) (w : World) (hn : Hid (l.length = n)) (hl : n ≤ 1000000) (hr : Hid (RowB w b o l)) (k : Nat) (hk : k < n) (hok : Hid (Ok (sz l) n k)) (xs : List Nat) (hxs : Hid (kidsOf (sz l) k = xs)) (hxn : Hid (∀ x, x ∈ xs → x < n)) (hxl : xs.length ≤ 1000000)
    (num : Int) (hnum : i64In num) (hkd : Hid (kindAt l k = 1)) (hnm : Hid ((nd l k).num = num)) (q : Bool) (hq : Hid (famB (decide (k = 0)) 1 num (xs.map (kindAt l)) = q)) :
    Calls Try.prog 34 #[.slice (some ⟨b, o, none⟩) n cap, .int .i64 (k : Nat)] w fun e w' => e = .returned (.bool q) ∧ Below w.heap.size w w' := by
  have HC0 := Lib.hid (fun w2 (h : Below w.heap.size w w2) => show w2.cell? ⟨b, o + k * 6, none⟩ = some (.int .u8 1) by
    rw [((hr.out.carry h) k (by rw [hn.out]; exact hk)).1.c0, show (nd l k).kind = 1 from hkd.out]; rfl)
  have HC4 := Lib.hid (fun w2 (h : Below w.heap.size w w2) => show w2.cell? ⟨b, o + k * 6 + 4, none⟩ = some (.int .i64 num) by
    rw [((hr.out.carry h) k (by rw [hn.out]; exact hk)).1.c4, hnm.out])
  have HKI := Lib.hid (rkids_row b o n cap l w hn hl hr k hk hok xs hxs)
  clear hkd hnm
  go_enter Try.func34, Try.ntmps34
  go_wp2_with fail
  refine HKI.out.mono ?_
  rintro e w1 ⟨v, rfl, hown, hb1⟩
  obtain ⟨a', cap', rfl, hcell⟩ := ownI_open hown
  replace hcell := Lib.hid hcell
  replace hb1 := Lib.hid hb1
  clear hown HKI
  go_wp2_with fail
  go_loopw [6, 17] (fun v j wr => FRel l xs w1 v j wr) (fun _ j _ => xs.length - (intOf j).toNat)
  case atStart => exact ⟨0, Nat.zero_le _, rfl, own_lit [] rfl (Nat.le_refl _) 0 rfl (by decide), below_alloc _ _⟩
  case round =>
    obtain ⟨i, hi, rfl, ho, hbel⟩ := hrel
    have hsz := hbel.size
    by_cases hlt : i < xs.length
    · obtain ⟨g, rfl, _, hc⟩ := hcell.out i hlt
      have hxm := hxn.out _ (getD_mem hlt)
      obtain ⟨x, hx⟩ : ∃ x, xs.getD i 0 = x := ⟨_, rfl⟩
      rw [hx] at hc hxm
      have hc' := cell_carry hbel hc
      obtain ⟨hat, hwf⟩ := (hr.out.carry (below_step hb1.out hbel)) x (by rw [hn.out]; exact hxm)
      obtain ⟨c0, c1, c2, c3, c4, c5⟩ := hat
      obtain ⟨kd, ln, cl, s, nm, tx, hN⟩ : ∃ kd ln cl s nm tx, nd l x = ⟨kd, ln, cl, s, nm, tx⟩ := ⟨_, _, _, _, _, _, rfl⟩
      rw [hN] at c0 c1 c2 c3 c4 c5
      simp only at c0 c1 c2 c3 c4 c5
      have hkk : srt (kindAt l (xs.getD i 0)) = srt kd := by rw [hx, kindAt, hN]
      replace hkk := Lib.hid hkk
      have HB := Lib.hid hbel
      replace ho := Lib.hid ho
      clear hc hN hx hwf hbel
      go_wp2_with fail
      refine (sort_any ⟨kd, ln, cl, s, nm, tx⟩ _).mono ?_
      rintro e w2 ⟨rfl, hb2⟩
      replace ho := Lib.hid (own_carry ho.out hb2)
      have hsz2 := hb2.size
      replace hb2 := Lib.hid (below_step HB.out hb2)
      clear HB
      have hlen : ((xs.take i).map fun x => srt (kindAt l x)).length + 1 ≤ 100000000 := by simp; omega
      go_wp2_with (at_builtin; refine wpList_app rfl _ _ rfl w1.heap.size u6 _ [srt kd] 1 rfl rfl rfl rfl ho.out (by omega) hlen ?_; intro v2 w3 ho2 hb3; replace ho2 := Lib.hid ho2; replace hb3 := Lib.hid (hb2.out.trans hb3))
      go_roundw
      case rel => exact FRel.step (wr := wr) hlt (by go_num) (by rw [hkk.out]; exact ho2.out) hb3.out
      case measure => simp [intOf]; omega
    · have hil : i = xs.length := by omega
      subst hil
      rw [List.take_length] at ho
      have htx := own_text ho
      have hS : (xs.map fun x => srt (kindAt l x)) = (xs.map (kindAt l)).map srt := by simp
      rw [hS] at htx
      have HC0' := HC0.out wr (below_step hb1.out hbel)
      have HC4' := HC4.out wr (below_step hb1.out hbel)
      have HB := Lib.hid (below_step hb1.out hbel)
      have hHd : Hid ((xs.map (kindAt l)).headD 0 = (if xs.length = 0 then 0 else kindAt l (xs.getD 0 0))) := Lib.hid (by cases xs <;> rfl)
      obtain ⟨ks, hks⟩ : ∃ ks, xs.map (kindAt l) = ks := ⟨_, rfl⟩
      have hkl : ks.length = xs.length := by rw [← hks, List.length_map]
      rw [hks] at htx hHd hq
      replace hkl := Lib.hid hkl
      obtain ⟨T, hT⟩ : ∃ T, bs (ks.map srt) = T := ⟨_, rfl⟩
      rw [hT] at htx
      have hTl : T.toList = ks.map srt := by rw [ByteArray.toList_eq, ← hT, bs_list]
      replace hTl := Lib.hid hTl
      have hTz : T.size = xs.length := by rw [← hT, bs_size, List.length_map, hkl.out]
      replace hTz := Lib.hid hTz
      obtain ⟨fk, hfk⟩ : ∃ fk, hdK ks = fk := ⟨_, rfl⟩
      have hfk0 := hHd.out
      rw [show ks.headD 0 = fk from hfk] at hfk0
      clear hS hks hHd hlt ho
      by_cases hx0 : xs.length = 0
      · rw [if_pos hx0] at hfk0
        subst hfk0
        have e0 : ¬ (0 : Int) < (xs.length : Int) := by omega
        rw [hx0] at hTz
        have d0 := fun O => cell_alloc HC0' O
        have d4 := fun O => cell_alloc HC4' O
        replace hT := Lib.hid hT
        replace hfk := Lib.hid hfk
        clear HC0' HC4' hbel
        by_cases hk0 : k = 0
        · have g0 : ((k : Int) == 0) = true := by rw [hk0]; rfl
          have HO := Lib.hid (fun w => only_any T 100 w q (by rw [hTz.out]; omega) (Lib.hid (by rw [← ByteArray.toList_eq, hTl.out]; have := hq.out; rw [famB, decide_eq_true hk0, Bool.true_and] at this; exact this)))
          clear hk0
          go_wp2_with fail
          refine (HO.out _).mono ?_
          rintro e w9 ⟨rfl, rfl⟩
          go_wp2_with fail
          go_ret
          exact ⟨rfl, below_step HB.out (below_alloc wr _)⟩
        · have g0 : ((k : Int) == 0) = false := by rw [beq_eq_false_iff_ne]; omega
          obtain rfl : q = false := by rw [← hq.out]; simp [famB, hk0]
          go_wp2_with fail
          go_ret
          exact ⟨rfl, below_step HB.out (below_alloc wr _)⟩
      · rw [if_neg hx0] at hfk0
        obtain ⟨g, rfl, _, hc⟩ := hcell.out 0 (by omega)
        have hxm := hxn.out _ (getD_mem (x := xs) (k := 0) (by omega))
        obtain ⟨x, hx⟩ : ∃ x, xs.getD 0 0 = x := ⟨_, rfl⟩
        rw [hx] at hc hxm hfk0
        have hc' := cell_carry hbel hc
        obtain ⟨hat, hwf⟩ := (hr.out.carry HB.out) x (by rw [hn.out]; exact hxm)
        obtain ⟨c0, c1, c2, c3, c4, c5⟩ := hat
        obtain ⟨kd, ln, cl, s, nm, tx, hN⟩ : ∃ kd ln cl s nm tx, nd l x = ⟨kd, ln, cl, s, nm, tx⟩ := ⟨_, _, _, _, _, _, rfl⟩
        rw [hN] at c0 c1 c2 c3 c4 c5
        simp only at c0 c1 c2 c3 c4 c5
        obtain rfl : fk = kd := by rw [hfk0, kindAt, hN]
        have hx1 : 0 < xs.length := by omega
        have e0 : (0 : Int) < (xs.length : Int) := by omega
        replace hT := Lib.hid hT
        replace hfk := Lib.hid hfk
        have d0 := fun O => cell_alloc HC0' O
        have d4 := fun O => cell_alloc HC4' O
        replace hc' := fun O => cell_alloc hc' O
        replace c0 := fun O => cell_alloc c0 O
        replace c1 := fun O => cell_alloc c1 O
        replace c2 := fun O => cell_alloc c2 O
        replace c3 := fun O => cell_alloc c3 O
        replace c4 := fun O => cell_alloc c4 O
        replace c5 := fun O => cell_alloc c5 O
        clear hc hN hx hfk0 hwf hx0 HC0' HC4' hbel
        by_cases hk0 : k = 0
        · have g0 : ((k : Int) == 0) = true := by rw [hk0]; rfl
          have HO := Lib.hid (fun w => only_any T 100 w q (by rw [hTz.out]; omega) (Lib.hid (by rw [← ByteArray.toList_eq, hTl.out]; have := hq.out; rw [famB, decide_eq_true hk0, Bool.true_and] at this; exact this)))
          clear hk0
          go_wp2_with fail
          refine (HO.out _).mono ?_
          rintro e w9 ⟨rfl, rfl⟩
          go_wp2_with fail
          go_ret
          exact ⟨rfl, below_step HB.out (below_alloc wr _)⟩
        · have g0 : ((k : Int) == 0) = false := by rw [beq_eq_false_iff_ne]; omega
          obtain rfl : q = false := by rw [← hq.out]; simp [famB, hk0]
          go_wp2_with fail
          go_ret
          exact ⟨rfl, below_step HB.out (below_alloc wr _)⟩

set_option maxHeartbeats 8000000 in
set_option maxRecDepth 100000 in
theorem fam_2 (b o n cap : Nat) (l : List Nd) (w : World) (hn : Hid (l.length = n)) (hl : n ≤ 1000000) (hr : Hid (RowB w b o l)) (k : Nat) (hk : k < n) (hok : Hid (Ok (sz l) n k)) (xs : List Nat) (hxs : Hid (kidsOf (sz l) k = xs)) (hxn : Hid (∀ x, x ∈ xs → x < n)) (hxl : xs.length ≤ 1000000)
    (num : Int) (hnum : i64In num) (hkd : Hid (kindAt l k = 2)) (hnm : Hid ((nd l k).num = num)) (q : Bool) (hq : Hid (famB (decide (k = 0)) 2 num (xs.map (kindAt l)) = q)) :
    Calls Try.prog 34 #[.slice (some ⟨b, o, none⟩) n cap, .int .i64 (k : Nat)] w fun e w' => e = .returned (.bool q) ∧ Below w.heap.size w w' := by
  have HC0 := Lib.hid (fun w2 (h : Below w.heap.size w w2) => show w2.cell? ⟨b, o + k * 6, none⟩ = some (.int .u8 2) by
    rw [((hr.out.carry h) k (by rw [hn.out]; exact hk)).1.c0, show (nd l k).kind = 2 from hkd.out]; rfl)
  have HC4 := Lib.hid (fun w2 (h : Below w.heap.size w w2) => show w2.cell? ⟨b, o + k * 6 + 4, none⟩ = some (.int .i64 num) by
    rw [((hr.out.carry h) k (by rw [hn.out]; exact hk)).1.c4, hnm.out])
  have HKI := Lib.hid (rkids_row b o n cap l w hn hl hr k hk hok xs hxs)
  clear hkd hnm
  go_enter Try.func34, Try.ntmps34
  go_wp2_with fail
  refine HKI.out.mono ?_
  rintro e w1 ⟨v, rfl, hown, hb1⟩
  obtain ⟨a', cap', rfl, hcell⟩ := ownI_open hown
  replace hcell := Lib.hid hcell
  replace hb1 := Lib.hid hb1
  clear hown HKI
  go_wp2_with fail
  go_loopw [6, 17] (fun v j wr => FRel l xs w1 v j wr) (fun _ j _ => xs.length - (intOf j).toNat)
  case atStart => exact ⟨0, Nat.zero_le _, rfl, own_lit [] rfl (Nat.le_refl _) 0 rfl (by decide), below_alloc _ _⟩
  case round =>
    obtain ⟨i, hi, rfl, ho, hbel⟩ := hrel
    have hsz := hbel.size
    by_cases hlt : i < xs.length
    · obtain ⟨g, rfl, _, hc⟩ := hcell.out i hlt
      have hxm := hxn.out _ (getD_mem hlt)
      obtain ⟨x, hx⟩ : ∃ x, xs.getD i 0 = x := ⟨_, rfl⟩
      rw [hx] at hc hxm
      have hc' := cell_carry hbel hc
      obtain ⟨hat, hwf⟩ := (hr.out.carry (below_step hb1.out hbel)) x (by rw [hn.out]; exact hxm)
      obtain ⟨c0, c1, c2, c3, c4, c5⟩ := hat
      obtain ⟨kd, ln, cl, s, nm, tx, hN⟩ : ∃ kd ln cl s nm tx, nd l x = ⟨kd, ln, cl, s, nm, tx⟩ := ⟨_, _, _, _, _, _, rfl⟩
      rw [hN] at c0 c1 c2 c3 c4 c5
      simp only at c0 c1 c2 c3 c4 c5
      have hkk : srt (kindAt l (xs.getD i 0)) = srt kd := by rw [hx, kindAt, hN]
      replace hkk := Lib.hid hkk
      have HB := Lib.hid hbel
      replace ho := Lib.hid ho
      clear hc hN hx hwf hbel
      go_wp2_with fail
      refine (sort_any ⟨kd, ln, cl, s, nm, tx⟩ _).mono ?_
      rintro e w2 ⟨rfl, hb2⟩
      replace ho := Lib.hid (own_carry ho.out hb2)
      have hsz2 := hb2.size
      replace hb2 := Lib.hid (below_step HB.out hb2)
      clear HB
      have hlen : ((xs.take i).map fun x => srt (kindAt l x)).length + 1 ≤ 100000000 := by simp; omega
      go_wp2_with (at_builtin; refine wpList_app rfl _ _ rfl w1.heap.size u6 _ [srt kd] 1 rfl rfl rfl rfl ho.out (by omega) hlen ?_; intro v2 w3 ho2 hb3; replace ho2 := Lib.hid ho2; replace hb3 := Lib.hid (hb2.out.trans hb3))
      go_roundw
      case rel => exact FRel.step (wr := wr) hlt (by go_num) (by rw [hkk.out]; exact ho2.out) hb3.out
      case measure => simp [intOf]; omega
    · have hil : i = xs.length := by omega
      subst hil
      rw [List.take_length] at ho
      have htx := own_text ho
      have hS : (xs.map fun x => srt (kindAt l x)) = (xs.map (kindAt l)).map srt := by simp
      rw [hS] at htx
      have HC0' := HC0.out wr (below_step hb1.out hbel)
      have HC4' := HC4.out wr (below_step hb1.out hbel)
      have HB := Lib.hid (below_step hb1.out hbel)
      have hHd : Hid ((xs.map (kindAt l)).headD 0 = (if xs.length = 0 then 0 else kindAt l (xs.getD 0 0))) := Lib.hid (by cases xs <;> rfl)
      obtain ⟨ks, hks⟩ : ∃ ks, xs.map (kindAt l) = ks := ⟨_, rfl⟩
      have hkl : ks.length = xs.length := by rw [← hks, List.length_map]
      rw [hks] at htx hHd hq
      replace hkl := Lib.hid hkl
      obtain ⟨T, hT⟩ : ∃ T, bs (ks.map srt) = T := ⟨_, rfl⟩
      rw [hT] at htx
      have hTl : T.toList = ks.map srt := by rw [ByteArray.toList_eq, ← hT, bs_list]
      replace hTl := Lib.hid hTl
      have hTz : T.size = xs.length := by rw [← hT, bs_size, List.length_map, hkl.out]
      replace hTz := Lib.hid hTz
      obtain ⟨fk, hfk⟩ : ∃ fk, hdK ks = fk := ⟨_, rfl⟩
      have hfk0 := hHd.out
      rw [show ks.headD 0 = fk from hfk] at hfk0
      clear hS hks hHd hlt ho
      by_cases hx0 : xs.length = 0
      · rw [if_pos hx0] at hfk0
        subst hfk0
        have e0 : ¬ (0 : Int) < (xs.length : Int) := by omega
        rw [hx0] at hTz
        have d0 := fun O => cell_alloc HC0' O
        have d4 := fun O => cell_alloc HC4' O
        replace hT := Lib.hid hT
        replace hfk := Lib.hid hfk
        clear HC0' HC4' hbel
        have HO := Lib.hid (fun w => only_any T 102 w q (by rw [hTz.out]; omega) (Lib.hid (by rw [← ByteArray.toList_eq, hTl.out]; exact hq.out)))
        go_wp2_with fail
        refine (HO.out _).mono ?_
        rintro e w9 ⟨rfl, rfl⟩
        go_wp2_with fail
        go_ret
        exact ⟨rfl, below_step HB.out (below_alloc wr _)⟩
      · rw [if_neg hx0] at hfk0
        obtain ⟨g, rfl, _, hc⟩ := hcell.out 0 (by omega)
        have hxm := hxn.out _ (getD_mem (x := xs) (k := 0) (by omega))
        obtain ⟨x, hx⟩ : ∃ x, xs.getD 0 0 = x := ⟨_, rfl⟩
        rw [hx] at hc hxm hfk0
        have hc' := cell_carry hbel hc
        obtain ⟨hat, hwf⟩ := (hr.out.carry HB.out) x (by rw [hn.out]; exact hxm)
        obtain ⟨c0, c1, c2, c3, c4, c5⟩ := hat
        obtain ⟨kd, ln, cl, s, nm, tx, hN⟩ : ∃ kd ln cl s nm tx, nd l x = ⟨kd, ln, cl, s, nm, tx⟩ := ⟨_, _, _, _, _, _, rfl⟩
        rw [hN] at c0 c1 c2 c3 c4 c5
        simp only at c0 c1 c2 c3 c4 c5
        obtain rfl : fk = kd := by rw [hfk0, kindAt, hN]
        have hx1 : 0 < xs.length := by omega
        have e0 : (0 : Int) < (xs.length : Int) := by omega
        replace hT := Lib.hid hT
        replace hfk := Lib.hid hfk
        have d0 := fun O => cell_alloc HC0' O
        have d4 := fun O => cell_alloc HC4' O
        replace hc' := fun O => cell_alloc hc' O
        replace c0 := fun O => cell_alloc c0 O
        replace c1 := fun O => cell_alloc c1 O
        replace c2 := fun O => cell_alloc c2 O
        replace c3 := fun O => cell_alloc c3 O
        replace c4 := fun O => cell_alloc c4 O
        replace c5 := fun O => cell_alloc c5 O
        clear hc hN hx hfk0 hwf hx0 HC0' HC4' hbel
        have HO := Lib.hid (fun w => only_any T 102 w q (by rw [hTz.out]; omega) (Lib.hid (by rw [← ByteArray.toList_eq, hTl.out]; exact hq.out)))
        go_wp2_with fail
        refine (HO.out _).mono ?_
        rintro e w9 ⟨rfl, rfl⟩
        go_wp2_with fail
        go_ret
        exact ⟨rfl, below_step HB.out (below_alloc wr _)⟩

set_option maxHeartbeats 8000000 in
set_option maxRecDepth 100000 in
theorem fam_6 (b o n cap : Nat) (l : List Nd) (w : World) (hn : Hid (l.length = n)) (hl : n ≤ 1000000) (hr : Hid (RowB w b o l)) (k : Nat) (hk : k < n) (hok : Hid (Ok (sz l) n k)) (xs : List Nat) (hxs : Hid (kidsOf (sz l) k = xs)) (hxn : Hid (∀ x, x ∈ xs → x < n)) (hxl : xs.length ≤ 1000000)
    (num : Int) (hnum : i64In num) (hkd : Hid (kindAt l k = 6)) (hnm : Hid ((nd l k).num = num)) (q : Bool) (hq : Hid (famB (decide (k = 0)) 6 num (xs.map (kindAt l)) = q)) :
    Calls Try.prog 34 #[.slice (some ⟨b, o, none⟩) n cap, .int .i64 (k : Nat)] w fun e w' => e = .returned (.bool q) ∧ Below w.heap.size w w' := by
  have HC0 := Lib.hid (fun w2 (h : Below w.heap.size w w2) => show w2.cell? ⟨b, o + k * 6, none⟩ = some (.int .u8 6) by
    rw [((hr.out.carry h) k (by rw [hn.out]; exact hk)).1.c0, show (nd l k).kind = 6 from hkd.out]; rfl)
  have HC4 := Lib.hid (fun w2 (h : Below w.heap.size w w2) => show w2.cell? ⟨b, o + k * 6 + 4, none⟩ = some (.int .i64 num) by
    rw [((hr.out.carry h) k (by rw [hn.out]; exact hk)).1.c4, hnm.out])
  have HKI := Lib.hid (rkids_row b o n cap l w hn hl hr k hk hok xs hxs)
  clear hkd hnm
  go_enter Try.func34, Try.ntmps34
  go_wp2_with fail
  refine HKI.out.mono ?_
  rintro e w1 ⟨v, rfl, hown, hb1⟩
  obtain ⟨a', cap', rfl, hcell⟩ := ownI_open hown
  replace hcell := Lib.hid hcell
  replace hb1 := Lib.hid hb1
  clear hown HKI
  go_wp2_with fail
  go_loopw [6, 17] (fun v j wr => FRel l xs w1 v j wr) (fun _ j _ => xs.length - (intOf j).toNat)
  case atStart => exact ⟨0, Nat.zero_le _, rfl, own_lit [] rfl (Nat.le_refl _) 0 rfl (by decide), below_alloc _ _⟩
  case round =>
    obtain ⟨i, hi, rfl, ho, hbel⟩ := hrel
    have hsz := hbel.size
    by_cases hlt : i < xs.length
    · obtain ⟨g, rfl, _, hc⟩ := hcell.out i hlt
      have hxm := hxn.out _ (getD_mem hlt)
      obtain ⟨x, hx⟩ : ∃ x, xs.getD i 0 = x := ⟨_, rfl⟩
      rw [hx] at hc hxm
      have hc' := cell_carry hbel hc
      obtain ⟨hat, hwf⟩ := (hr.out.carry (below_step hb1.out hbel)) x (by rw [hn.out]; exact hxm)
      obtain ⟨c0, c1, c2, c3, c4, c5⟩ := hat
      obtain ⟨kd, ln, cl, s, nm, tx, hN⟩ : ∃ kd ln cl s nm tx, nd l x = ⟨kd, ln, cl, s, nm, tx⟩ := ⟨_, _, _, _, _, _, rfl⟩
      rw [hN] at c0 c1 c2 c3 c4 c5
      simp only at c0 c1 c2 c3 c4 c5
      have hkk : srt (kindAt l (xs.getD i 0)) = srt kd := by rw [hx, kindAt, hN]
      replace hkk := Lib.hid hkk
      have HB := Lib.hid hbel
      replace ho := Lib.hid ho
      clear hc hN hx hwf hbel
      go_wp2_with fail
      refine (sort_any ⟨kd, ln, cl, s, nm, tx⟩ _).mono ?_
      rintro e w2 ⟨rfl, hb2⟩
      replace ho := Lib.hid (own_carry ho.out hb2)
      have hsz2 := hb2.size
      replace hb2 := Lib.hid (below_step HB.out hb2)
      clear HB
      have hlen : ((xs.take i).map fun x => srt (kindAt l x)).length + 1 ≤ 100000000 := by simp; omega
      go_wp2_with (at_builtin; refine wpList_app rfl _ _ rfl w1.heap.size u6 _ [srt kd] 1 rfl rfl rfl rfl ho.out (by omega) hlen ?_; intro v2 w3 ho2 hb3; replace ho2 := Lib.hid ho2; replace hb3 := Lib.hid (hb2.out.trans hb3))
      go_roundw
      case rel => exact FRel.step (wr := wr) hlt (by go_num) (by rw [hkk.out]; exact ho2.out) hb3.out
      case measure => simp [intOf]; omega
    · have hil : i = xs.length := by omega
      subst hil
      rw [List.take_length] at ho
      have htx := own_text ho
      have hS : (xs.map fun x => srt (kindAt l x)) = (xs.map (kindAt l)).map srt := by simp
      rw [hS] at htx
      have HC0' := HC0.out wr (below_step hb1.out hbel)
      have HC4' := HC4.out wr (below_step hb1.out hbel)
      have HB := Lib.hid (below_step hb1.out hbel)
      have hHd : Hid ((xs.map (kindAt l)).headD 0 = (if xs.length = 0 then 0 else kindAt l (xs.getD 0 0))) := Lib.hid (by cases xs <;> rfl)
      obtain ⟨ks, hks⟩ : ∃ ks, xs.map (kindAt l) = ks := ⟨_, rfl⟩
      have hkl : ks.length = xs.length := by rw [← hks, List.length_map]
      rw [hks] at htx hHd hq
      replace hkl := Lib.hid hkl
      obtain ⟨T, hT⟩ : ∃ T, bs (ks.map srt) = T := ⟨_, rfl⟩
      rw [hT] at htx
      have hTl : T.toList = ks.map srt := by rw [ByteArray.toList_eq, ← hT, bs_list]
      replace hTl := Lib.hid hTl
      have hTz : T.size = xs.length := by rw [← hT, bs_size, List.length_map, hkl.out]
      replace hTz := Lib.hid hTz
      obtain ⟨fk, hfk⟩ : ∃ fk, hdK ks = fk := ⟨_, rfl⟩
      have hfk0 := hHd.out
      rw [show ks.headD 0 = fk from hfk] at hfk0
      clear hS hks hHd hlt ho
      by_cases hx0 : xs.length = 0
      · rw [if_pos hx0] at hfk0
        subst hfk0
        have e0 : ¬ (0 : Int) < (xs.length : Int) := by omega
        rw [hx0] at hTz
        have d0 := fun O => cell_alloc HC0' O
        have d4 := fun O => cell_alloc HC4' O
        replace hT := Lib.hid hT
        replace hfk := Lib.hid hfk
        clear HC0' HC4' hbel
        have HO := Lib.hid (fun w => only_any T 115 w q (by rw [hTz.out]; omega) (Lib.hid (by rw [← ByteArray.toList_eq, hTl.out]; exact hq.out)))
        go_wp2_with fail
        refine (HO.out _).mono ?_
        rintro e w9 ⟨rfl, rfl⟩
        go_wp2_with fail
        go_ret
        exact ⟨rfl, below_step HB.out (below_alloc wr _)⟩
      · rw [if_neg hx0] at hfk0
        obtain ⟨g, rfl, _, hc⟩ := hcell.out 0 (by omega)
        have hxm := hxn.out _ (getD_mem (x := xs) (k := 0) (by omega))
        obtain ⟨x, hx⟩ : ∃ x, xs.getD 0 0 = x := ⟨_, rfl⟩
        rw [hx] at hc hxm hfk0
        have hc' := cell_carry hbel hc
        obtain ⟨hat, hwf⟩ := (hr.out.carry HB.out) x (by rw [hn.out]; exact hxm)
        obtain ⟨c0, c1, c2, c3, c4, c5⟩ := hat
        obtain ⟨kd, ln, cl, s, nm, tx, hN⟩ : ∃ kd ln cl s nm tx, nd l x = ⟨kd, ln, cl, s, nm, tx⟩ := ⟨_, _, _, _, _, _, rfl⟩
        rw [hN] at c0 c1 c2 c3 c4 c5
        simp only at c0 c1 c2 c3 c4 c5
        obtain rfl : fk = kd := by rw [hfk0, kindAt, hN]
        have hx1 : 0 < xs.length := by omega
        have e0 : (0 : Int) < (xs.length : Int) := by omega
        replace hT := Lib.hid hT
        replace hfk := Lib.hid hfk
        have d0 := fun O => cell_alloc HC0' O
        have d4 := fun O => cell_alloc HC4' O
        replace hc' := fun O => cell_alloc hc' O
        replace c0 := fun O => cell_alloc c0 O
        replace c1 := fun O => cell_alloc c1 O
        replace c2 := fun O => cell_alloc c2 O
        replace c3 := fun O => cell_alloc c3 O
        replace c4 := fun O => cell_alloc c4 O
        replace c5 := fun O => cell_alloc c5 O
        clear hc hN hx hfk0 hwf hx0 HC0' HC4' hbel
        have HO := Lib.hid (fun w => only_any T 115 w q (by rw [hTz.out]; omega) (Lib.hid (by rw [← ByteArray.toList_eq, hTl.out]; exact hq.out)))
        go_wp2_with fail
        refine (HO.out _).mono ?_
        rintro e w9 ⟨rfl, rfl⟩
        go_wp2_with fail
        go_ret
        exact ⟨rfl, below_step HB.out (below_alloc wr _)⟩

set_option maxHeartbeats 8000000 in
set_option maxRecDepth 100000 in
theorem fam_27 (b o n cap : Nat) (l : List Nd) (w : World) (hn : Hid (l.length = n)) (hl : n ≤ 1000000) (hr : Hid (RowB w b o l)) (k : Nat) (hk : k < n) (hok : Hid (Ok (sz l) n k)) (xs : List Nat) (hxs : Hid (kidsOf (sz l) k = xs)) (hxn : Hid (∀ x, x ∈ xs → x < n)) (hxl : xs.length ≤ 1000000)
    (num : Int) (hnum : i64In num) (hkd : Hid (kindAt l k = 27)) (hnm : Hid ((nd l k).num = num)) (q : Bool) (hq : Hid (famB (decide (k = 0)) 27 num (xs.map (kindAt l)) = q)) :
    Calls Try.prog 34 #[.slice (some ⟨b, o, none⟩) n cap, .int .i64 (k : Nat)] w fun e w' => e = .returned (.bool q) ∧ Below w.heap.size w w' := by
  have HC0 := Lib.hid (fun w2 (h : Below w.heap.size w w2) => show w2.cell? ⟨b, o + k * 6, none⟩ = some (.int .u8 27) by
    rw [((hr.out.carry h) k (by rw [hn.out]; exact hk)).1.c0, show (nd l k).kind = 27 from hkd.out]; rfl)
  have HC4 := Lib.hid (fun w2 (h : Below w.heap.size w w2) => show w2.cell? ⟨b, o + k * 6 + 4, none⟩ = some (.int .i64 num) by
    rw [((hr.out.carry h) k (by rw [hn.out]; exact hk)).1.c4, hnm.out])
  have HKI := Lib.hid (rkids_row b o n cap l w hn hl hr k hk hok xs hxs)
  clear hkd hnm
  go_enter Try.func34, Try.ntmps34
  go_wp2_with fail
  refine HKI.out.mono ?_
  rintro e w1 ⟨v, rfl, hown, hb1⟩
  obtain ⟨a', cap', rfl, hcell⟩ := ownI_open hown
  replace hcell := Lib.hid hcell
  replace hb1 := Lib.hid hb1
  clear hown HKI
  go_wp2_with fail
  go_loopw [6, 17] (fun v j wr => FRel l xs w1 v j wr) (fun _ j _ => xs.length - (intOf j).toNat)
  case atStart => exact ⟨0, Nat.zero_le _, rfl, own_lit [] rfl (Nat.le_refl _) 0 rfl (by decide), below_alloc _ _⟩
  case round =>
    obtain ⟨i, hi, rfl, ho, hbel⟩ := hrel
    have hsz := hbel.size
    by_cases hlt : i < xs.length
    · obtain ⟨g, rfl, _, hc⟩ := hcell.out i hlt
      have hxm := hxn.out _ (getD_mem hlt)
      obtain ⟨x, hx⟩ : ∃ x, xs.getD i 0 = x := ⟨_, rfl⟩
      rw [hx] at hc hxm
      have hc' := cell_carry hbel hc
      obtain ⟨hat, hwf⟩ := (hr.out.carry (below_step hb1.out hbel)) x (by rw [hn.out]; exact hxm)
      obtain ⟨c0, c1, c2, c3, c4, c5⟩ := hat
      obtain ⟨kd, ln, cl, s, nm, tx, hN⟩ : ∃ kd ln cl s nm tx, nd l x = ⟨kd, ln, cl, s, nm, tx⟩ := ⟨_, _, _, _, _, _, rfl⟩
      rw [hN] at c0 c1 c2 c3 c4 c5
      simp only at c0 c1 c2 c3 c4 c5
      have hkk : srt (kindAt l (xs.getD i 0)) = srt kd := by rw [hx, kindAt, hN]
      replace hkk := Lib.hid hkk
      have HB := Lib.hid hbel
      replace ho := Lib.hid ho
      clear hc hN hx hwf hbel
      go_wp2_with fail
      refine (sort_any ⟨kd, ln, cl, s, nm, tx⟩ _).mono ?_
      rintro e w2 ⟨rfl, hb2⟩
      replace ho := Lib.hid (own_carry ho.out hb2)
      have hsz2 := hb2.size
      replace hb2 := Lib.hid (below_step HB.out hb2)
      clear HB
      have hlen : ((xs.take i).map fun x => srt (kindAt l x)).length + 1 ≤ 100000000 := by simp; omega
      go_wp2_with (at_builtin; refine wpList_app rfl _ _ rfl w1.heap.size u6 _ [srt kd] 1 rfl rfl rfl rfl ho.out (by omega) hlen ?_; intro v2 w3 ho2 hb3; replace ho2 := Lib.hid ho2; replace hb3 := Lib.hid (hb2.out.trans hb3))
      go_roundw
      case rel => exact FRel.step (wr := wr) hlt (by go_num) (by rw [hkk.out]; exact ho2.out) hb3.out
      case measure => simp [intOf]; omega
    · have hil : i = xs.length := by omega
      subst hil
      rw [List.take_length] at ho
      have htx := own_text ho
      have hS : (xs.map fun x => srt (kindAt l x)) = (xs.map (kindAt l)).map srt := by simp
      rw [hS] at htx
      have HC0' := HC0.out wr (below_step hb1.out hbel)
      have HC4' := HC4.out wr (below_step hb1.out hbel)
      have HB := Lib.hid (below_step hb1.out hbel)
      have hHd : Hid ((xs.map (kindAt l)).headD 0 = (if xs.length = 0 then 0 else kindAt l (xs.getD 0 0))) := Lib.hid (by cases xs <;> rfl)
      obtain ⟨ks, hks⟩ : ∃ ks, xs.map (kindAt l) = ks := ⟨_, rfl⟩
      have hkl : ks.length = xs.length := by rw [← hks, List.length_map]
      rw [hks] at htx hHd hq
      replace hkl := Lib.hid hkl
      obtain ⟨T, hT⟩ : ∃ T, bs (ks.map srt) = T := ⟨_, rfl⟩
      rw [hT] at htx
      have hTl : T.toList = ks.map srt := by rw [ByteArray.toList_eq, ← hT, bs_list]
      replace hTl := Lib.hid hTl
      have hTz : T.size = xs.length := by rw [← hT, bs_size, List.length_map, hkl.out]
      replace hTz := Lib.hid hTz
      obtain ⟨fk, hfk⟩ : ∃ fk, hdK ks = fk := ⟨_, rfl⟩
      have hfk0 := hHd.out
      rw [show ks.headD 0 = fk from hfk] at hfk0
      clear hS hks hHd hlt ho
      by_cases hx0 : xs.length = 0
      · rw [if_pos hx0] at hfk0
        subst hfk0
        have e0 : ¬ (0 : Int) < (xs.length : Int) := by omega
        rw [hx0] at hTz
        have d0 := fun O => cell_alloc HC0' O
        have d4 := fun O => cell_alloc HC4' O
        replace hT := Lib.hid hT
        replace hfk := Lib.hid hfk
        clear HC0' HC4' hbel
        have HO := Lib.hid (fun w => only_any T 101 w q (by rw [hTz.out]; omega) (Lib.hid (by rw [← ByteArray.toList_eq, hTl.out]; exact hq.out)))
        go_wp2_with fail
        refine (HO.out _).mono ?_
        rintro e w9 ⟨rfl, rfl⟩
        go_wp2_with fail
        go_ret
        exact ⟨rfl, below_step HB.out (below_alloc wr _)⟩
      · rw [if_neg hx0] at hfk0
        obtain ⟨g, rfl, _, hc⟩ := hcell.out 0 (by omega)
        have hxm := hxn.out _ (getD_mem (x := xs) (k := 0) (by omega))
        obtain ⟨x, hx⟩ : ∃ x, xs.getD 0 0 = x := ⟨_, rfl⟩
        rw [hx] at hc hxm hfk0
        have hc' := cell_carry hbel hc
        obtain ⟨hat, hwf⟩ := (hr.out.carry HB.out) x (by rw [hn.out]; exact hxm)
        obtain ⟨c0, c1, c2, c3, c4, c5⟩ := hat
        obtain ⟨kd, ln, cl, s, nm, tx, hN⟩ : ∃ kd ln cl s nm tx, nd l x = ⟨kd, ln, cl, s, nm, tx⟩ := ⟨_, _, _, _, _, _, rfl⟩
        rw [hN] at c0 c1 c2 c3 c4 c5
        simp only at c0 c1 c2 c3 c4 c5
        obtain rfl : fk = kd := by rw [hfk0, kindAt, hN]
        have hx1 : 0 < xs.length := by omega
        have e0 : (0 : Int) < (xs.length : Int) := by omega
        replace hT := Lib.hid hT
        replace hfk := Lib.hid hfk
        have d0 := fun O => cell_alloc HC0' O
        have d4 := fun O => cell_alloc HC4' O
        replace hc' := fun O => cell_alloc hc' O
        replace c0 := fun O => cell_alloc c0 O
        replace c1 := fun O => cell_alloc c1 O
        replace c2 := fun O => cell_alloc c2 O
        replace c3 := fun O => cell_alloc c3 O
        replace c4 := fun O => cell_alloc c4 O
        replace c5 := fun O => cell_alloc c5 O
        clear hc hN hx hfk0 hwf hx0 HC0' HC4' hbel
        have HO := Lib.hid (fun w => only_any T 101 w q (by rw [hTz.out]; omega) (Lib.hid (by rw [← ByteArray.toList_eq, hTl.out]; exact hq.out)))
        go_wp2_with fail
        refine (HO.out _).mono ?_
        rintro e w9 ⟨rfl, rfl⟩
        go_wp2_with fail
        go_ret
        exact ⟨rfl, below_step HB.out (below_alloc wr _)⟩

set_option maxHeartbeats 8000000 in
set_option maxRecDepth 100000 in
theorem fam_3 (b o n cap : Nat) (l : List Nd) (w : World) (hn : Hid (l.length = n)) (hl : n ≤ 1000000) (hr : Hid (RowB w b o l)) (k : Nat) (hk : k < n) (hok : Hid (Ok (sz l) n k)) (xs : List Nat) (hxs : Hid (kidsOf (sz l) k = xs)) (hxn : Hid (∀ x, x ∈ xs → x < n)) (hxl : xs.length ≤ 1000000)
    (num : Int) (hnum : i64In num) (hkd : Hid (kindAt l k = 3)) (hnm : Hid ((nd l k).num = num)) (q : Bool) (hq : Hid (famB (decide (k = 0)) 3 num (xs.map (kindAt l)) = q)) :
    Calls Try.prog 34 #[.slice (some ⟨b, o, none⟩) n cap, .int .i64 (k : Nat)] w fun e w' => e = .returned (.bool q) ∧ Below w.heap.size w w' := by
  have HC0 := Lib.hid (fun w2 (h : Below w.heap.size w w2) => show w2.cell? ⟨b, o + k * 6, none⟩ = some (.int .u8 3) by
    rw [((hr.out.carry h) k (by rw [hn.out]; exact hk)).1.c0, show (nd l k).kind = 3 from hkd.out]; rfl)
  have HC4 := Lib.hid (fun w2 (h : Below w.heap.size w w2) => show w2.cell? ⟨b, o + k * 6 + 4, none⟩ = some (.int .i64 num) by
    rw [((hr.out.carry h) k (by rw [hn.out]; exact hk)).1.c4, hnm.out])
  have HKI := Lib.hid (rkids_row b o n cap l w hn hl hr k hk hok xs hxs)
  clear hkd hnm
  go_enter Try.func34, Try.ntmps34
  go_wp2_with fail
  refine HKI.out.mono ?_
  rintro e w1 ⟨v, rfl, hown, hb1⟩
  obtain ⟨a', cap', rfl, hcell⟩ := ownI_open hown
  replace hcell := Lib.hid hcell
  replace hb1 := Lib.hid hb1
  clear hown HKI
  go_wp2_with fail
  go_loopw [6, 17] (fun v j wr => FRel l xs w1 v j wr) (fun _ j _ => xs.length - (intOf j).toNat)
  case atStart => exact ⟨0, Nat.zero_le _, rfl, own_lit [] rfl (Nat.le_refl _) 0 rfl (by decide), below_alloc _ _⟩
  case round =>
    obtain ⟨i, hi, rfl, ho, hbel⟩ := hrel
    have hsz := hbel.size
    by_cases hlt : i < xs.length
    · obtain ⟨g, rfl, _, hc⟩ := hcell.out i hlt
      have hxm := hxn.out _ (getD_mem hlt)
      obtain ⟨x, hx⟩ : ∃ x, xs.getD i 0 = x := ⟨_, rfl⟩
      rw [hx] at hc hxm
      have hc' := cell_carry hbel hc
      obtain ⟨hat, hwf⟩ := (hr.out.carry (below_step hb1.out hbel)) x (by rw [hn.out]; exact hxm)
      obtain ⟨c0, c1, c2, c3, c4, c5⟩ := hat
      obtain ⟨kd, ln, cl, s, nm, tx, hN⟩ : ∃ kd ln cl s nm tx, nd l x = ⟨kd, ln, cl, s, nm, tx⟩ := ⟨_, _, _, _, _, _, rfl⟩
      rw [hN] at c0 c1 c2 c3 c4 c5
      simp only at c0 c1 c2 c3 c4 c5
      have hkk : srt (kindAt l (xs.getD i 0)) = srt kd := by rw [hx, kindAt, hN]
      replace hkk := Lib.hid hkk
      have HB := Lib.hid hbel
      replace ho := Lib.hid ho
      clear hc hN hx hwf hbel
      go_wp2_with fail
      refine (sort_any ⟨kd, ln, cl, s, nm, tx⟩ _).mono ?_
      rintro e w2 ⟨rfl, hb2⟩
      replace ho := Lib.hid (own_carry ho.out hb2)
      have hsz2 := hb2.size
      replace hb2 := Lib.hid (below_step HB.out hb2)
      clear HB
      have hlen : ((xs.take i).map fun x => srt (kindAt l x)).length + 1 ≤ 100000000 := by simp; omega
      go_wp2_with (at_builtin; refine wpList_app rfl _ _ rfl w1.heap.size u6 _ [srt kd] 1 rfl rfl rfl rfl ho.out (by omega) hlen ?_; intro v2 w3 ho2 hb3; replace ho2 := Lib.hid ho2; replace hb3 := Lib.hid (hb2.out.trans hb3))
      go_roundw
      case rel => exact FRel.step (wr := wr) hlt (by go_num) (by rw [hkk.out]; exact ho2.out) hb3.out
      case measure => simp [intOf]; omega
    · have hil : i = xs.length := by omega
      subst hil
      rw [List.take_length] at ho
      have htx := own_text ho
      have hS : (xs.map fun x => srt (kindAt l x)) = (xs.map (kindAt l)).map srt := by simp
      rw [hS] at htx
      have HC0' := HC0.out wr (below_step hb1.out hbel)
      have HC4' := HC4.out wr (below_step hb1.out hbel)
      have HB := Lib.hid (below_step hb1.out hbel)
      have hHd : Hid ((xs.map (kindAt l)).headD 0 = (if xs.length = 0 then 0 else kindAt l (xs.getD 0 0))) := Lib.hid (by cases xs <;> rfl)
      obtain ⟨ks, hks⟩ : ∃ ks, xs.map (kindAt l) = ks := ⟨_, rfl⟩
      have hkl : ks.length = xs.length := by rw [← hks, List.length_map]
      rw [hks] at htx hHd hq
      replace hkl := Lib.hid hkl
      obtain ⟨T, hT⟩ : ∃ T, bs (ks.map srt) = T := ⟨_, rfl⟩
      rw [hT] at htx
      have hTl : T.toList = ks.map srt := by rw [ByteArray.toList_eq, ← hT, bs_list]
      replace hTl := Lib.hid hTl
      have hTz : T.size = xs.length := by rw [← hT, bs_size, List.length_map, hkl.out]
      replace hTz := Lib.hid hTz
      obtain ⟨fk, hfk⟩ : ∃ fk, hdK ks = fk := ⟨_, rfl⟩
      have hfk0 := hHd.out
      rw [show ks.headD 0 = fk from hfk] at hfk0
      clear hS hks hHd hlt ho
      by_cases hx0 : xs.length = 0
      · rw [if_pos hx0] at hfk0
        subst hfk0
        have e0 : ¬ (0 : Int) < (xs.length : Int) := by omega
        rw [hx0] at hTz
        have d0 := fun O => cell_alloc HC0' O
        have d4 := fun O => cell_alloc HC4' O
        replace hT := Lib.hid hT
        replace hfk := Lib.hid hfk
        clear HC0' HC4' hbel
        have t1 : (T.toList == [116]) = q := by rw [hTl.out]; exact hq.out
        go_wp2_with fail
        go_ret
        exact ⟨rfl, below_step HB.out (below_alloc wr _)⟩
      · rw [if_neg hx0] at hfk0
        obtain ⟨g, rfl, _, hc⟩ := hcell.out 0 (by omega)
        have hxm := hxn.out _ (getD_mem (x := xs) (k := 0) (by omega))
        obtain ⟨x, hx⟩ : ∃ x, xs.getD 0 0 = x := ⟨_, rfl⟩
        rw [hx] at hc hxm hfk0
        have hc' := cell_carry hbel hc
        obtain ⟨hat, hwf⟩ := (hr.out.carry HB.out) x (by rw [hn.out]; exact hxm)
        obtain ⟨c0, c1, c2, c3, c4, c5⟩ := hat
        obtain ⟨kd, ln, cl, s, nm, tx, hN⟩ : ∃ kd ln cl s nm tx, nd l x = ⟨kd, ln, cl, s, nm, tx⟩ := ⟨_, _, _, _, _, _, rfl⟩
        rw [hN] at c0 c1 c2 c3 c4 c5
        simp only at c0 c1 c2 c3 c4 c5
        obtain rfl : fk = kd := by rw [hfk0, kindAt, hN]
        have hx1 : 0 < xs.length := by omega
        have e0 : (0 : Int) < (xs.length : Int) := by omega
        replace hT := Lib.hid hT
        replace hfk := Lib.hid hfk
        have d0 := fun O => cell_alloc HC0' O
        have d4 := fun O => cell_alloc HC4' O
        replace hc' := fun O => cell_alloc hc' O
        replace c0 := fun O => cell_alloc c0 O
        replace c1 := fun O => cell_alloc c1 O
        replace c2 := fun O => cell_alloc c2 O
        replace c3 := fun O => cell_alloc c3 O
        replace c4 := fun O => cell_alloc c4 O
        replace c5 := fun O => cell_alloc c5 O
        clear hc hN hx hfk0 hwf hx0 HC0' HC4' hbel
        have t1 : (T.toList == [116]) = q := by rw [hTl.out]; exact hq.out
        go_wp2_with fail
        go_ret
        exact ⟨rfl, below_step HB.out (below_alloc wr _)⟩

set_option maxHeartbeats 8000000 in
set_option maxRecDepth 100000 in
theorem fam_5 (b o n cap : Nat) (l : List Nd) (w : World) (hn : Hid (l.length = n)) (hl : n ≤ 1000000) (hr : Hid (RowB w b o l)) (k : Nat) (hk : k < n) (hok : Hid (Ok (sz l) n k)) (xs : List Nat) (hxs : Hid (kidsOf (sz l) k = xs)) (hxn : Hid (∀ x, x ∈ xs → x < n)) (hxl : xs.length ≤ 1000000)
    (num : Int) (hnum : i64In num) (hkd : Hid (kindAt l k = 5)) (hnm : Hid ((nd l k).num = num)) (q : Bool) (hq : Hid (famB (decide (k = 0)) 5 num (xs.map (kindAt l)) = q)) :
    Calls Try.prog 34 #[.slice (some ⟨b, o, none⟩) n cap, .int .i64 (k : Nat)] w fun e w' => e = .returned (.bool q) ∧ Below w.heap.size w w' := by
  have HC0 := Lib.hid (fun w2 (h : Below w.heap.size w w2) => show w2.cell? ⟨b, o + k * 6, none⟩ = some (.int .u8 5) by
    rw [((hr.out.carry h) k (by rw [hn.out]; exact hk)).1.c0, show (nd l k).kind = 5 from hkd.out]; rfl)
  have HC4 := Lib.hid (fun w2 (h : Below w.heap.size w w2) => show w2.cell? ⟨b, o + k * 6 + 4, none⟩ = some (.int .i64 num) by
    rw [((hr.out.carry h) k (by rw [hn.out]; exact hk)).1.c4, hnm.out])
  have HKI := Lib.hid (rkids_row b o n cap l w hn hl hr k hk hok xs hxs)
  clear hkd hnm
  go_enter Try.func34, Try.ntmps34
  go_wp2_with fail
  refine HKI.out.mono ?_
  rintro e w1 ⟨v, rfl, hown, hb1⟩
  obtain ⟨a', cap', rfl, hcell⟩ := ownI_open hown
  replace hcell := Lib.hid hcell
  replace hb1 := Lib.hid hb1
  clear hown HKI
  go_wp2_with fail
  go_loopw [6, 17] (fun v j wr => FRel l xs w1 v j wr) (fun _ j _ => xs.length - (intOf j).toNat)
  case atStart => exact ⟨0, Nat.zero_le _, rfl, own_lit [] rfl (Nat.le_refl _) 0 rfl (by decide), below_alloc _ _⟩
  case round =>
    obtain ⟨i, hi, rfl, ho, hbel⟩ := hrel
    have hsz := hbel.size
    by_cases hlt : i < xs.length
    · obtain ⟨g, rfl, _, hc⟩ := hcell.out i hlt
      have hxm := hxn.out _ (getD_mem hlt)
      obtain ⟨x, hx⟩ : ∃ x, xs.getD i 0 = x := ⟨_, rfl⟩
      rw [hx] at hc hxm
      have hc' := cell_carry hbel hc
      obtain ⟨hat, hwf⟩ := (hr.out.carry (below_step hb1.out hbel)) x (by rw [hn.out]; exact hxm)
      obtain ⟨c0, c1, c2, c3, c4, c5⟩ := hat
      obtain ⟨kd, ln, cl, s, nm, tx, hN⟩ : ∃ kd ln cl s nm tx, nd l x = ⟨kd, ln, cl, s, nm, tx⟩ := ⟨_, _, _, _, _, _, rfl⟩
      rw [hN] at c0 c1 c2 c3 c4 c5
      simp only at c0 c1 c2 c3 c4 c5
      have hkk : srt (kindAt l (xs.getD i 0)) = srt kd := by rw [hx, kindAt, hN]
      replace hkk := Lib.hid hkk
      have HB := Lib.hid hbel
      replace ho := Lib.hid ho
      clear hc hN hx hwf hbel
      go_wp2_with fail
      refine (sort_any ⟨kd, ln, cl, s, nm, tx⟩ _).mono ?_
      rintro e w2 ⟨rfl, hb2⟩
      replace ho := Lib.hid (own_carry ho.out hb2)
      have hsz2 := hb2.size
      replace hb2 := Lib.hid (below_step HB.out hb2)
      clear HB
      have hlen : ((xs.take i).map fun x => srt (kindAt l x)).length + 1 ≤ 100000000 := by simp; omega
      go_wp2_with (at_builtin; refine wpList_app rfl _ _ rfl w1.heap.size u6 _ [srt kd] 1 rfl rfl rfl rfl ho.out (by omega) hlen ?_; intro v2 w3 ho2 hb3; replace ho2 := Lib.hid ho2; replace hb3 := Lib.hid (hb2.out.trans hb3))
      go_roundw
      case rel => exact FRel.step (wr := wr) hlt (by go_num) (by rw [hkk.out]; exact ho2.out) hb3.out
      case measure => simp [intOf]; omega
    · have hil : i = xs.length := by omega
      subst hil
      rw [List.take_length] at ho
      have htx := own_text ho
      have hS : (xs.map fun x => srt (kindAt l x)) = (xs.map (kindAt l)).map srt := by simp
      rw [hS] at htx
      have HC0' := HC0.out wr (below_step hb1.out hbel)
      have HC4' := HC4.out wr (below_step hb1.out hbel)
      have HB := Lib.hid (below_step hb1.out hbel)
      have hHd : Hid ((xs.map (kindAt l)).headD 0 = (if xs.length = 0 then 0 else kindAt l (xs.getD 0 0))) := Lib.hid (by cases xs <;> rfl)
      obtain ⟨ks, hks⟩ : ∃ ks, xs.map (kindAt l) = ks := ⟨_, rfl⟩
      have hkl : ks.length = xs.length := by rw [← hks, List.length_map]
      rw [hks] at htx hHd hq
      replace hkl := Lib.hid hkl
      obtain ⟨T, hT⟩ : ∃ T, bs (ks.map srt) = T := ⟨_, rfl⟩
      rw [hT] at htx
      have hTl : T.toList = ks.map srt := by rw [ByteArray.toList_eq, ← hT, bs_list]
      replace hTl := Lib.hid hTl
      have hTz : T.size = xs.length := by rw [← hT, bs_size, List.length_map, hkl.out]
      replace hTz := Lib.hid hTz
      obtain ⟨fk, hfk⟩ : ∃ fk, hdK ks = fk := ⟨_, rfl⟩
      have hfk0 := hHd.out
      rw [show ks.headD 0 = fk from hfk] at hfk0
      clear hS hks hHd hlt ho
      by_cases hx0 : xs.length = 0
      · rw [if_pos hx0] at hfk0
        subst hfk0
        have e0 : ¬ (0 : Int) < (xs.length : Int) := by omega
        rw [hx0] at hTz
        have d0 := fun O => cell_alloc HC0' O
        have d4 := fun O => cell_alloc HC4' O
        replace hT := Lib.hid hT
        replace hfk := Lib.hid hfk
        clear HC0' HC4' hbel
        have t1 : (T.toList == [116]) = q := by rw [hTl.out]; exact hq.out
        go_wp2_with fail
        go_ret
        exact ⟨rfl, below_step HB.out (below_alloc wr _)⟩
      · rw [if_neg hx0] at hfk0
        obtain ⟨g, rfl, _, hc⟩ := hcell.out 0 (by omega)
        have hxm := hxn.out _ (getD_mem (x := xs) (k := 0) (by omega))
        obtain ⟨x, hx⟩ : ∃ x, xs.getD 0 0 = x := ⟨_, rfl⟩
        rw [hx] at hc hxm hfk0
        have hc' := cell_carry hbel hc
        obtain ⟨hat, hwf⟩ := (hr.out.carry HB.out) x (by rw [hn.out]; exact hxm)
        obtain ⟨c0, c1, c2, c3, c4, c5⟩ := hat
        obtain ⟨kd, ln, cl, s, nm, tx, hN⟩ : ∃ kd ln cl s nm tx, nd l x = ⟨kd, ln, cl, s, nm, tx⟩ := ⟨_, _, _, _, _, _, rfl⟩
        rw [hN] at c0 c1 c2 c3 c4 c5
        simp only at c0 c1 c2 c3 c4 c5
        obtain rfl : fk = kd := by rw [hfk0, kindAt, hN]
        have hx1 : 0 < xs.length := by omega
        have e0 : (0 : Int) < (xs.length : Int) := by omega
        replace hT := Lib.hid hT
        replace hfk := Lib.hid hfk
        have d0 := fun O => cell_alloc HC0' O
        have d4 := fun O => cell_alloc HC4' O
        replace hc' := fun O => cell_alloc hc' O
        replace c0 := fun O => cell_alloc c0 O
        replace c1 := fun O => cell_alloc c1 O
        replace c2 := fun O => cell_alloc c2 O
        replace c3 := fun O => cell_alloc c3 O
        replace c4 := fun O => cell_alloc c4 O
        replace c5 := fun O => cell_alloc c5 O
        clear hc hN hx hfk0 hwf hx0 HC0' HC4' hbel
        have t1 : (T.toList == [116]) = q := by rw [hTl.out]; exact hq.out
        go_wp2_with fail
        go_ret
        exact ⟨rfl, below_step HB.out (below_alloc wr _)⟩

set_option maxHeartbeats 8000000 in
set_option maxRecDepth 100000 in
theorem fam_20 (b o n cap : Nat) (l : List Nd) (w : World) (hn : Hid (l.length = n)) (hl : n ≤ 1000000) (hr : Hid (RowB w b o l)) (k : Nat) (hk : k < n) (hok : Hid (Ok (sz l) n k)) (xs : List Nat) (hxs : Hid (kidsOf (sz l) k = xs)) (hxn : Hid (∀ x, x ∈ xs → x < n)) (hxl : xs.length ≤ 1000000)
    (num : Int) (hnum : i64In num) (hkd : Hid (kindAt l k = 20)) (hnm : Hid ((nd l k).num = num)) (q : Bool) (hq : Hid (famB (decide (k = 0)) 20 num (xs.map (kindAt l)) = q)) :
    Calls Try.prog 34 #[.slice (some ⟨b, o, none⟩) n cap, .int .i64 (k : Nat)] w fun e w' => e = .returned (.bool q) ∧ Below w.heap.size w w' := by
  have HC0 := Lib.hid (fun w2 (h : Below w.heap.size w w2) => show w2.cell? ⟨b, o + k * 6, none⟩ = some (.int .u8 20) by
    rw [((hr.out.carry h) k (by rw [hn.out]; exact hk)).1.c0, show (nd l k).kind = 20 from hkd.out]; rfl)
  have HC4 := Lib.hid (fun w2 (h : Below w.heap.size w w2) => show w2.cell? ⟨b, o + k * 6 + 4, none⟩ = some (.int .i64 num) by
    rw [((hr.out.carry h) k (by rw [hn.out]; exact hk)).1.c4, hnm.out])
  have HKI := Lib.hid (rkids_row b o n cap l w hn hl hr k hk hok xs hxs)
  clear hkd hnm
  go_enter Try.func34, Try.ntmps34
  go_wp2_with fail
  refine HKI.out.mono ?_
  rintro e w1 ⟨v, rfl, hown, hb1⟩
  obtain ⟨a', cap', rfl, hcell⟩ := ownI_open hown
  replace hcell := Lib.hid hcell
  replace hb1 := Lib.hid hb1
  clear hown HKI
  go_wp2_with fail
  go_loopw [6, 17] (fun v j wr => FRel l xs w1 v j wr) (fun _ j _ => xs.length - (intOf j).toNat)
  case atStart => exact ⟨0, Nat.zero_le _, rfl, own_lit [] rfl (Nat.le_refl _) 0 rfl (by decide), below_alloc _ _⟩
  case round =>
    obtain ⟨i, hi, rfl, ho, hbel⟩ := hrel
    have hsz := hbel.size
    by_cases hlt : i < xs.length
    · obtain ⟨g, rfl, _, hc⟩ := hcell.out i hlt
      have hxm := hxn.out _ (getD_mem hlt)
      obtain ⟨x, hx⟩ : ∃ x, xs.getD i 0 = x := ⟨_, rfl⟩
      rw [hx] at hc hxm
      have hc' := cell_carry hbel hc
      obtain ⟨hat, hwf⟩ := (hr.out.carry (below_step hb1.out hbel)) x (by rw [hn.out]; exact hxm)
      obtain ⟨c0, c1, c2, c3, c4, c5⟩ := hat
      obtain ⟨kd, ln, cl, s, nm, tx, hN⟩ : ∃ kd ln cl s nm tx, nd l x = ⟨kd, ln, cl, s, nm, tx⟩ := ⟨_, _, _, _, _, _, rfl⟩
      rw [hN] at c0 c1 c2 c3 c4 c5
      simp only at c0 c1 c2 c3 c4 c5
      have hkk : srt (kindAt l (xs.getD i 0)) = srt kd := by rw [hx, kindAt, hN]
      replace hkk := Lib.hid hkk
      have HB := Lib.hid hbel
      replace ho := Lib.hid ho
      clear hc hN hx hwf hbel
      go_wp2_with fail
      refine (sort_any ⟨kd, ln, cl, s, nm, tx⟩ _).mono ?_
      rintro e w2 ⟨rfl, hb2⟩
      replace ho := Lib.hid (own_carry ho.out hb2)
      have hsz2 := hb2.size
      replace hb2 := Lib.hid (below_step HB.out hb2)
      clear HB
      have hlen : ((xs.take i).map fun x => srt (kindAt l x)).length + 1 ≤ 100000000 := by simp; omega
      go_wp2_with (at_builtin; refine wpList_app rfl _ _ rfl w1.heap.size u6 _ [srt kd] 1 rfl rfl rfl rfl ho.out (by omega) hlen ?_; intro v2 w3 ho2 hb3; replace ho2 := Lib.hid ho2; replace hb3 := Lib.hid (hb2.out.trans hb3))
      go_roundw
      case rel => exact FRel.step (wr := wr) hlt (by go_num) (by rw [hkk.out]; exact ho2.out) hb3.out
      case measure => simp [intOf]; omega
    · have hil : i = xs.length := by omega
      subst hil
      rw [List.take_length] at ho
      have htx := own_text ho
      have hS : (xs.map fun x => srt (kindAt l x)) = (xs.map (kindAt l)).map srt := by simp
      rw [hS] at htx
      have HC0' := HC0.out wr (below_step hb1.out hbel)
      have HC4' := HC4.out wr (below_step hb1.out hbel)
      have HB := Lib.hid (below_step hb1.out hbel)
      have hHd : Hid ((xs.map (kindAt l)).headD 0 = (if xs.length = 0 then 0 else kindAt l (xs.getD 0 0))) := Lib.hid (by cases xs <;> rfl)
      obtain ⟨ks, hks⟩ : ∃ ks, xs.map (kindAt l) = ks := ⟨_, rfl⟩
      have hkl : ks.length = xs.length := by rw [← hks, List.length_map]
      rw [hks] at htx hHd hq
      replace hkl := Lib.hid hkl
      obtain ⟨T, hT⟩ : ∃ T, bs (ks.map srt) = T := ⟨_, rfl⟩
      rw [hT] at htx
      have hTl : T.toList = ks.map srt := by rw [ByteArray.toList_eq, ← hT, bs_list]
      replace hTl := Lib.hid hTl
      have hTz : T.size = xs.length := by rw [← hT, bs_size, List.length_map, hkl.out]
      replace hTz := Lib.hid hTz
      obtain ⟨fk, hfk⟩ : ∃ fk, hdK ks = fk := ⟨_, rfl⟩
      have hfk0 := hHd.out
      rw [show ks.headD 0 = fk from hfk] at hfk0
      clear hS hks hHd hlt ho
      by_cases hx0 : xs.length = 0
      · rw [if_pos hx0] at hfk0
        subst hfk0
        have e0 : ¬ (0 : Int) < (xs.length : Int) := by omega
        rw [hx0] at hTz
        have d0 := fun O => cell_alloc HC0' O
        have d4 := fun O => cell_alloc HC4' O
        replace hT := Lib.hid hT
        replace hfk := Lib.hid hfk
        clear HC0' HC4' hbel
        have t1 : (T.toList == [116]) = q := by rw [hTl.out]; exact hq.out
        go_wp2_with fail
        go_ret
        exact ⟨rfl, below_step HB.out (below_alloc wr _)⟩
      · rw [if_neg hx0] at hfk0
        obtain ⟨g, rfl, _, hc⟩ := hcell.out 0 (by omega)
        have hxm := hxn.out _ (getD_mem (x := xs) (k := 0) (by omega))
        obtain ⟨x, hx⟩ : ∃ x, xs.getD 0 0 = x := ⟨_, rfl⟩
        rw [hx] at hc hxm hfk0
        have hc' := cell_carry hbel hc
        obtain ⟨hat, hwf⟩ := (hr.out.carry HB.out) x (by rw [hn.out]; exact hxm)
        obtain ⟨c0, c1, c2, c3, c4, c5⟩ := hat
        obtain ⟨kd, ln, cl, s, nm, tx, hN⟩ : ∃ kd ln cl s nm tx, nd l x = ⟨kd, ln, cl, s, nm, tx⟩ := ⟨_, _, _, _, _, _, rfl⟩
        rw [hN] at c0 c1 c2 c3 c4 c5
        simp only at c0 c1 c2 c3 c4 c5
        obtain rfl : fk = kd := by rw [hfk0, kindAt, hN]
        have hx1 : 0 < xs.length := by omega
        have e0 : (0 : Int) < (xs.length : Int) := by omega
        replace hT := Lib.hid hT
        replace hfk := Lib.hid hfk
        have d0 := fun O => cell_alloc HC0' O
        have d4 := fun O => cell_alloc HC4' O
        replace hc' := fun O => cell_alloc hc' O
        replace c0 := fun O => cell_alloc c0 O
        replace c1 := fun O => cell_alloc c1 O
        replace c2 := fun O => cell_alloc c2 O
        replace c3 := fun O => cell_alloc c3 O
        replace c4 := fun O => cell_alloc c4 O
        replace c5 := fun O => cell_alloc c5 O
        clear hc hN hx hfk0 hwf hx0 HC0' HC4' hbel
        have t1 : (T.toList == [116]) = q := by rw [hTl.out]; exact hq.out
        go_wp2_with fail
        go_ret
        exact ⟨rfl, below_step HB.out (below_alloc wr _)⟩

end Go.Proofs.Ytogpfbmkbnooeaa
