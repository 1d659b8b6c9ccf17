/-
  Contract of the document's family, the kinds 4, else. Conditions: rows of at most 1000000 nodes, of one tree, a place within.
-/
import Derived.Test.YtogpfbmkbnooeaaFamA
namespace Go.Proofs.Ytogpfbmkbnooeaa
open Go.RowKit Go.Sort
set_option linter.unusedVariables false
set_option linter.unusedSimpArgs false

theorem famB_else (kk : Nat) (h : kk ≠ 1 ∧ kk ≠ 2 ∧ kk ≠ 3 ∧ kk ≠ 5 ∧ kk ≠ 20 ∧ kk ≠ 4 ∧ kk ≠ 6 ∧ kk ≠ 7 ∧ kk ≠ 8 ∧ kk ≠ 9 ∧ kk ≠ 10 ∧ kk ≠ 11 ∧ kk ≠ 12 ∧ kk ≠ 29 ∧ kk ≠ 30 ∧ kk ≠ 13 ∧ kk ≠ 27 ∧ kk ≠ 28 ∧ kk ≠ 31 ∧ kk ≠ 32) {root : Bool} {num : Int} {ks : List Nat} : famB root kk num ks = (ks.map srt == [] && (decide (14 ≤ kk) && decide (kk ≤ 26))) := by
  obtain ⟨h1, h2, h3, h5, h20, h4, h6, h7, h8, h9, h10, h11, h12, h29, h30, h13, h27, h28, h31, h32⟩ := h
  unfold famB
  split <;> first | rfl | omega

set_option maxHeartbeats 8000000 in
set_option maxRecDepth 100000 in
theorem fam_4 (b o n cap : Nat) (l : List Nd) (w : World) (hn : Hid (l.length = n)) (hl : n ≤ 1000000) (hr : Hid (RowB w b o l)) (k : Nat) (hk : k < n) (hok : Hid (Ok (sz l) n k)) (xs : List Nat) (hxs : Hid (kidsOf (sz l) k = xs)) (hxn : Hid (∀ x, x ∈ xs → x < n)) (hxl : xs.length ≤ 1000000)
    (num : Int) (hnum : i64In num) (hkd : Hid (kindAt l k = 4)) (hnm : Hid ((nd l k).num = num)) (q : Bool) (hq : Hid (famB (decide (k = 0)) 4 num (xs.map (kindAt l)) = q)) :
    Calls Try.prog 34 #[.slice (some ⟨b, o, none⟩) n cap, .int .i64 (k : Nat)] w fun e w' => e = .returned (.bool q) ∧ Below w.heap.size w w' := by
  have HC0 := Lib.hid (fun w2 (h : Below w.heap.size w w2) => show w2.cell? ⟨b, o + k * 6, none⟩ = some (.int .u8 4) by
    rw [((hr.out.carry h) k (by rw [hn.out]; exact hk)).1.c0, show (nd l k).kind = 4 from hkd.out]; rfl)
  have HC4 := Lib.hid (fun w2 (h : Below w.heap.size w w2) => show w2.cell? ⟨b, o + k * 6 + 4, none⟩ = some (.int .i64 num) by
    rw [((hr.out.carry h) k (by rw [hn.out]; exact hk)).1.c4, hnm.out])
  have HKI := Lib.hid (rkids_row b o n cap l w hn hl hr k hk hok xs hxs)
  clear hkd hnm
  go_enter Try.func34, Try.ntmps34
  go_wp2_with fail
  refine HKI.out.mono ?_
  rintro e w1 ⟨v, rfl, hown, hb1⟩
  obtain ⟨a', cap', rfl, hcell⟩ := ownI_open hown
  replace hcell := Lib.hid hcell
  replace hb1 := Lib.hid hb1
  clear hown HKI
  go_wp2_with fail
  go_loopw [6, 17] (fun v j wr => FRel l xs w1 v j wr) (fun _ j _ => xs.length - (intOf j).toNat)
  case atStart => exact ⟨0, Nat.zero_le _, rfl, own_lit [] rfl (Nat.le_refl _) 0 rfl (by decide), below_alloc _ _⟩
  case round =>
    obtain ⟨i, hi, rfl, ho, hbel⟩ := hrel
    have hsz := hbel.size
    by_cases hlt : i < xs.length
    · obtain ⟨g, rfl, _, hc⟩ := hcell.out i hlt
      have hxm := hxn.out _ (getD_mem hlt)
      obtain ⟨x, hx⟩ : ∃ x, xs.getD i 0 = x := ⟨_, rfl⟩
      rw [hx] at hc hxm
      have hc' := cell_carry hbel hc
      obtain ⟨hat, hwf⟩ := (hr.out.carry (below_step hb1.out hbel)) x (by rw [hn.out]; exact hxm)
      obtain ⟨c0, c1, c2, c3, c4, c5⟩ := hat
      obtain ⟨kd, ln, cl, s, nm, tx, hN⟩ : ∃ kd ln cl s nm tx, nd l x = ⟨kd, ln, cl, s, nm, tx⟩ := ⟨_, _, _, _, _, _, rfl⟩
      rw [hN] at c0 c1 c2 c3 c4 c5
      simp only at c0 c1 c2 c3 c4 c5
      have hkk : srt (kindAt l (xs.getD i 0)) = srt kd := by rw [hx, kindAt, hN]
      replace hkk := Lib.hid hkk
      have HB := Lib.hid hbel
      replace ho := Lib.hid ho
      clear hc hN hx hwf hbel
      go_wp2_with fail
      refine (sort_any ⟨kd, ln, cl, s, nm, tx⟩ _).mono ?_
      rintro e w2 ⟨rfl, hb2⟩
      replace ho := Lib.hid (own_carry ho.out hb2)
      have hsz2 := hb2.size
      replace hb2 := Lib.hid (below_step HB.out hb2)
      clear HB
      have hlen : ((xs.take i).map fun x => srt (kindAt l x)).length + 1 ≤ 100000000 := by simp; omega
      go_wp2_with (at_builtin; refine wpList_app rfl _ _ rfl w1.heap.size u6 _ [srt kd] 1 rfl rfl rfl rfl ho.out (by omega) hlen ?_; intro v2 w3 ho2 hb3; replace ho2 := Lib.hid ho2; replace hb3 := Lib.hid (hb2.out.trans hb3))
      go_roundw
      case rel => exact FRel.step (wr := wr) hlt (by go_num) (by rw [hkk.out]; exact ho2.out) hb3.out
      case measure => simp [intOf]; omega
    · have hil : i = xs.length := by omega
      subst hil
      rw [List.take_length] at ho
      have htx := own_text ho
      have hS : (xs.map fun x => srt (kindAt l x)) = (xs.map (kindAt l)).map srt := by simp
      rw [hS] at htx
      have HC0' := HC0.out wr (below_step hb1.out hbel)
      have HC4' := HC4.out wr (below_step hb1.out hbel)
      have HB := Lib.hid (below_step hb1.out hbel)
      have hHd : Hid ((xs.map (kindAt l)).headD 0 = (if xs.length = 0 then 0 else kindAt l (xs.getD 0 0))) := Lib.hid (by cases xs <;> rfl)
      obtain ⟨ks, hks⟩ : ∃ ks, xs.map (kindAt l) = ks := ⟨_, rfl⟩
      have hkl : ks.length = xs.length := by rw [← hks, List.length_map]
      rw [hks] at htx hHd hq
      replace hkl := Lib.hid hkl
      obtain ⟨T, hT⟩ : ∃ T, bs (ks.map srt) = T := ⟨_, rfl⟩
      rw [hT] at htx
      have hTl : T.toList = ks.map srt := by rw [ByteArray.toList_eq, ← hT, bs_list]
      replace hTl := Lib.hid hTl
      have hTz : T.size = xs.length := by rw [← hT, bs_size, List.length_map, hkl.out]
      replace hTz := Lib.hid hTz
      obtain ⟨fk, hfk⟩ : ∃ fk, hdK ks = fk := ⟨_, rfl⟩
      have hfk0 := hHd.out
      rw [show ks.headD 0 = fk from hfk] at hfk0
      clear hS hks hHd hlt ho
      by_cases hx0 : xs.length = 0
      · rw [if_pos hx0] at hfk0
        subst hfk0
        have e0 : ¬ (0 : Int) < (xs.length : Int) := by omega
        rw [hx0] at hTz
        have d0 := fun O => cell_alloc HC0' O
        have d4 := fun O => cell_alloc HC4' O
        replace hT := Lib.hid hT
        replace hfk := Lib.hid hfk
        clear HC0' HC4' hbel
        have g1 : decide ((2 : Int) ≤ (T.size : Int)) = false := by rw [hTz.out]; rfl
        obtain rfl : q = false := by rw [← hq.out]; simp [famB, hkl.out, hx0]
        go_wp2_with fail
        go_ret
        exact ⟨rfl, below_step HB.out (below_alloc wr _)⟩
      · rw [if_neg hx0] at hfk0
        obtain ⟨g, rfl, _, hc⟩ := hcell.out 0 (by omega)
        have hxm := hxn.out _ (getD_mem (x := xs) (k := 0) (by omega))
        obtain ⟨x, hx⟩ : ∃ x, xs.getD 0 0 = x := ⟨_, rfl⟩
        rw [hx] at hc hxm hfk0
        have hc' := cell_carry hbel hc
        obtain ⟨hat, hwf⟩ := (hr.out.carry HB.out) x (by rw [hn.out]; exact hxm)
        obtain ⟨c0, c1, c2, c3, c4, c5⟩ := hat
        obtain ⟨kd, ln, cl, s, nm, tx, hN⟩ : ∃ kd ln cl s nm tx, nd l x = ⟨kd, ln, cl, s, nm, tx⟩ := ⟨_, _, _, _, _, _, rfl⟩
        rw [hN] at c0 c1 c2 c3 c4 c5
        simp only at c0 c1 c2 c3 c4 c5
        obtain rfl : fk = kd := by rw [hfk0, kindAt, hN]
        have hx1 : 0 < xs.length := by omega
        have e0 : (0 : Int) < (xs.length : Int) := by omega
        replace hT := Lib.hid hT
        replace hfk := Lib.hid hfk
        have d0 := fun O => cell_alloc HC0' O
        have d4 := fun O => cell_alloc HC4' O
        replace hc' := fun O => cell_alloc hc' O
        replace c0 := fun O => cell_alloc c0 O
        replace c1 := fun O => cell_alloc c1 O
        replace c2 := fun O => cell_alloc c2 O
        replace c3 := fun O => cell_alloc c3 O
        replace c4 := fun O => cell_alloc c4 O
        replace c5 := fun O => cell_alloc c5 O
        clear hc hN hx hfk0 hwf hx0 HC0' HC4' hbel
        obtain ⟨Z, hZ⟩ : ∃ Z, T.size = Z := ⟨_, rfl⟩
        have hZx : Z = xs.length := by rw [← hZ]; exact hTz.out
        have hkl2 : ks.length = Z := by rw [hkl.out, hZx]
        have hqq := hq.out
        rw [famB, hkl2] at hqq
        by_cases h2 : 2 ≤ Z
        · obtain ⟨m, hm⟩ : ∃ m, Z = m + 2 := ⟨Z - 2, by omega⟩
          have g1 : (2 : Int) ≤ (T.size : Int) := by omega
          have r2 : (T.size : Int) - 2 = (m : Nat) := by omega
          have r1 : (T.size : Int) - 1 = ((m + 1 : Nat) : Int) := by omega
          have i1 : m < T.size := by omega
          have i2 : m + 1 < T.size := by omega
          have hml : m ≤ 1000000 := by omega
          rw [decide_eq_true h2, Bool.true_and, show (Z : Int) - 2 = (m : Nat) by omega, show Z - 2 = m by omega, show Z - 1 = m + 1 by omega] at hqq
          have hX : (T.extract 0 m).data.toList = (ks.map srt).take m := by rw [ext_list, ← ByteArray.toList_eq, hTl.out]; simp
          have hA1 : (ks.map srt).getD m 0 = T[m] := by
            have := get_list T m i1
            rw [← ByteArray.toList_eq, hTl.out] at this
            simp [List.getD, this]
          have hA2 : (ks.map srt).getD (m + 1) 0 = T[m + 1] := by
            have := get_list T (m + 1) i2
            rw [← ByteArray.toList_eq, hTl.out] at this
            simp [List.getD, this]
          rw [hA1, hA2] at hqq
          have hXs : (T.extract 0 m).size ≤ 9000000000 := by rw [← size_list, hX, List.length_take]; omega
          clear hA1 hA2 hm h2 hkl2 hZx hZ
          by_cases hnm : (m : Int) = num
          · have g2 : ((m : Int) == num) = true := by rw [hnm]; simp
            rw [g2, Bool.true_and] at hqq
            have HO := Lib.hid (fun w q (h : allS 112 ((ks.map srt).take m) = q) => only_any (T.extract 0 m) 112 w q hXs (Lib.hid (by rw [hX]; exact h)))
            clear hX hXs hnm
            cases hall : allS 112 ((ks.map srt).take m) with
            | false =>
              obtain rfl : q = false := by rw [← hqq, hall]; rfl
              replace hall := Lib.hid hall
              clear hqq
              go_wp2_with fail
              refine (HO.out _ false hall.out).mono ?_
              rintro e w9 ⟨rfl, rfl⟩
              go_wp2_with fail
              go_ret
              exact ⟨rfl, below_step HB.out (below_alloc wr _)⟩
            | true =>
              rw [hall, Bool.true_and] at hqq
              replace hall := Lib.hid hall
              have ez : ∀ (c : UInt8) (z : Nat), z < 256 → (c == UInt8.ofNat z) = ((c.toNat : Int) == (z : Int)) := fun c z hz => by
                rw [Bool.eq_iff_iff, beq_iff_eq, beq_iff_eq]
                constructor
                · intro h; rw [h, UInt8.toNat_ofNat_of_lt' (by simpa using hz)]
                · intro h; exact byte_eq hz (by rw [h]; simp)
              have z1 := ez T[m] 116 (by decide)
              have z2 := ez T[m] 48 (by decide)
              have z3 := ez T[m + 1] 98 (by decide)
              rw [show (T[m] == 116) = ((T[m].toNat : Int) == 116) from z1, show (T[m] == 48) = ((T[m].toNat : Int) == 48) from z2, show (T[m + 1] == 98) = ((T[m + 1].toNat : Int) == 98) from z3] at hqq
              clear z1 z2 z3 ez
              cases ha : ((T[m].toNat : Int) == 116) with
              | true =>
                rw [ha, Bool.true_or, Bool.true_and] at hqq
                go_wp2_with fail
                refine (HO.out _ true hall.out).mono ?_
                rintro e w9 ⟨rfl, rfl⟩
                go_wp2_with fail
                go_ret
                exact ⟨rfl, below_step HB.out (below_alloc wr _)⟩
              | false =>
                rw [ha, Bool.false_or] at hqq
                cases hb : ((T[m].toNat : Int) == 48) with
                | true =>
                  rw [hb, Bool.true_and] at hqq
                  go_wp2_with fail
                  refine (HO.out _ true hall.out).mono ?_
                  rintro e w9 ⟨rfl, rfl⟩
                  go_wp2_with fail
                  go_ret
                  exact ⟨rfl, below_step HB.out (below_alloc wr _)⟩
                | false =>
                  rw [hb, Bool.false_and] at hqq
                  subst hqq
                  go_wp2_with fail
                  refine (HO.out _ true hall.out).mono ?_
                  rintro e w9 ⟨rfl, rfl⟩
                  go_wp2_with fail
                  go_ret
                  exact ⟨rfl, below_step HB.out (below_alloc wr _)⟩
          · have g2 : ((m : Int) == num) = false := by rw [beq_eq_false_iff_ne]; exact hnm
            rw [g2, Bool.false_and] at hqq
            subst hqq
            clear hX hXs hnm
            go_wp2_with fail
            go_ret
            exact ⟨rfl, below_step HB.out (below_alloc wr _)⟩
        · have g1 : decide ((2 : Int) ≤ (T.size : Int)) = false := by simp; omega
          rw [decide_eq_false h2, Bool.false_and] at hqq
          subst hqq
          clear h2 hZ hZx hkl2
          go_wp2_with fail
          go_ret
          exact ⟨rfl, below_step HB.out (below_alloc wr _)⟩

set_option maxHeartbeats 8000000 in
set_option maxRecDepth 100000 in
theorem fam_else (kk : Nat) (HK : Hid (kk ≠ 1 ∧ kk ≠ 2 ∧ kk ≠ 3 ∧ kk ≠ 5 ∧ kk ≠ 20 ∧ kk ≠ 4 ∧ kk ≠ 6 ∧ kk ≠ 7 ∧ kk ≠ 8 ∧ kk ≠ 9 ∧ kk ≠ 10 ∧ kk ≠ 11 ∧ kk ≠ 12 ∧ kk ≠ 29 ∧ kk ≠ 30 ∧ kk ≠ 13 ∧ kk ≠ 27 ∧ kk ≠ 28 ∧ kk ≠ 31 ∧ kk ≠ 32)) (b o n cap : Nat) (l : List Nd) (w : World) (hn : Hid (l.length = n)) (hl : n ≤ 1000000) (hr : Hid (RowB w b o l)) (k : Nat) (hk : k < n) (hok : Hid (Ok (sz l) n k)) (xs : List Nat) (hxs : Hid (kidsOf (sz l) k = xs)) (hxn : Hid (∀ x, x ∈ xs → x < n)) (hxl : xs.length ≤ 1000000)
    (num : Int) (hnum : i64In num) (hkd : Hid (kindAt l k = (kk : Nat))) (hnm : Hid ((nd l k).num = num)) (q : Bool) (hq : Hid (famB (decide (k = 0)) (kk : Nat) num (xs.map (kindAt l)) = q)) :
    Calls Try.prog 34 #[.slice (some ⟨b, o, none⟩) n cap, .int .i64 (k : Nat)] w fun e w' => e = .returned (.bool q) ∧ Below w.heap.size w w' := by
  have z1 : ((kk : Int) == 1) = false := by have := HK.out; rw [beq_eq_false_iff_ne]; omega
  have z2 : ((kk : Int) == 2) = false := by have := HK.out; rw [beq_eq_false_iff_ne]; omega
  have z3 : ((kk : Int) == 3) = false := by have := HK.out; rw [beq_eq_false_iff_ne]; omega
  have z5 : ((kk : Int) == 5) = false := by have := HK.out; rw [beq_eq_false_iff_ne]; omega
  have z20 : ((kk : Int) == 20) = false := by have := HK.out; rw [beq_eq_false_iff_ne]; omega
  have z4 : ((kk : Int) == 4) = false := by have := HK.out; rw [beq_eq_false_iff_ne]; omega
  have z6 : ((kk : Int) == 6) = false := by have := HK.out; rw [beq_eq_false_iff_ne]; omega
  have z7 : ((kk : Int) == 7) = false := by have := HK.out; rw [beq_eq_false_iff_ne]; omega
  have z8 : ((kk : Int) == 8) = false := by have := HK.out; rw [beq_eq_false_iff_ne]; omega
  have z9 : ((kk : Int) == 9) = false := by have := HK.out; rw [beq_eq_false_iff_ne]; omega
  have z10 : ((kk : Int) == 10) = false := by have := HK.out; rw [beq_eq_false_iff_ne]; omega
  have z11 : ((kk : Int) == 11) = false := by have := HK.out; rw [beq_eq_false_iff_ne]; omega
  have z12 : ((kk : Int) == 12) = false := by have := HK.out; rw [beq_eq_false_iff_ne]; omega
  have z29 : ((kk : Int) == 29) = false := by have := HK.out; rw [beq_eq_false_iff_ne]; omega
  have z30 : ((kk : Int) == 30) = false := by have := HK.out; rw [beq_eq_false_iff_ne]; omega
  have z13 : ((kk : Int) == 13) = false := by have := HK.out; rw [beq_eq_false_iff_ne]; omega
  have z27 : ((kk : Int) == 27) = false := by have := HK.out; rw [beq_eq_false_iff_ne]; omega
  have z28 : ((kk : Int) == 28) = false := by have := HK.out; rw [beq_eq_false_iff_ne]; omega
  have z31 : ((kk : Int) == 31) = false := by have := HK.out; rw [beq_eq_false_iff_ne]; omega
  have z32 : ((kk : Int) == 32) = false := by have := HK.out; rw [beq_eq_false_iff_ne]; omega
  have HC0 := Lib.hid (fun w2 (h : Below w.heap.size w w2) => show w2.cell? ⟨b, o + k * 6, none⟩ = some (.int .u8 (kk : Nat)) by
    rw [((hr.out.carry h) k (by rw [hn.out]; exact hk)).1.c0, show (nd l k).kind = kk from hkd.out])
  have HC4 := Lib.hid (fun w2 (h : Below w.heap.size w w2) => show w2.cell? ⟨b, o + k * 6 + 4, none⟩ = some (.int .i64 num) by
    rw [((hr.out.carry h) k (by rw [hn.out]; exact hk)).1.c4, hnm.out])
  have HKI := Lib.hid (rkids_row b o n cap l w hn hl hr k hk hok xs hxs)
  clear hkd hnm
  go_enter Try.func34, Try.ntmps34
  go_wp2_with fail
  refine HKI.out.mono ?_
  rintro e w1 ⟨v, rfl, hown, hb1⟩
  obtain ⟨a', cap', rfl, hcell⟩ := ownI_open hown
  replace hcell := Lib.hid hcell
  replace hb1 := Lib.hid hb1
  clear hown HKI
  go_wp2_with fail
  go_loopw [6, 17] (fun v j wr => FRel l xs w1 v j wr) (fun _ j _ => xs.length - (intOf j).toNat)
  case atStart => exact ⟨0, Nat.zero_le _, rfl, own_lit [] rfl (Nat.le_refl _) 0 rfl (by decide), below_alloc _ _⟩
  case round =>
    obtain ⟨i, hi, rfl, ho, hbel⟩ := hrel
    have hsz := hbel.size
    by_cases hlt : i < xs.length
    · obtain ⟨g, rfl, _, hc⟩ := hcell.out i hlt
      have hxm := hxn.out _ (getD_mem hlt)
      obtain ⟨x, hx⟩ : ∃ x, xs.getD i 0 = x := ⟨_, rfl⟩
      rw [hx] at hc hxm
      have hc' := cell_carry hbel hc
      obtain ⟨hat, hwf⟩ := (hr.out.carry (below_step hb1.out hbel)) x (by rw [hn.out]; exact hxm)
      obtain ⟨c0, c1, c2, c3, c4, c5⟩ := hat
      obtain ⟨kd, ln, cl, s, nm, tx, hN⟩ : ∃ kd ln cl s nm tx, nd l x = ⟨kd, ln, cl, s, nm, tx⟩ := ⟨_, _, _, _, _, _, rfl⟩
      rw [hN] at c0 c1 c2 c3 c4 c5
      simp only at c0 c1 c2 c3 c4 c5
      have hkk : srt (kindAt l (xs.getD i 0)) = srt kd := by rw [hx, kindAt, hN]
      replace hkk := Lib.hid hkk
      have HB := Lib.hid hbel
      replace ho := Lib.hid ho
      clear hc hN hx hwf hbel
      go_wp2_with fail
      refine (sort_any ⟨kd, ln, cl, s, nm, tx⟩ _).mono ?_
      rintro e w2 ⟨rfl, hb2⟩
      replace ho := Lib.hid (own_carry ho.out hb2)
      have hsz2 := hb2.size
      replace hb2 := Lib.hid (below_step HB.out hb2)
      clear HB
      have hlen : ((xs.take i).map fun x => srt (kindAt l x)).length + 1 ≤ 100000000 := by simp; omega
      go_wp2_with (at_builtin; refine wpList_app rfl _ _ rfl w1.heap.size u6 _ [srt kd] 1 rfl rfl rfl rfl ho.out (by omega) hlen ?_; intro v2 w3 ho2 hb3; replace ho2 := Lib.hid ho2; replace hb3 := Lib.hid (hb2.out.trans hb3))
      go_roundw
      case rel => exact FRel.step (wr := wr) hlt (by go_num) (by rw [hkk.out]; exact ho2.out) hb3.out
      case measure => simp [intOf]; omega
    · have hil : i = xs.length := by omega
      subst hil
      rw [List.take_length] at ho
      have htx := own_text ho
      have hS : (xs.map fun x => srt (kindAt l x)) = (xs.map (kindAt l)).map srt := by simp
      rw [hS] at htx
      have HC0' := HC0.out wr (below_step hb1.out hbel)
      have HC4' := HC4.out wr (below_step hb1.out hbel)
      have HB := Lib.hid (below_step hb1.out hbel)
      have hHd : Hid ((xs.map (kindAt l)).headD 0 = (if xs.length = 0 then 0 else kindAt l (xs.getD 0 0))) := Lib.hid (by cases xs <;> rfl)
      obtain ⟨ks, hks⟩ : ∃ ks, xs.map (kindAt l) = ks := ⟨_, rfl⟩
      have hkl : ks.length = xs.length := by rw [← hks, List.length_map]
      rw [hks] at htx hHd hq
      replace hkl := Lib.hid hkl
      obtain ⟨T, hT⟩ : ∃ T, bs (ks.map srt) = T := ⟨_, rfl⟩
      rw [hT] at htx
      have hTl : T.toList = ks.map srt := by rw [ByteArray.toList_eq, ← hT, bs_list]
      replace hTl := Lib.hid hTl
      have hTz : T.size = xs.length := by rw [← hT, bs_size, List.length_map, hkl.out]
      replace hTz := Lib.hid hTz
      obtain ⟨fk, hfk⟩ : ∃ fk, hdK ks = fk := ⟨_, rfl⟩
      have hfk0 := hHd.out
      rw [show ks.headD 0 = fk from hfk] at hfk0
      clear hS hks hHd hlt ho
      by_cases hx0 : xs.length = 0
      · rw [if_pos hx0] at hfk0
        subst hfk0
        have e0 : ¬ (0 : Int) < (xs.length : Int) := by omega
        rw [hx0] at hTz
        have d0 := fun O => cell_alloc HC0' O
        have d4 := fun O => cell_alloc HC4' O
        replace hT := Lib.hid hT
        replace hfk := Lib.hid hfk
        clear HC0' HC4' hbel
        cases ha : (ks.map srt == []) with
        | true =>
          have a : (T.toList == []) = true := by rw [hTl.out]; exact ha
          have ae : T.toList.isEmpty = true := by rw [hTl.out]; revert ha; cases ks.map srt <;> simp
          by_cases b1 : 14 ≤ kk
          · have g1 : (14 : Int) ≤ (kk : Int) := by omega
            have t3 : decide ((kk : Int) ≤ 26) = q := by rw [← hq.out, famB_else kk HK.out, ha, decide_eq_true b1, Bool.true_and, Bool.true_and, decide_eq_decide]; omega
            clear ha b1
            go_wp2_with fail
            go_ret
            exact ⟨rfl, below_step HB.out (below_alloc wr _)⟩
          · have g1 : decide ((14 : Int) ≤ (kk : Int)) = false := by simp; omega
            obtain rfl : q = false := by rw [← hq.out, famB_else kk HK.out, decide_eq_false b1]; simp
            clear ha b1
            go_wp2_with fail
            go_ret
            exact ⟨rfl, below_step HB.out (below_alloc wr _)⟩
        | false =>
          have a : (T.toList == []) = false := by rw [hTl.out]; exact ha
          have ae : T.toList.isEmpty = false := by rw [hTl.out]; revert ha; cases ks.map srt <;> simp
          obtain rfl : q = false := by rw [← hq.out, famB_else kk HK.out, ha]; rfl
          clear ha
          go_wp2_with fail
          go_ret
          exact ⟨rfl, below_step HB.out (below_alloc wr _)⟩
      · rw [if_neg hx0] at hfk0
        obtain ⟨g, rfl, _, hc⟩ := hcell.out 0 (by omega)
        have hxm := hxn.out _ (getD_mem (x := xs) (k := 0) (by omega))
        obtain ⟨x, hx⟩ : ∃ x, xs.getD 0 0 = x := ⟨_, rfl⟩
        rw [hx] at hc hxm hfk0
        have hc' := cell_carry hbel hc
        obtain ⟨hat, hwf⟩ := (hr.out.carry HB.out) x (by rw [hn.out]; exact hxm)
        obtain ⟨c0, c1, c2, c3, c4, c5⟩ := hat
        obtain ⟨kd, ln, cl, s, nm, tx, hN⟩ : ∃ kd ln cl s nm tx, nd l x = ⟨kd, ln, cl, s, nm, tx⟩ := ⟨_, _, _, _, _, _, rfl⟩
        rw [hN] at c0 c1 c2 c3 c4 c5
        simp only at c0 c1 c2 c3 c4 c5
        obtain rfl : fk = kd := by rw [hfk0, kindAt, hN]
        have hx1 : 0 < xs.length := by omega
        have e0 : (0 : Int) < (xs.length : Int) := by omega
        replace hT := Lib.hid hT
        replace hfk := Lib.hid hfk
        have d0 := fun O => cell_alloc HC0' O
        have d4 := fun O => cell_alloc HC4' O
        replace hc' := fun O => cell_alloc hc' O
        replace c0 := fun O => cell_alloc c0 O
        replace c1 := fun O => cell_alloc c1 O
        replace c2 := fun O => cell_alloc c2 O
        replace c3 := fun O => cell_alloc c3 O
        replace c4 := fun O => cell_alloc c4 O
        replace c5 := fun O => cell_alloc c5 O
        clear hc hN hx hfk0 hwf hx0 HC0' HC4' hbel
        cases ha : (ks.map srt == []) with
        | true =>
          have a : (T.toList == []) = true := by rw [hTl.out]; exact ha
          have ae : T.toList.isEmpty = true := by rw [hTl.out]; revert ha; cases ks.map srt <;> simp
          by_cases b1 : 14 ≤ kk
          · have g1 : (14 : Int) ≤ (kk : Int) := by omega
            have t3 : decide ((kk : Int) ≤ 26) = q := by rw [← hq.out, famB_else kk HK.out, ha, decide_eq_true b1, Bool.true_and, Bool.true_and, decide_eq_decide]; omega
            clear ha b1
            go_wp2_with fail
            go_ret
            exact ⟨rfl, below_step HB.out (below_alloc wr _)⟩
          · have g1 : decide ((14 : Int) ≤ (kk : Int)) = false := by simp; omega
            obtain rfl : q = false := by rw [← hq.out, famB_else kk HK.out, decide_eq_false b1]; simp
            clear ha b1
            go_wp2_with fail
            go_ret
            exact ⟨rfl, below_step HB.out (below_alloc wr _)⟩
        | false =>
          have a : (T.toList == []) = false := by rw [hTl.out]; exact ha
          have ae : T.toList.isEmpty = false := by rw [hTl.out]; revert ha; cases ks.map srt <;> simp
          obtain rfl : q = false := by rw [← hq.out, famB_else kk HK.out, ha]; rfl
          clear ha
          go_wp2_with fail
          go_ret
          exact ⟨rfl, below_step HB.out (below_alloc wr _)⟩

end Go.Proofs.Ytogpfbmkbnooeaa
