/-
 Contracts and plain facts on the way to PrettyWrites. Conditions: as each says.
-/
import Derived.Test.YtoaplbljflhheaaGreatWbo
set_option maxHeartbeats 40000000
set_option maxRecDepth 100000
set_option linter.unusedVariables false
set_option linter.unusedSimpArgs false
namespace Go.Proofs.YtoaplbljflhheaaGreat
open Go.RowKit Go.Sort
theorem b59 (kk : Nat) (hK : Hid (kk = 29 ∨ kk = 30 ∨ kk = 28 ∨ kk = 31 ∨ kk = 9 ∨ kk = 11 ∨ kk = 8 ∨ kk = 13 ∨ kk = 32)) (b o n cap : Nat) (l : List Nd) (w : World) (hn : Hid (l.length = n)) (hl : n ≤ 1000000) (hr : Hid (Li w b o l)) (k : Nat) (hk : k < n) (hok : Hid (Ok (sz l) n k)) (xs : List Nat) (hxs : Hid (Ai (sz l) k = xs)) (hxn : Hid (∀ x, x ∈ xs → x < n)) (hxl : xs.length ≤ 1000000)
  (num : Int) (hnum : Ax num) (hkd : Hid (Ag l k = kk)) (hnm : Hid ((nd l k).num = num)) (q : Bool) (hq : Hid (Di (decide (k = 0)) kk num (xs.map (Ag l)) = q)) :
  Calls Tryz.prog 27 #[.slice (some ⟨b, o, none⟩) n cap, .int .i64 (k : Nat)] w fun e w' => e = .returned (.bool q) ∧ Below w.heap.size w w' := by
 have HC0 := zz (fun w2 (h : Below w.heap.size w w2) => show w2.cell? ⟨b, o + k * 6, none⟩ = some (.int .u8 (kk : Nat)) by
  rw [((hr.out.carry h) k (by rw [hn.out]; exact hk)).1.c0, show (nd l k).kind = kk from hkd.out])
 have HC4 := zz (fun w2 (h : Below w.heap.size w w2) => show w2.cell? ⟨b, o + k * 6 + 4, none⟩ = some (.int .i64 num) by
  rw [((hr.out.carry h) k (by rw [hn.out]; exact hk)).1.c4, hnm.out])
 have HKI := zz (Ib b o n cap l w hn hl hr k hk hok xs hxs)
 clear hkd hnm
 go_enter Tryz.func27, Tryz.ntmps27
 go_wp2_with fail
 refine HKI.out.mono ?_
 rintro e w1 ⟨v, rfl, hown, hb1⟩
 obtain ⟨a', cap', rfl, hcell⟩ := Aq hown
 replace hcell := zz hcell
 replace hb1 := zz hb1
 clear hown HKI
 go_wp2_with fail
 go_loopw [6, 17] (fun v j wr => a5e l xs w1 v j wr) (fun _ j _ => xs.length - (intOf j).toNat)
 case atStart => exact ⟨0, Nat.zero_le _, rfl, Kq [] rfl (Nat.le_refl _) 0 rfl (by decide), Aa _ _⟩
 case round =>
  obtain ⟨i, hi, rfl, ho, hbel⟩ := hrel
  have hsz := hbel.size
  by_cases hlt : i < xs.length
  ·obtain ⟨g, rfl, _, hc⟩ := hcell.out i hlt
   have hxm := hxn.out _ (F0 hlt)
   obtain ⟨x, hx⟩ : ∃ x, xs.getD i 0 = x := ⟨_, rfl⟩
   rw [hx] at hc hxm
   have hc' := Ad hbel hc
   obtain ⟨hat, hwf⟩ := (hr.out.carry (Ab hb1.out hbel)) x (by rw [hn.out]; exact hxm)
   obtain ⟨c0, c1, c2, c3, c4, c5⟩ := hat
   obtain ⟨kd, ln, cl, s, nm, tx, hN⟩ : ∃ kd ln cl s nm tx, nd l x = ⟨kd, ln, cl, s, nm, tx⟩ := ⟨_, _, _, _, _, _, rfl⟩
   rw [hN] at c0 c1 c2 c3 c4 c5
   simp only at c0 c1 c2 c3 c4 c5
   have hkk : srt (Ag l (xs.getD i 0)) = srt kd := by rw [hx, Ag, hN]
   replace hkk := zz hkk
   have HB := zz hbel
   replace ho := zz ho
   clear hc hN hx hwf hbel
   go_wp2_with fail
   refine (Mv ⟨kd, ln, cl, s, nm, tx⟩ _).mono ?_
   rintro e w2 ⟨rfl, hb2⟩
   replace ho := zz (Du ho.out hb2)
   have hsz2 := hb2.size
   replace hb2 := zz (Ab HB.out hb2)
   clear HB
   have hlen : ((xs.take i).map fun x => srt (Ag l x)).length + 1 ≤ 100000000 := by simp; omega
   go_wp2_with (at_builtin; refine A5 rfl _ _ rfl w1.heap.size u6 _ [srt kd] 1 rfl rfl rfl rfl ho.out (by omega) hlen ?_; intro v2 w3 ho2 hb3; replace ho2 := zz ho2; replace hb3 := zz (hb2.out.trans hb3))
   go_roundw
   case rel => exact a5e.step (wr := wr) hlt (by go_num) (by rw [hkk.out]; exact ho2.out) hb3.out
   case measure => simp [intOf]; omega
  ·have hil : i = xs.length := by omega
   subst hil
   rw [List.take_length] at ho
   have htx := Fu ho
   have hS : (xs.map fun x => srt (Ag l x)) = (xs.map (Ag l)).map srt := by simp
   rw [hS] at htx
   have HC0' := HC0.out wr (Ab hb1.out hbel)
   have HC4' := HC4.out wr (Ab hb1.out hbel)
   have HB := zz (Ab hb1.out hbel)
   have hHd : Hid ((xs.map (Ag l)).headD 0 = (if xs.length = 0 then 0 else Ag l (xs.getD 0 0))) := zz (by cases xs <;> rfl)
   obtain ⟨ks, hks⟩ : ∃ ks, xs.map (Ag l) = ks := ⟨_, rfl⟩
   have hkl : ks.length = xs.length := by rw [← hks, List.length_map]
   rw [hks] at htx hHd hq
   replace hkl := zz hkl
   obtain ⟨T, hT⟩ : ∃ T, bs (ks.map srt) = T := ⟨_, rfl⟩
   rw [hT] at htx
   have hTl : T.toList = ks.map srt := by rw [ByteArray.toList_eq, ← hT, Bk]
   replace hTl := zz hTl
   have hTz : T.size = xs.length := by rw [← hT, An, List.length_map, hkl.out]
   replace hTz := zz hTz
   obtain ⟨fk, hfk⟩ : ∃ fk, hdK ks = fk := ⟨_, rfl⟩
   have hfk0 := hHd.out
   rw [show ks.headD 0 = fk from hfk] at hfk0
   clear hS hks hHd hlt ho
   by_cases hx0 : xs.length = 0
   ·rw [if_pos hx0] at hfk0
    subst hfk0
    have e0 : ¬ (0 : Int) < (xs.length : Int) := by omega
    rw [hx0] at hTz
    have d0 := fun O => Ah HC0' O
    have d4 := fun O => Ah HC4' O
    replace hT := zz hT
    replace hfk := zz hfk
    clear HC0' HC4' hbel
    rcases hK.out with rfl | rfl | rfl | rfl | rfl | rfl | rfl | rfl | rfl
    ·have t1 : (T.toList == [101]) = q := by rw [hTl.out]; exact hq.out
     go_wp2_with fail
     go_ret
     exact ⟨rfl, Ab HB.out (Aa wr _)⟩
    ·have t1 : (T.toList == [101]) = q := by rw [hTl.out]; exact hq.out
     go_wp2_with fail
     go_ret
     exact ⟨rfl, Ab HB.out (Aa wr _)⟩
    ·have t1 : (T.toList == [101, 101]) = q := by rw [hTl.out]; exact hq.out
     go_wp2_with fail
     go_ret
     exact ⟨rfl, Ab HB.out (Aa wr _)⟩
    ·have t1 : (T.toList == [101, 101]) = q := by rw [hTl.out]; exact hq.out
     go_wp2_with fail
     go_ret
     exact ⟨rfl, Ab HB.out (Aa wr _)⟩
    ·cases ha : (ks.map srt == [101, 98]) with
     | true =>
      have a : (T.toList == [101, 98]) = true := by rw [hTl.out]; exact ha
      obtain rfl : q = true := by rw [← hq.out]; simp [Di, ha]
      clear ha
      go_wp2_with fail
      go_ret
      exact ⟨rfl, Ab HB.out (Aa wr _)⟩
     | false =>
      have a : (T.toList == [101, 98]) = false := by rw [hTl.out]; exact ha
      have t2 : (T.toList == [101, 98, 98]) = q := by rw [hTl.out, ← hq.out, Di, ha, Bool.false_or]
      clear ha
      go_wp2_with fail
      go_ret
      exact ⟨rfl, Ab HB.out (Aa wr _)⟩
    ·cases ha : (ks.map srt == []) with
     | true =>
      have a : (T.toList == []) = true := by rw [hTl.out]; exact ha
      have ae : T.toList.isEmpty = true := by rw [hTl.out]; revert ha; cases ks.map srt <;> simp
      obtain rfl : q = true := by rw [← hq.out]; simp [Di, ha]
      clear ha
      go_wp2_with fail
      go_ret
      exact ⟨rfl, Ab HB.out (Aa wr _)⟩
     | false =>
      have a : (T.toList == []) = false := by rw [hTl.out]; exact ha
      have ae : T.toList.isEmpty = false := by rw [hTl.out]; revert ha; cases ks.map srt <;> simp
      have t2 : (T.toList == [101]) = q := by rw [hTl.out, ← hq.out, Di, ha, Bool.false_or]
      clear ha
      go_wp2_with fail
      go_ret
      exact ⟨rfl, Ab HB.out (Aa wr _)⟩
    ·have hk0 : ks = [] := List.eq_nil_of_length_eq_zero (by rw [hkl.out, hx0])
     have n0 : (T.toList == [101, 101]) = false := by rw [hTl.out, hk0]; rfl
     obtain rfl : q = false := by rw [← hq.out, hk0]; rfl
     clear hk0
     go_wp2_with fail
     go_ret
     exact ⟨rfl, Ab HB.out (Aa wr _)⟩
    ·have hk0 : ks = [] := List.eq_nil_of_length_eq_zero (by rw [hkl.out, hx0])
     have n0 : (T.toList == [101]) = false := by rw [hTl.out, hk0]; rfl
     obtain rfl : q = false := by rw [← hq.out, hk0]; rfl
     clear hk0
     go_wp2_with fail
     go_ret
     exact ⟨rfl, Ab HB.out (Aa wr _)⟩
    ·have hk0 : ks = [] := List.eq_nil_of_length_eq_zero (by rw [hkl.out, hx0])
     have n0 : (T.toList == [116]) = false := by rw [hTl.out, hk0]; rfl
     have n1 : (T.toList == [116, 101]) = false := by rw [hTl.out, hk0]; rfl
     obtain rfl : q = false := by rw [← hq.out, hk0]; rfl
     clear hk0
     go_wp2_with fail
     go_ret
     exact ⟨rfl, Ab HB.out (Aa wr _)⟩
   ·rw [if_neg hx0] at hfk0
    obtain ⟨g, rfl, _, hc⟩ := hcell.out 0 (by omega)
    have hxm := hxn.out _ (F0 (x := xs) (k := 0) (by omega))
    obtain ⟨x, hx⟩ : ∃ x, xs.getD 0 0 = x := ⟨_, rfl⟩
    rw [hx] at hc hxm hfk0
    have hc' := Ad hbel hc
    obtain ⟨hat, hwf⟩ := (hr.out.carry HB.out) x (by rw [hn.out]; exact hxm)
    obtain ⟨c0, c1, c2, c3, c4, c5⟩ := hat
    obtain ⟨kd, ln, cl, s, nm, tx, hN⟩ : ∃ kd ln cl s nm tx, nd l x = ⟨kd, ln, cl, s, nm, tx⟩ := ⟨_, _, _, _, _, _, rfl⟩
    rw [hN] at c0 c1 c2 c3 c4 c5
    simp only at c0 c1 c2 c3 c4 c5
    obtain rfl : fk = kd := by rw [hfk0, Ag, hN]
    have hx1 : 0 < xs.length := by omega
    have e0 : (0 : Int) < (xs.length : Int) := by omega
    replace hT := zz hT
    replace hfk := zz hfk
    have d0 := fun O => Ah HC0' O
    have d4 := fun O => Ah HC4' O
    replace hc' := fun O => Ah hc' O
    replace c0 := fun O => Ah c0 O
    replace c1 := fun O => Ah c1 O
    replace c2 := fun O => Ah c2 O
    replace c3 := fun O => Ah c3 O
    replace c4 := fun O => Ah c4 O
    replace c5 := fun O => Ah c5 O
    clear hc hN hx hfk0 hwf hx0 HC0' HC4' hbel
    rcases hK.out with rfl | rfl | rfl | rfl | rfl | rfl | rfl | rfl | rfl
    ·have t1 : (T.toList == [101]) = q := by rw [hTl.out]; exact hq.out
     go_wp2_with fail
     go_ret
     exact ⟨rfl, Ab HB.out (Aa wr _)⟩
    ·have t1 : (T.toList == [101]) = q := by rw [hTl.out]; exact hq.out
     go_wp2_with fail
     go_ret
     exact ⟨rfl, Ab HB.out (Aa wr _)⟩
    ·have t1 : (T.toList == [101, 101]) = q := by rw [hTl.out]; exact hq.out
     go_wp2_with fail
     go_ret
     exact ⟨rfl, Ab HB.out (Aa wr _)⟩
    ·have t1 : (T.toList == [101, 101]) = q := by rw [hTl.out]; exact hq.out
     go_wp2_with fail
     go_ret
     exact ⟨rfl, Ab HB.out (Aa wr _)⟩
    ·cases ha : (ks.map srt == [101, 98]) with
     | true =>
      have a : (T.toList == [101, 98]) = true := by rw [hTl.out]; exact ha
      obtain rfl : q = true := by rw [← hq.out]; simp [Di, ha]
      clear ha
      go_wp2_with fail
      go_ret
      exact ⟨rfl, Ab HB.out (Aa wr _)⟩
     | false =>
      have a : (T.toList == [101, 98]) = false := by rw [hTl.out]; exact ha
      have t2 : (T.toList == [101, 98, 98]) = q := by rw [hTl.out, ← hq.out, Di, ha, Bool.false_or]
      clear ha
      go_wp2_with fail
      go_ret
      exact ⟨rfl, Ab HB.out (Aa wr _)⟩
    ·cases ha : (ks.map srt == []) with
     | true =>
      have a : (T.toList == []) = true := by rw [hTl.out]; exact ha
      have ae : T.toList.isEmpty = true := by rw [hTl.out]; revert ha; cases ks.map srt <;> simp
      obtain rfl : q = true := by rw [← hq.out]; simp [Di, ha]
      clear ha
      go_wp2_with fail
      go_ret
      exact ⟨rfl, Ab HB.out (Aa wr _)⟩
     | false =>
      have a : (T.toList == []) = false := by rw [hTl.out]; exact ha
      have ae : T.toList.isEmpty = false := by rw [hTl.out]; revert ha; cases ks.map srt <;> simp
      have t2 : (T.toList == [101]) = q := by rw [hTl.out, ← hq.out, Di, ha, Bool.false_or]
      clear ha
      go_wp2_with fail
      go_ret
      exact ⟨rfl, Ab HB.out (Aa wr _)⟩
    ·cases ha : (ks.map srt == [101, 101]) with
     | true =>
      have a : (T.toList == [101, 101]) = true := by rw [hTl.out]; exact ha
      by_cases hf1 : fk = 26
      ·have f1 : (((fk : Nat) : Int) == 26) = true := by rw [hf1]; rfl
       obtain rfl : q = true := by rw [← hq.out]; simp [Di, ha, hfk.out, hf1]
       clear hf1
       go_wp2_with fail
       go_ret
       exact ⟨rfl, Ab HB.out (Aa wr _)⟩
      ·have f1 : (((fk : Nat) : Int) == 26) = false := by rw [beq_eq_false_iff_ne]; omega
       by_cases hf2 : fk = 28
       ·have f2 : (((fk : Nat) : Int) == 28) = true := by rw [hf2]; rfl
        obtain rfl : q = true := by rw [← hq.out]; simp [Di, ha, hfk.out, hf2]
        clear hf2
        go_wp2_with fail
        go_ret
        exact ⟨rfl, Ab HB.out (Aa wr _)⟩
       ·have f2 : (((fk : Nat) : Int) == 28) = false := by rw [beq_eq_false_iff_ne]; omega
        by_cases hf3 : fk = 29
        ·have f3 : (((fk : Nat) : Int) == 29) = true := by rw [hf3]; rfl
         obtain rfl : q = true := by rw [← hq.out]; simp [Di, ha, hfk.out, hf3]
         clear hf3
         go_wp2_with fail
         go_ret
         exact ⟨rfl, Ab HB.out (Aa wr _)⟩
        ·have f3 : (((fk : Nat) : Int) == 29) = false := by rw [beq_eq_false_iff_ne]; omega
         obtain rfl : q = false := by rw [← hq.out]; simp [Di, ha, hfk.out, hf1, hf2, hf3]
         clear hf1 hf2 hf3
         go_wp2_with fail
         go_ret
         exact ⟨rfl, Ab HB.out (Aa wr _)⟩
     | false =>
      have a : (T.toList == [101, 101]) = false := by rw [hTl.out]; exact ha
      obtain rfl : q = false := by rw [← hq.out]; simp [Di, ha]
      clear ha
      go_wp2_with fail
      go_ret
      exact ⟨rfl, Ab HB.out (Aa wr _)⟩
    ·cases ha : (ks.map srt == [101]) with
     | true =>
      have a : (T.toList == [101]) = true := by rw [hTl.out]; exact ha
      by_cases hf1 : fk = 27
      ·have f1 : (((fk : Nat) : Int) == 27) = true := by rw [hf1]; rfl
       obtain rfl : q = true := by rw [← hq.out]; simp [Di, ha, hfk.out, hf1]
       clear hf1 ha
       go_wp2_with fail
       go_ret
       exact ⟨rfl, Ab HB.out (Aa wr _)⟩
      ·have f1 : (((fk : Nat) : Int) == 27) = false := by rw [beq_eq_false_iff_ne]; omega
       obtain rfl : q = false := by rw [← hq.out]; simp [Di, ha, hfk.out, hf1]
       clear hf1 ha
       go_wp2_with fail
       go_ret
       exact ⟨rfl, Ab HB.out (Aa wr _)⟩
     | false =>
      have a : (T.toList == [101]) = false := by rw [hTl.out]; exact ha
      obtain rfl : q = false := by rw [← hq.out]; simp [Di, ha]
      clear ha
      go_wp2_with fail
      go_ret
      exact ⟨rfl, Ab HB.out (Aa wr _)⟩
    ·cases ha : (ks.map srt == [116]) with
     | true =>
      have a : (T.toList == [116]) = true := by rw [hTl.out]; exact ha
      by_cases hf1 : fk = 19
      ·have f1 : (((fk : Nat) : Int) == 19) = true := by rw [hf1]; rfl
       obtain rfl : q = true := by rw [← hq.out]; simp [Di, ha, hfk.out, hf1]
       clear hf1 ha
       go_wp2_with fail
       go_ret
       exact ⟨rfl, Ab HB.out (Aa wr _)⟩
      ·have f1 : (((fk : Nat) : Int) == 19) = false := by rw [beq_eq_false_iff_ne]; omega
       have hb : (ks.map srt == [116, 101]) = false := by rw [beq_eq_false_iff_ne, eq_of_beq ha]; decide
       have bb : (T.toList == [116, 101]) = false := by rw [hTl.out]; exact hb
       obtain rfl : q = false := by rw [← hq.out]; simp [Di, ha, hfk.out, hf1, hb]
       clear hf1 ha hb
       go_wp2_with fail
       go_ret
       exact ⟨rfl, Ab HB.out (Aa wr _)⟩
     | false =>
      have a : (T.toList == [116]) = false := by rw [hTl.out]; exact ha
      cases hc : (ks.map srt == [116, 101]) with
      | true =>
       have c : (T.toList == [116, 101]) = true := by rw [hTl.out]; exact hc
       by_cases hf1 : fk = 20
       ·have f1 : (((fk : Nat) : Int) == 20) = true := by rw [hf1]; rfl
        obtain rfl : q = true := by rw [← hq.out]; simp [Di, ha, hc, hfk.out, hf1]
        clear hf1 ha hc
        go_wp2_with fail
        go_ret
        exact ⟨rfl, Ab HB.out (Aa wr _)⟩
       ·have f1 : (((fk : Nat) : Int) == 20) = false := by rw [beq_eq_false_iff_ne]; omega
        obtain rfl : q = false := by rw [← hq.out]; simp [Di, ha, hc, hfk.out, hf1]
        clear hf1 ha hc
        go_wp2_with fail
        go_ret
        exact ⟨rfl, Ab HB.out (Aa wr _)⟩
      | false =>
       have c : (T.toList == [116, 101]) = false := by rw [hTl.out]; exact hc
       obtain rfl : q = false := by rw [← hq.out]; simp [Di, ha, hc]
       clear ha hc
       go_wp2_with fail
       go_ret
       exact ⟨rfl, Ab HB.out (Aa wr _)⟩
end Go.Proofs.YtoaplbljflhheaaGreat
