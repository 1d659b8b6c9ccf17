/-
 Contracts and plain facts on the way to PrettyWrites. Conditions: as each says.
-/
import Derived.Test.YtoaplbljflhheaaGreatWat
import Derived.Test.YtoaplbljflhheaaGreatWaw
set_option maxHeartbeats 40000000
set_option maxRecDepth 100000
set_option linter.unusedVariables false
set_option linter.unusedSimpArgs false
namespace Go.Proofs.YtoaplbljflhheaaGreat
open Go.RowKit Go.Sort
def Mf (l : List UInt8) (k : Nat) : Bool := !l.isEmpty && !dgt (l.headD 0) && (decide ((one l).err = 0) && decide ((one l).size = l.length) && decide ((one l).kind = k))
theorem Nz {l : List UInt8} : l.all nam = true ↔ Bz nam l = l.length := by
 constructor
 ·intro h
  have := a1t (p := nam) (a := l) (m := []) (by simpa using h)
  simpa [Bz] using this
 ·intro h
  rw [List.all_eq_true]
  intro c hc
  have := H8 nam l
  rw [h, List.take_length] at this
  exact this c hc
theorem Z9 {c : UInt8} (h : dgt c = true) : sml c = false ∧ grt c = false := by
 unfold dgt at h
 rw [Bool.and_eq_true, decide_eq_true_eq, decide_eq_true_eq] at h
 have a3 : ¬ c = 95 := fun e => by rw [e] at h; exact absurd h.2 (by decide)
 constructor
 ·simp [sml, a3]; omega
 ·simp [grt]; omega
theorem Sq (l : List UInt8) (h1 : (sml (l.headD 0) || grt (l.headD 0)) = false) (h2 : dgt (l.headD 0) = false) (h3 : (one l).err = 0) : (one l).kind = 5 ∨ (one l).kind = 7 := by
 unfold one at *
 rw [if_neg (by rw [h1]; simp), if_neg (by rw [h2]; simp)] at h3 ⊢
 by_cases h34 : l.headD 0 = 34
 ·rw [if_pos h34] at h3 ⊢
  unfold Ku at *
  split
  ·exact .inl rfl
  ·rename_i h; rw [if_neg h] at h3; simp [bad] at h3
 ·rw [if_neg h34] at h3 ⊢
  unfold L4 at *
  split
  ·rename_i h; rw [if_pos h] at h3; simp [bad] at h3
  ·exact .inr rfl
theorem Vb (l : List UInt8) : Mf l 1 = Dm l := by
 unfold Mf Dm Iw
 cases l with
 | nil => rfl
 | cons c t =>
  simp only [List.isEmpty_cons, Bool.not_false, Bool.true_and, List.headD_cons]
  rw [Ww]
  cases hd : dgt c with
  | true => rw [(Z9 hd).1]; rfl
  | false =>
   cases hs : sml c with
   | true =>
    have hg : grt c = false := by
     cases h : grt c with
     | false => rfl
     | true => have := Hv h; rw [hs] at this; cases this
    have e : one (c :: t) = ⟨0, Bz nam (c :: t), Qe (c :: t), 0, (c :: t).take (Bz nam (c :: t))⟩ := by
     rw [one, if_pos (by simp [hs])]
    rw [e]
    simp only [Bool.not_false, Bool.true_and, decide_true]
    by_cases hr : Bz nam (c :: t) = (c :: t).length
    ·rw [decide_eq_true hr, Nz.2 hr, Bool.true_and, Bool.true_and, Qe, hr, List.take_length]
     cases hw : C0 (c :: t) with
     | true => rfl
     | false => simp [hg]
    ·have h2 : (c :: t).all nam = false := by
      rw [Bool.eq_false_iff]; intro h; exact hr (Nz.1 h)
     rw [decide_eq_false hr, h2]; rfl
   | false =>
    rw [Bool.false_and, Bool.false_and]
    simp only [Bool.not_false, Bool.true_and]
    cases hg : grt c with
    | true =>
     have e : one (c :: t) = ⟨0, Bz nam (c :: t), Qe (c :: t), 0, (c :: t).take (Bz nam (c :: t))⟩ := by
      rw [one, if_pos (by simp [hg])]
     rw [e]
     have hk : ¬ Qe (c :: t) = 1 := by
      unfold Qe
      split
      ·decide
      ·simp [hg]
     simp [hk]
    | false =>
     rw [Bool.eq_false_iff]
     intro h
     rw [Bool.and_eq_true, Bool.and_eq_true, decide_eq_true_eq, decide_eq_true_eq, decide_eq_true_eq] at h
     have := Sq (c :: t) (by simp [hs, hg]) hd h.1.1
     omega
theorem Rj (l : List UInt8) : Mf l 2 = Gc l := by
 unfold Mf Gc Iw
 cases l with
 | nil => rfl
 | cons c t =>
  simp only [List.isEmpty_cons, Bool.not_false, Bool.true_and, List.headD_cons]
  rw [Zm]
  cases hd : dgt c with
  | true => rw [(Z9 hd).2]; rfl
  | false =>
   cases hg : grt c with
   | true =>
    have hs := Hv hg
    have e : one (c :: t) = ⟨0, Bz nam (c :: t), Qe (c :: t), 0, (c :: t).take (Bz nam (c :: t))⟩ := by
     rw [one, if_pos (by simp [hg])]
    rw [e]
    simp only [Bool.not_false, Bool.true_and, decide_true]
    by_cases hr : Bz nam (c :: t) = (c :: t).length
    ·rw [decide_eq_true hr, Nz.2 hr, Bool.true_and, Qe, hr, List.take_length]
     cases hw : C0 (c :: t) with
     | true => have := Ly hw; rw [List.headD_cons, hs] at this; cases this
     | false => simp [hg]
    ·have h2 : (c :: t).all nam = false := by
      rw [Bool.eq_false_iff]; intro h; exact hr (Nz.1 h)
     rw [decide_eq_false hr, h2]; rfl
   | false =>
    rw [Bool.false_and]
    simp only [Bool.not_false, Bool.true_and]
    cases hs : sml c with
    | true =>
     have e : one (c :: t) = ⟨0, Bz nam (c :: t), Qe (c :: t), 0, (c :: t).take (Bz nam (c :: t))⟩ := by
      rw [one, if_pos (by simp [hs])]
     rw [e]
     have hk : ¬ Qe (c :: t) = 2 := by
      unfold Qe
      split
      ·decide
      ·simp [hg]
     simp [hk]
    | false =>
     rw [Bool.eq_false_iff]
     intro h
     rw [Bool.and_eq_true, Bool.and_eq_true, decide_eq_true_eq, decide_eq_true_eq, decide_eq_true_eq] at h
     have := Sq (c :: t) (by simp [hs, hg]) hd h.1.1
     omega
theorem Rk (k : Nat) (w : World) : Calls Tryz.prog 88 #[.string { data := #[] }, .int .u8 (k : Nat)] w fun e w' => e = .returned (.bool false) ∧ Below w.heap.size w w' := by
 go_enter Tryz.func88, Tryz.ntmps88
 go_wp2_with fail
 go_ret
 exact ⟨rfl, Below.refl _ _⟩
theorem Rl (s : ByteArray) (k : Nat) (w : World) (h0 : 0 < s.size) (h : dgt s[0] = true) : Calls Tryz.prog 88 #[.string s, .int .u8 (k : Nat)] w fun e w' => e = .returned (.bool false) ∧ Below w.heap.size w w' := by
 unfold dgt at h
 rw [Bool.and_eq_true, decide_eq_true_eq, decide_eq_true_eq] at h
 have g1 : (48 : Int) ≤ (s[0].toNat : Nat) := by omega
 have g2 : ((s[0].toNat : Nat) : Int) ≤ 57 := by omega
 have e0 : ((s.size : Int) == 0) = false := by rw [beq_eq_false_iff_ne]; omega
 clear h
 go_enter Tryz.func88, Tryz.ntmps88
 go_wp2_with fail
 go_ret
 exact ⟨rfl, Below.refl _ _⟩
theorem Vc (s : ByteArray) (k : Nat) (w : World) (h0 : 0 < s.size) (h : dgt s[0] = false) (o : One) (HO : Hid (∀ w, Calls Tryz.prog 125 #[.string s, .int .i64 ((0 : Nat) : Int)] w (Ga 0 o w))) (q : Bool) (hq : (decide (o.err = 0) && decide (o.size = s.size) && decide (o.kind = k)) = q) :
  Calls Tryz.prog 88 #[.string s, .int .u8 (k : Nat)] w fun e w' => e = .returned (.bool q) ∧ Below w.heap.size w w' := by
 have e0 : ((s.size : Int) == 0) = false := by rw [beq_eq_false_iff_ne]; omega
 have HD : Hid (¬ (48 ≤ s[0].toNat ∧ s[0].toNat ≤ 57)) := zz (by simpa [dgt] using h)
 clear h
 obtain ⟨err, sz, kd, nm, tx⟩ := o
 simp only at hq
 by_cases a1 : 48 ≤ s[0].toNat
 ·have g1 : (48 : Int) ≤ (s[0].toNat : Nat) := by omega
  have g2 : decide (((s[0].toNat : Nat) : Int) ≤ 57) = false := by have := HD.out; simp; omega
  clear a1
  by_cases he : err = 0
  ·subst he
   by_cases hz : sz = s.size
   ·by_cases hk : kd = k
    ·obtain rfl : q = true := by rw [← hq]; simp [hz, hk]
     have f1 : ((sz : Int) == (s.size : Int)) = true := by rw [hz]; simp
     have f2 : ((kd : Int) == (k : Int)) = true := by rw [hk]; simp
     clear hq hz hk
     go_enter Tryz.func88, Tryz.ntmps88
     go_wp2_with fail
     refine (HO.out _).mono ?_
     rintro e w1 ⟨kk, rfl, hkk, hb⟩
     obtain rfl : kk = kd := hkk rfl
     simp only [if_true, Nat.zero_add]
     clear hkk
     replace hb := zz hb
     go_wp2_with fail
     go_ret
     exact ⟨rfl, Ab hb.out (by go_grown)⟩
    ·obtain rfl : q = false := by rw [← hq]; simp [hk]
     have f1 : ((sz : Int) == (s.size : Int)) = true := by rw [hz]; simp
     have f2 : ((kd : Int) == (k : Int)) = false := by rw [beq_eq_false_iff_ne]; omega
     clear hq hz hk
     go_enter Tryz.func88, Tryz.ntmps88
     go_wp2_with fail
     refine (HO.out _).mono ?_
     rintro e w1 ⟨kk, rfl, hkk, hb⟩
     obtain rfl : kk = kd := hkk rfl
     simp only [if_true, Nat.zero_add]
     clear hkk
     replace hb := zz hb
     go_wp2_with fail
     go_ret
     exact ⟨rfl, Ab hb.out (by go_grown)⟩
   ·obtain rfl : q = false := by rw [← hq]; simp [hz]
    have f1 : ((sz : Int) == (s.size : Int)) = false := by rw [beq_eq_false_iff_ne]; omega
    clear hq hz
    go_enter Tryz.func88, Tryz.ntmps88
    go_wp2_with fail
    refine (HO.out _).mono ?_
    rintro e w1 ⟨kk, rfl, hkk, hb⟩
    obtain rfl : kk = kd := hkk rfl
    simp only [if_true, Nat.zero_add]
    clear hkk
    replace hb := zz hb
    go_wp2_with fail
    go_ret
    exact ⟨rfl, Ab hb.out (by go_grown)⟩
  ·obtain rfl : q = false := by rw [← hq]; simp [he]
   have f0 : (err == 0) = false := by rw [beq_eq_false_iff_ne]; exact he
   clear hq
   go_enter Tryz.func88, Tryz.ntmps88
   go_wp2_with fail
   refine (HO.out _).mono ?_
   rintro e w1 ⟨kk, rfl, hkk, hb⟩
   simp only [if_neg he]
   clear hkk he
   replace hb := zz hb
   go_wp2_with fail
   go_ret
   exact ⟨rfl, Ab hb.out (by go_grown)⟩
 ·have g1 : decide ((48 : Int) ≤ (s[0].toNat : Nat)) = false := by simp; omega
  clear a1
  by_cases he : err = 0
  ·subst he
   by_cases hz : sz = s.size
   ·by_cases hk : kd = k
    ·obtain rfl : q = true := by rw [← hq]; simp [hz, hk]
     have f1 : ((sz : Int) == (s.size : Int)) = true := by rw [hz]; simp
     have f2 : ((kd : Int) == (k : Int)) = true := by rw [hk]; simp
     clear hq hz hk
     go_enter Tryz.func88, Tryz.ntmps88
     go_wp2_with fail
     refine (HO.out _).mono ?_
     rintro e w1 ⟨kk, rfl, hkk, hb⟩
     obtain rfl : kk = kd := hkk rfl
     simp only [if_true, Nat.zero_add]
     clear hkk
     replace hb := zz hb
     go_wp2_with fail
     go_ret
     exact ⟨rfl, Ab hb.out (by go_grown)⟩
    ·obtain rfl : q = false := by rw [← hq]; simp [hk]
     have f1 : ((sz : Int) == (s.size : Int)) = true := by rw [hz]; simp
     have f2 : ((kd : Int) == (k : Int)) = false := by rw [beq_eq_false_iff_ne]; omega
     clear hq hz hk
     go_enter Tryz.func88, Tryz.ntmps88
     go_wp2_with fail
     refine (HO.out _).mono ?_
     rintro e w1 ⟨kk, rfl, hkk, hb⟩
     obtain rfl : kk = kd := hkk rfl
     simp only [if_true, Nat.zero_add]
     clear hkk
     replace hb := zz hb
     go_wp2_with fail
     go_ret
     exact ⟨rfl, Ab hb.out (by go_grown)⟩
   ·obtain rfl : q = false := by rw [← hq]; simp [hz]
    have f1 : ((sz : Int) == (s.size : Int)) = false := by rw [beq_eq_false_iff_ne]; omega
    clear hq hz
    go_enter Tryz.func88, Tryz.ntmps88
    go_wp2_with fail
    refine (HO.out _).mono ?_
    rintro e w1 ⟨kk, rfl, hkk, hb⟩
    obtain rfl : kk = kd := hkk rfl
    simp only [if_true, Nat.zero_add]
    clear hkk
    replace hb := zz hb
    go_wp2_with fail
    go_ret
    exact ⟨rfl, Ab hb.out (by go_grown)⟩
  ·obtain rfl : q = false := by rw [← hq]; simp [he]
   have f0 : (err == 0) = false := by rw [beq_eq_false_iff_ne]; exact he
   clear hq
   go_enter Tryz.func88, Tryz.ntmps88
   go_wp2_with fail
   refine (HO.out _).mono ?_
   rintro e w1 ⟨kk, rfl, hkk, hb⟩
   simp only [if_neg he]
   clear hkk he
   replace hb := zz hb
   go_wp2_with fail
   go_ret
   exact ⟨rfl, Ab hb.out (by go_grown)⟩
theorem Pi (s : ByteArray) (k : Nat) (w : World) (hs : s.size ≤ 100000) (q : Bool) (hq : Mf s.data.toList k = q) : Calls Tryz.prog 88 #[.string s, .int .u8 (k : Nat)] w fun e w' => e = .returned (.bool q) ∧ Below w.heap.size w w' := by
 by_cases h0 : 0 < s.size
 ·unfold Mf at hq
  have h1 : s.data.toList.isEmpty = false := by
   rw [List.isEmpty_eq_false_iff]
   intro e
   rw [← Ae, e] at h0
   simp at h0
  rw [h1, B9 s h0, Ae] at hq
  cases hd : dgt s[0] with
  | true =>
   rw [hd] at hq
   have : q = false := by rw [← hq]; rfl
   subst this
   exact Rl s k w h0 hd
  | false =>
   rw [hd] at hq
   simp only [Bool.not_false, Bool.true_and] at hq
   exact Vc s k w h0 hd (one s.data.toList) (zz fun w => by have := a6w s w hs 0 h0 hd; rwa [List.drop_zero] at this) q hq
 ·have := Co s h0
  subst this
  have : q = false := by rw [← hq]; rfl
  subst this
  exact Rk k w
theorem Eb (s : ByteArray) (w : World) (hs : s.size ≤ 100000) (q : Bool) (hq : Dm s.data.toList = q) : Calls Tryz.prog 53 #[.string s] w fun e w' => e = .returned (.bool q) ∧ Below w.heap.size w w' := by
 have H := zz (Pi s 1 w hs q (by rw [Vb]; exact hq))
 clear hq
 go_enter Tryz.func53, Tryz.ntmps53
 go_wp2_with (go_at_call 88; refine H.out.mono ?_; rintro e w' ⟨rfl, hb⟩; replace hb := zz hb)
 go_ret
 exact ⟨rfl, hb.out⟩
theorem L6 (s : ByteArray) (w : World) (hs : s.size ≤ 100000) (q : Bool) (hq : Gc s.data.toList = q) : Calls Tryz.prog 52 #[.string s] w fun e w' => e = .returned (.bool q) ∧ Below w.heap.size w w' := by
 have H := zz (Pi s 2 w hs q (by rw [Rj]; exact hq))
 clear hq
 go_enter Tryz.func52, Tryz.ntmps52
 go_wp2_with (go_at_call 88; refine H.out.mono ?_; rintro e w' ⟨rfl, hb⟩; replace hb := zz hb)
 go_ret
 exact ⟨rfl, hb.out⟩
def srt (c : Nat) : UInt8 := if c = 14 then 48 else if 15 ≤ c ∧ c ≤ 20 then 116 else if 21 ≤ c ∧ c ≤ 32 then 101 else if 7 ≤ c ∧ c ≤ 13 then 115 else if c = 6 then 98 else if c = 5 then 112 else if c = 3 then 102 else if c = 2 ∨ c = 4 then 100 else 45
theorem b3y (ln cl sz num : Int) (tx : ByteArray) (w : World) : Calls Tryz.prog 54 #[.agg #[.int .u8 0, .int .i64 ln, .int .i64 cl, .int .i64 sz, .int .i64 num, .string tx]] w fun e w' => e = .returned (.int .u8 45) ∧ Below w.heap.size w w' := by
 have hA := zz (Aa w (.cells #[.int .u8 0, .int .i64 ln, .int .i64 cl, .int .i64 sz, .int .i64 num, .string tx] 37))
 go_enter Tryz.func54, Tryz.ntmps54
 go_wp2_with fail
 go_ret
 exact ⟨rfl, hA.out⟩
theorem b3x (ln cl sz num : Int) (tx : ByteArray) (w : World) : Calls Tryz.prog 54 #[.agg #[.int .u8 1, .int .i64 ln, .int .i64 cl, .int .i64 sz, .int .i64 num, .string tx]] w fun e w' => e = .returned (.int .u8 45) ∧ Below w.heap.size w w' := by
 have hA := zz (Aa w (.cells #[.int .u8 1, .int .i64 ln, .int .i64 cl, .int .i64 sz, .int .i64 num, .string tx] 37))
 go_enter Tryz.func54, Tryz.ntmps54
 go_wp2_with fail
 go_ret
 exact ⟨rfl, hA.out⟩
theorem b3w (ln cl sz num : Int) (tx : ByteArray) (w : World) : Calls Tryz.prog 54 #[.agg #[.int .u8 2, .int .i64 ln, .int .i64 cl, .int .i64 sz, .int .i64 num, .string tx]] w fun e w' => e = .returned (.int .u8 100) ∧ Below w.heap.size w w' := by
 have hA := zz (Aa w (.cells #[.int .u8 2, .int .i64 ln, .int .i64 cl, .int .i64 sz, .int .i64 num, .string tx] 37))
 go_enter Tryz.func54, Tryz.ntmps54
 go_wp2_with fail
 go_ret
 exact ⟨rfl, hA.out⟩
theorem b3v (ln cl sz num : Int) (tx : ByteArray) (w : World) : Calls Tryz.prog 54 #[.agg #[.int .u8 3, .int .i64 ln, .int .i64 cl, .int .i64 sz, .int .i64 num, .string tx]] w fun e w' => e = .returned (.int .u8 102) ∧ Below w.heap.size w w' := by
 have hA := zz (Aa w (.cells #[.int .u8 3, .int .i64 ln, .int .i64 cl, .int .i64 sz, .int .i64 num, .string tx] 37))
 go_enter Tryz.func54, Tryz.ntmps54
 go_wp2_with fail
 go_ret
 exact ⟨rfl, hA.out⟩
theorem b3u (ln cl sz num : Int) (tx : ByteArray) (w : World) : Calls Tryz.prog 54 #[.agg #[.int .u8 4, .int .i64 ln, .int .i64 cl, .int .i64 sz, .int .i64 num, .string tx]] w fun e w' => e = .returned (.int .u8 100) ∧ Below w.heap.size w w' := by
 have hA := zz (Aa w (.cells #[.int .u8 4, .int .i64 ln, .int .i64 cl, .int .i64 sz, .int .i64 num, .string tx] 37))
 go_enter Tryz.func54, Tryz.ntmps54
 go_wp2_with fail
 go_ret
 exact ⟨rfl, hA.out⟩
theorem b3t (ln cl sz num : Int) (tx : ByteArray) (w : World) : Calls Tryz.prog 54 #[.agg #[.int .u8 5, .int .i64 ln, .int .i64 cl, .int .i64 sz, .int .i64 num, .string tx]] w fun e w' => e = .returned (.int .u8 112) ∧ Below w.heap.size w w' := by
 have hA := zz (Aa w (.cells #[.int .u8 5, .int .i64 ln, .int .i64 cl, .int .i64 sz, .int .i64 num, .string tx] 37))
 go_enter Tryz.func54, Tryz.ntmps54
 go_wp2_with fail
 go_ret
 exact ⟨rfl, hA.out⟩
theorem b3s (ln cl sz num : Int) (tx : ByteArray) (w : World) : Calls Tryz.prog 54 #[.agg #[.int .u8 6, .int .i64 ln, .int .i64 cl, .int .i64 sz, .int .i64 num, .string tx]] w fun e w' => e = .returned (.int .u8 98) ∧ Below w.heap.size w w' := by
 have hA := zz (Aa w (.cells #[.int .u8 6, .int .i64 ln, .int .i64 cl, .int .i64 sz, .int .i64 num, .string tx] 37))
 go_enter Tryz.func54, Tryz.ntmps54
 go_wp2_with fail
 go_ret
 exact ⟨rfl, hA.out⟩
theorem b3r (ln cl sz num : Int) (tx : ByteArray) (w : World) : Calls Tryz.prog 54 #[.agg #[.int .u8 7, .int .i64 ln, .int .i64 cl, .int .i64 sz, .int .i64 num, .string tx]] w fun e w' => e = .returned (.int .u8 115) ∧ Below w.heap.size w w' := by
 have hA := zz (Aa w (.cells #[.int .u8 7, .int .i64 ln, .int .i64 cl, .int .i64 sz, .int .i64 num, .string tx] 37))
 go_enter Tryz.func54, Tryz.ntmps54
 go_wp2_with fail
 go_ret
 exact ⟨rfl, hA.out⟩
theorem b3q (ln cl sz num : Int) (tx : ByteArray) (w : World) : Calls Tryz.prog 54 #[.agg #[.int .u8 8, .int .i64 ln, .int .i64 cl, .int .i64 sz, .int .i64 num, .string tx]] w fun e w' => e = .returned (.int .u8 115) ∧ Below w.heap.size w w' := by
 have hA := zz (Aa w (.cells #[.int .u8 8, .int .i64 ln, .int .i64 cl, .int .i64 sz, .int .i64 num, .string tx] 37))
 go_enter Tryz.func54, Tryz.ntmps54
 go_wp2_with fail
 go_ret
 exact ⟨rfl, hA.out⟩
theorem b3p (ln cl sz num : Int) (tx : ByteArray) (w : World) : Calls Tryz.prog 54 #[.agg #[.int .u8 9, .int .i64 ln, .int .i64 cl, .int .i64 sz, .int .i64 num, .string tx]] w fun e w' => e = .returned (.int .u8 115) ∧ Below w.heap.size w w' := by
 have hA := zz (Aa w (.cells #[.int .u8 9, .int .i64 ln, .int .i64 cl, .int .i64 sz, .int .i64 num, .string tx] 37))
 go_enter Tryz.func54, Tryz.ntmps54
 go_wp2_with fail
 go_ret
 exact ⟨rfl, hA.out⟩
theorem b0p (ln cl sz num : Int) (tx : ByteArray) (w : World) : Calls Tryz.prog 54 #[.agg #[.int .u8 10, .int .i64 ln, .int .i64 cl, .int .i64 sz, .int .i64 num, .string tx]] w fun e w' => e = .returned (.int .u8 115) ∧ Below w.heap.size w w' := by
 have hA := zz (Aa w (.cells #[.int .u8 10, .int .i64 ln, .int .i64 cl, .int .i64 sz, .int .i64 num, .string tx] 37))
 go_enter Tryz.func54, Tryz.ntmps54
 go_wp2_with fail
 go_ret
 exact ⟨rfl, hA.out⟩
theorem b0o (ln cl sz num : Int) (tx : ByteArray) (w : World) : Calls Tryz.prog 54 #[.agg #[.int .u8 11, .int .i64 ln, .int .i64 cl, .int .i64 sz, .int .i64 num, .string tx]] w fun e w' => e = .returned (.int .u8 115) ∧ Below w.heap.size w w' := by
 have hA := zz (Aa w (.cells #[.int .u8 11, .int .i64 ln, .int .i64 cl, .int .i64 sz, .int .i64 num, .string tx] 37))
 go_enter Tryz.func54, Tryz.ntmps54
 go_wp2_with fail
 go_ret
 exact ⟨rfl, hA.out⟩
theorem b0n (ln cl sz num : Int) (tx : ByteArray) (w : World) : Calls Tryz.prog 54 #[.agg #[.int .u8 12, .int .i64 ln, .int .i64 cl, .int .i64 sz, .int .i64 num, .string tx]] w fun e w' => e = .returned (.int .u8 115) ∧ Below w.heap.size w w' := by
 have hA := zz (Aa w (.cells #[.int .u8 12, .int .i64 ln, .int .i64 cl, .int .i64 sz, .int .i64 num, .string tx] 37))
 go_enter Tryz.func54, Tryz.ntmps54
 go_wp2_with fail
 go_ret
 exact ⟨rfl, hA.out⟩
theorem b0m (ln cl sz num : Int) (tx : ByteArray) (w : World) : Calls Tryz.prog 54 #[.agg #[.int .u8 13, .int .i64 ln, .int .i64 cl, .int .i64 sz, .int .i64 num, .string tx]] w fun e w' => e = .returned (.int .u8 115) ∧ Below w.heap.size w w' := by
 have hA := zz (Aa w (.cells #[.int .u8 13, .int .i64 ln, .int .i64 cl, .int .i64 sz, .int .i64 num, .string tx] 37))
 go_enter Tryz.func54, Tryz.ntmps54
 go_wp2_with fail
 go_ret
 exact ⟨rfl, hA.out⟩
theorem b0l (ln cl sz num : Int) (tx : ByteArray) (w : World) : Calls Tryz.prog 54 #[.agg #[.int .u8 14, .int .i64 ln, .int .i64 cl, .int .i64 sz, .int .i64 num, .string tx]] w fun e w' => e = .returned (.int .u8 48) ∧ Below w.heap.size w w' := by
 have hA := zz (Aa w (.cells #[.int .u8 14, .int .i64 ln, .int .i64 cl, .int .i64 sz, .int .i64 num, .string tx] 37))
 go_enter Tryz.func54, Tryz.ntmps54
 go_wp2_with fail
 go_ret
 exact ⟨rfl, hA.out⟩
theorem b0k (ln cl sz num : Int) (tx : ByteArray) (w : World) : Calls Tryz.prog 54 #[.agg #[.int .u8 15, .int .i64 ln, .int .i64 cl, .int .i64 sz, .int .i64 num, .string tx]] w fun e w' => e = .returned (.int .u8 116) ∧ Below w.heap.size w w' := by
 have hA := zz (Aa w (.cells #[.int .u8 15, .int .i64 ln, .int .i64 cl, .int .i64 sz, .int .i64 num, .string tx] 37))
 go_enter Tryz.func54, Tryz.ntmps54
 go_wp2_with fail
 go_ret
 exact ⟨rfl, hA.out⟩
theorem b0j (ln cl sz num : Int) (tx : ByteArray) (w : World) : Calls Tryz.prog 54 #[.agg #[.int .u8 16, .int .i64 ln, .int .i64 cl, .int .i64 sz, .int .i64 num, .string tx]] w fun e w' => e = .returned (.int .u8 116) ∧ Below w.heap.size w w' := by
 have hA := zz (Aa w (.cells #[.int .u8 16, .int .i64 ln, .int .i64 cl, .int .i64 sz, .int .i64 num, .string tx] 37))
 go_enter Tryz.func54, Tryz.ntmps54
 go_wp2_with fail
 go_ret
 exact ⟨rfl, hA.out⟩
theorem b0i (ln cl sz num : Int) (tx : ByteArray) (w : World) : Calls Tryz.prog 54 #[.agg #[.int .u8 17, .int .i64 ln, .int .i64 cl, .int .i64 sz, .int .i64 num, .string tx]] w fun e w' => e = .returned (.int .u8 116) ∧ Below w.heap.size w w' := by
 have hA := zz (Aa w (.cells #[.int .u8 17, .int .i64 ln, .int .i64 cl, .int .i64 sz, .int .i64 num, .string tx] 37))
 go_enter Tryz.func54, Tryz.ntmps54
 go_wp2_with fail
 go_ret
 exact ⟨rfl, hA.out⟩
theorem b0h (ln cl sz num : Int) (tx : ByteArray) (w : World) : Calls Tryz.prog 54 #[.agg #[.int .u8 18, .int .i64 ln, .int .i64 cl, .int .i64 sz, .int .i64 num, .string tx]] w fun e w' => e = .returned (.int .u8 116) ∧ Below w.heap.size w w' := by
 have hA := zz (Aa w (.cells #[.int .u8 18, .int .i64 ln, .int .i64 cl, .int .i64 sz, .int .i64 num, .string tx] 37))
 go_enter Tryz.func54, Tryz.ntmps54
 go_wp2_with fail
 go_ret
 exact ⟨rfl, hA.out⟩
theorem b0g (ln cl sz num : Int) (tx : ByteArray) (w : World) : Calls Tryz.prog 54 #[.agg #[.int .u8 19, .int .i64 ln, .int .i64 cl, .int .i64 sz, .int .i64 num, .string tx]] w fun e w' => e = .returned (.int .u8 116) ∧ Below w.heap.size w w' := by
 have hA := zz (Aa w (.cells #[.int .u8 19, .int .i64 ln, .int .i64 cl, .int .i64 sz, .int .i64 num, .string tx] 37))
 go_enter Tryz.func54, Tryz.ntmps54
 go_wp2_with fail
 go_ret
 exact ⟨rfl, hA.out⟩
theorem b0f (ln cl sz num : Int) (tx : ByteArray) (w : World) : Calls Tryz.prog 54 #[.agg #[.int .u8 20, .int .i64 ln, .int .i64 cl, .int .i64 sz, .int .i64 num, .string tx]] w fun e w' => e = .returned (.int .u8 116) ∧ Below w.heap.size w w' := by
 have hA := zz (Aa w (.cells #[.int .u8 20, .int .i64 ln, .int .i64 cl, .int .i64 sz, .int .i64 num, .string tx] 37))
 go_enter Tryz.func54, Tryz.ntmps54
 go_wp2_with fail
 go_ret
 exact ⟨rfl, hA.out⟩
theorem b0e (ln cl sz num : Int) (tx : ByteArray) (w : World) : Calls Tryz.prog 54 #[.agg #[.int .u8 21, .int .i64 ln, .int .i64 cl, .int .i64 sz, .int .i64 num, .string tx]] w fun e w' => e = .returned (.int .u8 101) ∧ Below w.heap.size w w' := by
 have hA := zz (Aa w (.cells #[.int .u8 21, .int .i64 ln, .int .i64 cl, .int .i64 sz, .int .i64 num, .string tx] 37))
 go_enter Tryz.func54, Tryz.ntmps54
 go_wp2_with fail
 go_ret
 exact ⟨rfl, hA.out⟩
theorem b0d (ln cl sz num : Int) (tx : ByteArray) (w : World) : Calls Tryz.prog 54 #[.agg #[.int .u8 22, .int .i64 ln, .int .i64 cl, .int .i64 sz, .int .i64 num, .string tx]] w fun e w' => e = .returned (.int .u8 101) ∧ Below w.heap.size w w' := by
 have hA := zz (Aa w (.cells #[.int .u8 22, .int .i64 ln, .int .i64 cl, .int .i64 sz, .int .i64 num, .string tx] 37))
 go_enter Tryz.func54, Tryz.ntmps54
 go_wp2_with fail
 go_ret
 exact ⟨rfl, hA.out⟩
theorem b0c (ln cl sz num : Int) (tx : ByteArray) (w : World) : Calls Tryz.prog 54 #[.agg #[.int .u8 23, .int .i64 ln, .int .i64 cl, .int .i64 sz, .int .i64 num, .string tx]] w fun e w' => e = .returned (.int .u8 101) ∧ Below w.heap.size w w' := by
 have hA := zz (Aa w (.cells #[.int .u8 23, .int .i64 ln, .int .i64 cl, .int .i64 sz, .int .i64 num, .string tx] 37))
 go_enter Tryz.func54, Tryz.ntmps54
 go_wp2_with fail
 go_ret
 exact ⟨rfl, hA.out⟩
theorem b0b (ln cl sz num : Int) (tx : ByteArray) (w : World) : Calls Tryz.prog 54 #[.agg #[.int .u8 24, .int .i64 ln, .int .i64 cl, .int .i64 sz, .int .i64 num, .string tx]] w fun e w' => e = .returned (.int .u8 101) ∧ Below w.heap.size w w' := by
 have hA := zz (Aa w (.cells #[.int .u8 24, .int .i64 ln, .int .i64 cl, .int .i64 sz, .int .i64 num, .string tx] 37))
 go_enter Tryz.func54, Tryz.ntmps54
 go_wp2_with fail
 go_ret
 exact ⟨rfl, hA.out⟩
theorem b0a (ln cl sz num : Int) (tx : ByteArray) (w : World) : Calls Tryz.prog 54 #[.agg #[.int .u8 25, .int .i64 ln, .int .i64 cl, .int .i64 sz, .int .i64 num, .string tx]] w fun e w' => e = .returned (.int .u8 101) ∧ Below w.heap.size w w' := by
 have hA := zz (Aa w (.cells #[.int .u8 25, .int .i64 ln, .int .i64 cl, .int .i64 sz, .int .i64 num, .string tx] 37))
 go_enter Tryz.func54, Tryz.ntmps54
 go_wp2_with fail
 go_ret
 exact ⟨rfl, hA.out⟩
theorem a99 (ln cl sz num : Int) (tx : ByteArray) (w : World) : Calls Tryz.prog 54 #[.agg #[.int .u8 26, .int .i64 ln, .int .i64 cl, .int .i64 sz, .int .i64 num, .string tx]] w fun e w' => e = .returned (.int .u8 101) ∧ Below w.heap.size w w' := by
 have hA := zz (Aa w (.cells #[.int .u8 26, .int .i64 ln, .int .i64 cl, .int .i64 sz, .int .i64 num, .string tx] 37))
 go_enter Tryz.func54, Tryz.ntmps54
 go_wp2_with fail
 go_ret
 exact ⟨rfl, hA.out⟩
theorem a98 (ln cl sz num : Int) (tx : ByteArray) (w : World) : Calls Tryz.prog 54 #[.agg #[.int .u8 27, .int .i64 ln, .int .i64 cl, .int .i64 sz, .int .i64 num, .string tx]] w fun e w' => e = .returned (.int .u8 101) ∧ Below w.heap.size w w' := by
 have hA := zz (Aa w (.cells #[.int .u8 27, .int .i64 ln, .int .i64 cl, .int .i64 sz, .int .i64 num, .string tx] 37))
 go_enter Tryz.func54, Tryz.ntmps54
 go_wp2_with fail
 go_ret
 exact ⟨rfl, hA.out⟩
theorem a97 (ln cl sz num : Int) (tx : ByteArray) (w : World) : Calls Tryz.prog 54 #[.agg #[.int .u8 28, .int .i64 ln, .int .i64 cl, .int .i64 sz, .int .i64 num, .string tx]] w fun e w' => e = .returned (.int .u8 101) ∧ Below w.heap.size w w' := by
 have hA := zz (Aa w (.cells #[.int .u8 28, .int .i64 ln, .int .i64 cl, .int .i64 sz, .int .i64 num, .string tx] 37))
 go_enter Tryz.func54, Tryz.ntmps54
 go_wp2_with fail
 go_ret
 exact ⟨rfl, hA.out⟩
theorem a96 (ln cl sz num : Int) (tx : ByteArray) (w : World) : Calls Tryz.prog 54 #[.agg #[.int .u8 29, .int .i64 ln, .int .i64 cl, .int .i64 sz, .int .i64 num, .string tx]] w fun e w' => e = .returned (.int .u8 101) ∧ Below w.heap.size w w' := by
 have hA := zz (Aa w (.cells #[.int .u8 29, .int .i64 ln, .int .i64 cl, .int .i64 sz, .int .i64 num, .string tx] 37))
 go_enter Tryz.func54, Tryz.ntmps54
 go_wp2_with fail
 go_ret
 exact ⟨rfl, hA.out⟩
theorem a95 (ln cl sz num : Int) (tx : ByteArray) (w : World) : Calls Tryz.prog 54 #[.agg #[.int .u8 30, .int .i64 ln, .int .i64 cl, .int .i64 sz, .int .i64 num, .string tx]] w fun e w' => e = .returned (.int .u8 101) ∧ Below w.heap.size w w' := by
 have hA := zz (Aa w (.cells #[.int .u8 30, .int .i64 ln, .int .i64 cl, .int .i64 sz, .int .i64 num, .string tx] 37))
 go_enter Tryz.func54, Tryz.ntmps54
 go_wp2_with fail
 go_ret
 exact ⟨rfl, hA.out⟩
theorem a94 (ln cl sz num : Int) (tx : ByteArray) (w : World) : Calls Tryz.prog 54 #[.agg #[.int .u8 31, .int .i64 ln, .int .i64 cl, .int .i64 sz, .int .i64 num, .string tx]] w fun e w' => e = .returned (.int .u8 101) ∧ Below w.heap.size w w' := by
 have hA := zz (Aa w (.cells #[.int .u8 31, .int .i64 ln, .int .i64 cl, .int .i64 sz, .int .i64 num, .string tx] 37))
 go_enter Tryz.func54, Tryz.ntmps54
 go_wp2_with fail
 go_ret
 exact ⟨rfl, hA.out⟩
theorem a93 (ln cl sz num : Int) (tx : ByteArray) (w : World) : Calls Tryz.prog 54 #[.agg #[.int .u8 32, .int .i64 ln, .int .i64 cl, .int .i64 sz, .int .i64 num, .string tx]] w fun e w' => e = .returned (.int .u8 101) ∧ Below w.heap.size w w' := by
 have hA := zz (Aa w (.cells #[.int .u8 32, .int .i64 ln, .int .i64 cl, .int .i64 sz, .int .i64 num, .string tx] 37))
 go_enter Tryz.func54, Tryz.ntmps54
 go_wp2_with fail
 go_ret
 exact ⟨rfl, hA.out⟩
theorem a1m (k : Nat) (hk : 33 ≤ k) (ln cl sz num : Int) (tx : ByteArray) (w : World) : Calls Tryz.prog 54 #[.agg #[.int .u8 (k : Nat), .int .i64 ln, .int .i64 cl, .int .i64 sz, .int .i64 num, .string tx]] w fun e w' => e = .returned (.int .u8 45) ∧ Below w.heap.size w w' := by
 have hA := zz (Aa w (.cells #[.int .u8 (k : Nat), .int .i64 ln, .int .i64 cl, .int .i64 sz, .int .i64 num, .string tx] 37))
 have e14 : ((k : Int) == 14) = false := by rw [beq_eq_false_iff_ne]; omega
 have e6 : ((k : Int) == 6) = false := by rw [beq_eq_false_iff_ne]; omega
 have e5 : ((k : Int) == 5) = false := by rw [beq_eq_false_iff_ne]; omega
 have e3 : ((k : Int) == 3) = false := by rw [beq_eq_false_iff_ne]; omega
 have e2 : ((k : Int) == 2) = false := by rw [beq_eq_false_iff_ne]; omega
 have e4 : ((k : Int) == 4) = false := by rw [beq_eq_false_iff_ne]; omega
 have g15 : 15 ≤ (k : Int) := by omega
 have g21 : 21 ≤ (k : Int) := by omega
 have g7 : 7 ≤ (k : Int) := by omega
 have f20 : decide ((k : Int) ≤ 20) = false := by simp; omega
 have f32 : decide ((k : Int) ≤ 32) = false := by simp; omega
 have f13 : decide ((k : Int) ≤ 13) = false := by simp; omega
 clear hk
 go_enter Tryz.func54, Tryz.ntmps54
 go_wp2_with fail
 go_ret
 exact ⟨rfl, hA.out⟩
theorem Mv (n : Nd) (w : World) : Calls Tryz.prog 54 #[ndV n] w fun e w' => e = .returned (.int .u8 ((srt n.kind).toNat : Nat)) ∧ Below w.heap.size w w' := by
 obtain ⟨k, ln, cl, sz, num, tx⟩ := n
 by_cases h : 33 ≤ k
 ·have e : srt k = 45 := by unfold srt; rw [if_neg (by omega), if_neg (by omega), if_neg (by omega), if_neg (by omega), if_neg (by omega), if_neg (by omega), if_neg (by omega), if_neg (by omega)]
  simp only [e]
  exact a1m k h ln cl sz num tx w
 ·match k, h with
  | 0, _ => exact b3y ln cl sz num tx w
  | 1, _ => exact b3x ln cl sz num tx w
  | 2, _ => exact b3w ln cl sz num tx w
  | 3, _ => exact b3v ln cl sz num tx w
  | 4, _ => exact b3u ln cl sz num tx w
  | 5, _ => exact b3t ln cl sz num tx w
  | 6, _ => exact b3s ln cl sz num tx w
  | 7, _ => exact b3r ln cl sz num tx w
  | 8, _ => exact b3q ln cl sz num tx w
  | 9, _ => exact b3p ln cl sz num tx w
  | 10, _ => exact b0p ln cl sz num tx w
  | 11, _ => exact b0o ln cl sz num tx w
  | 12, _ => exact b0n ln cl sz num tx w
  | 13, _ => exact b0m ln cl sz num tx w
  | 14, _ => exact b0l ln cl sz num tx w
  | 15, _ => exact b0k ln cl sz num tx w
  | 16, _ => exact b0j ln cl sz num tx w
  | 17, _ => exact b0i ln cl sz num tx w
  | 18, _ => exact b0h ln cl sz num tx w
  | 19, _ => exact b0g ln cl sz num tx w
  | 20, _ => exact b0f ln cl sz num tx w
  | 21, _ => exact b0e ln cl sz num tx w
  | 22, _ => exact b0d ln cl sz num tx w
  | 23, _ => exact b0c ln cl sz num tx w
  | 24, _ => exact b0b ln cl sz num tx w
  | 25, _ => exact b0a ln cl sz num tx w
  | 26, _ => exact a99 ln cl sz num tx w
  | 27, _ => exact a98 ln cl sz num tx w
  | 28, _ => exact a97 ln cl sz num tx w
  | 29, _ => exact a96 ln cl sz num tx w
  | 30, _ => exact a95 ln cl sz num tx w
  | 31, _ => exact a94 ln cl sz num tx w
  | 32, _ => exact a93 ln cl sz num tx w
  | k + 33, h => omega
theorem D2 (s : ByteArray) (c : Nat) (w : World) (q : Bool) (hs : s.size ≤ 9000000000) (hq : Hid (s.data.toList.all (fun x => decide (x.toNat = c)) = q)) : Calls Tryz.prog 55 #[.string s, .int .u8 (c : Nat)] w fun e w' => e = .returned (.bool q) ∧ w = w' := by
 go_enter Tryz.func55, Tryz.ntmps55
 go_wp2_with fail
 go_loop [5] (fun j => ∃ k : Nat, k ≤ s.size ∧ j = .int .i64 k ∧ ∀ i (hi : i < s.size), i < k → s[i].toNat = c) (fun j => s.size - (intOf j).toNat)
 case atStart => exact ⟨0, Nat.zero_le _, rfl, fun i _ h => absurd h (by omega)⟩
 case round =>
  obtain ⟨k, hk, rfl, hall⟩ := hrel
  replace hall := zz hall
  by_cases hlt : k < s.size
  ·by_cases he : s[k].toNat = c
   ·have HA := zz (show ∀ i (hi : i < s.size), i < k + 1 → s[i].toNat = c from fun i hi h => by
     by_cases e : i = k
     ·subst e; exact he
     ·exact hall.out i hi (by omega))
    have e1 : (((s[k].toNat : Nat) : Int) != (c : Int)) = false := by rw [he]; simp
    clear he
    go_wp2_with fail
    go_round
    case rel => exact ⟨k + 1, hlt, by go_num, HA.out⟩
    case measure => simp [intOf]; omega
   ·have hq' : q = false := by
     rw [← hq.out, List.all_eq_false]
     exact ⟨s[k], List.mem_of_getElem? (Jy s k hlt), by simpa using he⟩
    subst hq'
    have e1 : (((s[k].toNat : Nat) : Int) != (c : Int)) = true := by rw [bne_iff_ne]; omega
    clear he
    go_wp2_with fail
    go_ret
    exact ⟨rfl, rfl⟩
  ·have hq' : q = true := by
    rw [← hq.out, List.all_eq_true]
    intro x hx
    obtain ⟨i, hi, rfl⟩ := List.getElem_of_mem hx
    have := hall.out i (by rw [Ae] at hi; exact hi) (by rw [Ae] at hi; omega)
    exact decide_eq_true this
   subst hq'
   go_wp2_with fail
   go_ret
   exact ⟨rfl, rfl⟩
end Go.Proofs.YtoaplbljflhheaaGreat
