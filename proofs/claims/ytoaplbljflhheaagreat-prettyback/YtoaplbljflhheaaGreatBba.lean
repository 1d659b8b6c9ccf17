/-
 Contracts and plain facts on the way to PrettyBack. Conditions: as each says.
-/
import Derived.Test.YtoaplbljflhheaaGreatBat
import Derived.Test.YtoaplbljflhheaaGreatBaw
set_option maxHeartbeats 40000000
set_option maxRecDepth 100000
set_option linter.unusedVariables false
set_option linter.unusedSimpArgs false
namespace Go.Proofs.YtoaplbljflhheaaGreat
open _root_.Go.Proofs.Tryz
section
open Go.RowKit Go.Sort
def Rp (l : List UInt8) (k : Nat) : Bool := !l.isEmpty && !dgt (l.headD 0) && (decide ((one l).err = 0) && decide ((one l).size = l.length) && decide ((one l).kind = k))
theorem Tj {l : List UInt8} : l.all nam = true ↔ Bz nam l = l.length := by
 constructor
 ·intro h;have := Oe (p := nam) (a := l) (m := []) (by simpa using h);simpa [Bz] using this
 ·intro h;rw [List.all_eq_true];intro c hc;have := I4 nam l;rw [h, List.take_length] at this;exact this c hc
theorem a5y {c : UInt8} (h : dgt c = true) : sml c = false ∧ grt c = false := by
 unfold dgt at h;rw [Bool.and_eq_true, decide_eq_true_eq, decide_eq_true_eq] at h;have a3 : ¬ c = 95 := fun e => by rw [e] at h; exact absurd h.2 (by decide)
 constructor
 ·simp [sml, a3]; omega
 ·simp [grt]; omega
theorem Y0 (l : List UInt8) (h1 : (sml (l.headD 0) || grt (l.headD 0)) = false) (h2 : dgt (l.headD 0) = false) (h3 : (one l).err = 0) : (one l).kind = 5 ∨ (one l).kind = 7 := by
 unfold one at *;rw [if_neg (by rw [h1]; simp), if_neg (by rw [h2]; simp)] at h3 ⊢;by_cases h34 : l.headD 0 = 34
 ·rw [if_pos h34] at h3 ⊢;unfold Ll at *;split
  ·exact .inl rfl
  ·rename_i h; rw [if_neg h] at h3; simp [bad] at h3
 ·rw [if_neg h34] at h3 ⊢;unfold Lh at *;split
  ·rename_i h; rw [if_pos h] at h3; simp [bad] at h3
  ·exact .inr rfl
theorem a04 (l : List UInt8) : Rp l 1 = Ed l := by
 unfold Rp Ed J4
 cases l with
 | nil => rfl
 | cons c t =>
  simp only [List.isEmpty_cons, Bool.not_false, Bool.true_and, List.headD_cons];rw [a2i]
  cases hd : dgt c with
  | true => rw [(a5y hd).1]; rfl
  | false =>
   cases hs : sml c with
   | true =>
    have hg : grt c = false := by
     cases h : grt c with
     | false => rfl
     | true => have := L0 h; rw [hs] at this; cases this
    have e : one (c :: t) = ⟨0, Bz nam (c :: t), Kf (c :: t), 0, (c :: t).take (Bz nam (c :: t))⟩ := by
     rw [one, if_pos (by simp [hs])]
    rw [e];simp only [Bool.not_false, Bool.true_and, decide_true];by_cases hr : Bz nam (c :: t) = (c :: t).length
    ·rw [decide_eq_true hr, Tj.2 hr, Bool.true_and, Bool.true_and, Kf, hr, List.take_length]
     cases hw : Dj (c :: t) with
     | true => rfl
     | false => simp [hg]
    ·have h2 : (c :: t).all nam = false := by
      rw [Bool.eq_false_iff]; intro h; exact hr (Tj.1 h)
     rw [decide_eq_false hr, h2]; rfl
   | false =>
    rw [Bool.false_and, Bool.false_and];simp only [Bool.not_false, Bool.true_and]
    cases hg : grt c with
    | true =>
     have e : one (c :: t) = ⟨0, Bz nam (c :: t), Kf (c :: t), 0, (c :: t).take (Bz nam (c :: t))⟩ := by
      rw [one, if_pos (by simp [hg])]
     rw [e]
     have hk : ¬ Kf (c :: t) = 1 := by
      unfold Kf;split
      ·decide
      ·simp [hg]
     simp [hk]
    | false =>
     rw [Bool.eq_false_iff];intro h;rw [Bool.and_eq_true, Bool.and_eq_true, decide_eq_true_eq, decide_eq_true_eq, decide_eq_true_eq] at h;have := Y0 (c :: t) (by simp [hs, hg]) hd h.1.1;omega
theorem Xc (l : List UInt8) : Rp l 2 = Ew l := by
 unfold Rp Ew J4
 cases l with
 | nil => rfl
 | cons c t =>
  simp only [List.isEmpty_cons, Bool.not_false, Bool.true_and, List.headD_cons];rw [a5b]
  cases hd : dgt c with
  | true => rw [(a5y hd).2]; rfl
  | false =>
   cases hg : grt c with
   | true =>
    have hs := L0 hg
    have e : one (c :: t) = ⟨0, Bz nam (c :: t), Kf (c :: t), 0, (c :: t).take (Bz nam (c :: t))⟩ := by
     rw [one, if_pos (by simp [hg])]
    rw [e];simp only [Bool.not_false, Bool.true_and, decide_true];by_cases hr : Bz nam (c :: t) = (c :: t).length
    ·rw [decide_eq_true hr, Tj.2 hr, Bool.true_and, Kf, hr, List.take_length]
     cases hw : Dj (c :: t) with
     | true => have := Q6 hw; rw [List.headD_cons, hs] at this; cases this
     | false => simp [hg]
    ·have h2 : (c :: t).all nam = false := by
      rw [Bool.eq_false_iff]; intro h; exact hr (Tj.1 h)
     rw [decide_eq_false hr, h2]; rfl
   | false =>
    rw [Bool.false_and];simp only [Bool.not_false, Bool.true_and]
    cases hs : sml c with
    | true =>
     have e : one (c :: t) = ⟨0, Bz nam (c :: t), Kf (c :: t), 0, (c :: t).take (Bz nam (c :: t))⟩ := by
      rw [one, if_pos (by simp [hs])]
     rw [e]
     have hk : ¬ Kf (c :: t) = 2 := by
      unfold Kf;split
      ·decide
      ·simp [hg]
     simp [hk]
    | false =>
     rw [Bool.eq_false_iff];intro h;rw [Bool.and_eq_true, Bool.and_eq_true, decide_eq_true_eq, decide_eq_true_eq, decide_eq_true_eq] at h;have := Y0 (c :: t) (by simp [hs, hg]) hd h.1.1;omega
theorem Xd (k : Nat) (w : World) : Calls prog 88 #[.string { data := #[] }, .int .u8 (k : Nat)] w fun e w' => e = .returned (.bool false) ∧ Below w.heap.size w w' := by
 go_enter func88, ntmps88;go_wp2_with fail;go_ret;exact ⟨rfl, Below.refl _ _⟩
theorem Xe (s : ByteArray) (k : Nat) (w : World) (h0 : 0 < s.size) (h : dgt s[0] = true) : Calls prog 88 #[.string s, .int .u8 (k : Nat)] w fun e w' => e = .returned (.bool false) ∧ Below w.heap.size w w' := by
 unfold dgt at h;rw [Bool.and_eq_true, decide_eq_true_eq, decide_eq_true_eq] at h;have g1 : (48 : Int) <= (s[0].toNat : Nat) := by omega
 have g2 : ((s[0].toNat : Nat) : Int) <= 57 := by omega
 have e0 : ((s.size : Int) == 0) = false := by rw [beq_eq_false_iff_ne]; omega
 clear h;go_enter func88, ntmps88;go_wp2_with fail;go_ret;exact ⟨rfl, Below.refl _ _⟩
theorem a05 (s : ByteArray) (k : Nat) (w : World) (h0 : 0 < s.size) (h : dgt s[0] = false) (o : One) (HO : Hid (∀ w, Calls prog 125 #[.string s, .int .i64 ((0 : Nat) : Int)] w (Jn 0 o w))) (q : Bool) (hq : (decide (o.err = 0) && decide (o.size = s.size) && decide (o.kind = k)) = q) :
  Calls prog 88 #[.string s, .int .u8 (k : Nat)] w fun e w' => e = .returned (.bool q) ∧ Below w.heap.size w w' := by
 have e0 : ((s.size : Int) == 0) = false := by rw [beq_eq_false_iff_ne]; omega
 have HD : Hid (¬ (48 <= s[0].toNat ∧ s[0].toNat <= 57)) := zz (by simpa [dgt] using h);clear h;obtain ⟨err, sz, kd, nm, tx⟩ := o;simp only at hq;by_cases a1 : 48 <= s[0].toNat
 ·have g1 : (48 : Int) <= (s[0].toNat : Nat) := by omega
  have g2 : decide (((s[0].toNat : Nat) : Int) <= 57) = false := by have := HD.out; simp; omega
  clear a1;by_cases he : err = 0
  ·subst he;by_cases hz : sz = s.size
   ·by_cases hk : kd = k
    ·obtain rfl : q = true := by rw [<- hq]; simp [hz, hk]
     have f1 : ((sz : Int) == (s.size : Int)) = true := by rw [hz]; simp
     have f2 : ((kd : Int) == (k : Int)) = true := by rw [hk]; simp
     clear hq hz hk;go_enter func88, ntmps88;go_wp2_with fail;refine (HO.out _).mono ?_;rintro e w1 ⟨kk, rfl, hkk, hb⟩;obtain rfl : kk = kd := hkk rfl;simp only [if_true, Nat.zero_add];clear hkk;replace hb := zz hb;go_wp2_with fail;go_ret;exact ⟨rfl, Ab hb.out (by go_grown)⟩
    ·obtain rfl : q = false := by rw [<- hq]; simp [hk]
     have f1 : ((sz : Int) == (s.size : Int)) = true := by rw [hz]; simp
     have f2 : ((kd : Int) == (k : Int)) = false := by rw [beq_eq_false_iff_ne]; omega
     clear hq hz hk;go_enter func88, ntmps88;go_wp2_with fail;refine (HO.out _).mono ?_;rintro e w1 ⟨kk, rfl, hkk, hb⟩;obtain rfl : kk = kd := hkk rfl;simp only [if_true, Nat.zero_add];clear hkk;replace hb := zz hb;go_wp2_with fail;go_ret;exact ⟨rfl, Ab hb.out (by go_grown)⟩
   ·obtain rfl : q = false := by rw [<- hq]; simp [hz]
    have f1 : ((sz : Int) == (s.size : Int)) = false := by rw [beq_eq_false_iff_ne]; omega
    clear hq hz;go_enter func88, ntmps88;go_wp2_with fail;refine (HO.out _).mono ?_;rintro e w1 ⟨kk, rfl, hkk, hb⟩;obtain rfl : kk = kd := hkk rfl;simp only [if_true, Nat.zero_add];clear hkk;replace hb := zz hb;go_wp2_with fail;go_ret;exact ⟨rfl, Ab hb.out (by go_grown)⟩
  ·obtain rfl : q = false := by rw [<- hq]; simp [he]
   have f0 : (err == 0) = false := by rw [beq_eq_false_iff_ne]; exact he
   clear hq;go_enter func88, ntmps88;go_wp2_with fail;refine (HO.out _).mono ?_;rintro e w1 ⟨kk, rfl, hkk, hb⟩;simp only [if_neg he];clear hkk he;replace hb := zz hb;go_wp2_with fail;go_ret;exact ⟨rfl, Ab hb.out (by go_grown)⟩
 ·have g1 : decide ((48 : Int) <= (s[0].toNat : Nat)) = false := by simp; omega
  clear a1;by_cases he : err = 0
  ·subst he;by_cases hz : sz = s.size
   ·by_cases hk : kd = k
    ·obtain rfl : q = true := by rw [<- hq]; simp [hz, hk]
     have f1 : ((sz : Int) == (s.size : Int)) = true := by rw [hz]; simp
     have f2 : ((kd : Int) == (k : Int)) = true := by rw [hk]; simp
     clear hq hz hk;go_enter func88, ntmps88;go_wp2_with fail;refine (HO.out _).mono ?_;rintro e w1 ⟨kk, rfl, hkk, hb⟩;obtain rfl : kk = kd := hkk rfl;simp only [if_true, Nat.zero_add];clear hkk;replace hb := zz hb;go_wp2_with fail;go_ret;exact ⟨rfl, Ab hb.out (by go_grown)⟩
    ·obtain rfl : q = false := by rw [<- hq]; simp [hk]
     have f1 : ((sz : Int) == (s.size : Int)) = true := by rw [hz]; simp
     have f2 : ((kd : Int) == (k : Int)) = false := by rw [beq_eq_false_iff_ne]; omega
     clear hq hz hk;go_enter func88, ntmps88;go_wp2_with fail;refine (HO.out _).mono ?_;rintro e w1 ⟨kk, rfl, hkk, hb⟩;obtain rfl : kk = kd := hkk rfl;simp only [if_true, Nat.zero_add];clear hkk;replace hb := zz hb;go_wp2_with fail;go_ret;exact ⟨rfl, Ab hb.out (by go_grown)⟩
   ·obtain rfl : q = false := by rw [<- hq]; simp [hz]
    have f1 : ((sz : Int) == (s.size : Int)) = false := by rw [beq_eq_false_iff_ne]; omega
    clear hq hz;go_enter func88, ntmps88;go_wp2_with fail;refine (HO.out _).mono ?_;rintro e w1 ⟨kk, rfl, hkk, hb⟩;obtain rfl : kk = kd := hkk rfl;simp only [if_true, Nat.zero_add];clear hkk;replace hb := zz hb;go_wp2_with fail;go_ret;exact ⟨rfl, Ab hb.out (by go_grown)⟩
  ·obtain rfl : q = false := by rw [<- hq]; simp [he]
   have f0 : (err == 0) = false := by rw [beq_eq_false_iff_ne]; exact he
   clear hq;go_enter func88, ntmps88;go_wp2_with fail;refine (HO.out _).mono ?_;rintro e w1 ⟨kk, rfl, hkk, hb⟩;simp only [if_neg he];clear hkk he;replace hb := zz hb;go_wp2_with fail;go_ret;exact ⟨rfl, Ab hb.out (by go_grown)⟩
theorem U3 (s : ByteArray) (k : Nat) (w : World) (hs : s.size <= 100000) (q : Bool) (hq : Rp s.data.toList k = q) : Calls prog 88 #[.string s, .int .u8 (k : Nat)] w fun e w' => e = .returned (.bool q) ∧ Below w.heap.size w w' := by
 by_cases h0 : 0 < s.size
 ·unfold Rp at hq
  have h1 : s.data.toList.isEmpty = false := by
   rw [List.isEmpty_eq_false_iff];intro e;rw [<- Ad, e] at h0;simp at h0
  rw [h1, C0 s h0, Ad] at hq
  cases hd : dgt s[0] with
  | true =>
   rw [hd] at hq;have : q = false := by rw [<- hq]; rfl
   subst this
   exact Xe s k w h0 hd
  | false =>
   rw [hd] at hq;simp only [Bool.not_false, Bool.true_and] at hq;exact a05 s k w h0 hd (one s.data.toList) (zz fun w => by have := b34 s w hs 0 h0 hd; rwa [List.drop_zero] at this) q hq
 ·have := Dz s h0;subst this;have : q = false := by rw [<- hq]; rfl
  subst this;exact Xd k w
theorem Ue (s : ByteArray) (w : World) (hs : s.size <= 100000) (q : Bool) (hq : Ed s.data.toList = q) : Calls prog 53 #[.string s] w fun e w' => e = .returned (.bool q) ∧ Below w.heap.size w w' := by
 have H := zz (U3 s 1 w hs q (by rw [a04]; exact hq));clear hq;go_enter func53, ntmps53;go_wp2_with (go_at_call 88; refine H.out.mono ?_; rintro e w' ⟨rfl, hb⟩; replace hb := zz hb);go_ret;exact ⟨rfl, hb.out⟩
theorem a0q (s : ByteArray) (w : World) (hs : s.size <= 100000) (q : Bool) (hq : Ew s.data.toList = q) : Calls prog 52 #[.string s] w fun e w' => e = .returned (.bool q) ∧ Below w.heap.size w w' := by
 have H := zz (U3 s 2 w hs q (by rw [Xc]; exact hq));clear hq;go_enter func52, ntmps52;go_wp2_with (go_at_call 88; refine H.out.mono ?_; rintro e w' ⟨rfl, hb⟩; replace hb := zz hb);go_ret;exact ⟨rfl, hb.out⟩
def srt (c : Nat) : UInt8 := if c = 14 then 48 else if 15 <= c ∧ c <= 20 then 116 else if 21 <= c ∧ c <= 32 then 101 else if 7 <= c ∧ c <= 13 then 115 else if c = 6 then 98 else if c = 5 then 112 else if c = 3 then 102 else if c = 2 ∨ c = 4 then 100 else 45
theorem c15 (ln cl sz num : Int) (tx : ByteArray) (w : World) : Calls prog 54 #[.agg #[.int .u8 0, .int .i64 ln, .int .i64 cl, .int .i64 sz, .int .i64 num, .string tx]] w fun e w' => e = .returned (.int .u8 45) ∧ Below w.heap.size w w' := by
 have hA := zz (Aa w (.cells #[.int .u8 0, .int .i64 ln, .int .i64 cl, .int .i64 sz, .int .i64 num, .string tx] 37));go_enter func54, ntmps54;go_wp2_with fail;go_ret;exact ⟨rfl, hA.out⟩
theorem c13 (ln cl sz num : Int) (tx : ByteArray) (w : World) : Calls prog 54 #[.agg #[.int .u8 1, .int .i64 ln, .int .i64 cl, .int .i64 sz, .int .i64 num, .string tx]] w fun e w' => e = .returned (.int .u8 45) ∧ Below w.heap.size w w' := by
 have hA := zz (Aa w (.cells #[.int .u8 1, .int .i64 ln, .int .i64 cl, .int .i64 sz, .int .i64 num, .string tx] 37));go_enter func54, ntmps54;go_wp2_with fail;go_ret;exact ⟨rfl, hA.out⟩
theorem c12 (ln cl sz num : Int) (tx : ByteArray) (w : World) : Calls prog 54 #[.agg #[.int .u8 2, .int .i64 ln, .int .i64 cl, .int .i64 sz, .int .i64 num, .string tx]] w fun e w' => e = .returned (.int .u8 100) ∧ Below w.heap.size w w' := by
 have hA := zz (Aa w (.cells #[.int .u8 2, .int .i64 ln, .int .i64 cl, .int .i64 sz, .int .i64 num, .string tx] 37));go_enter func54, ntmps54;go_wp2_with fail;go_ret;exact ⟨rfl, hA.out⟩
theorem c11 (ln cl sz num : Int) (tx : ByteArray) (w : World) : Calls prog 54 #[.agg #[.int .u8 3, .int .i64 ln, .int .i64 cl, .int .i64 sz, .int .i64 num, .string tx]] w fun e w' => e = .returned (.int .u8 102) ∧ Below w.heap.size w w' := by
 have hA := zz (Aa w (.cells #[.int .u8 3, .int .i64 ln, .int .i64 cl, .int .i64 sz, .int .i64 num, .string tx] 37));go_enter func54, ntmps54;go_wp2_with fail;go_ret;exact ⟨rfl, hA.out⟩
theorem c10 (ln cl sz num : Int) (tx : ByteArray) (w : World) : Calls prog 54 #[.agg #[.int .u8 4, .int .i64 ln, .int .i64 cl, .int .i64 sz, .int .i64 num, .string tx]] w fun e w' => e = .returned (.int .u8 100) ∧ Below w.heap.size w w' := by
 have hA := zz (Aa w (.cells #[.int .u8 4, .int .i64 ln, .int .i64 cl, .int .i64 sz, .int .i64 num, .string tx] 37));go_enter func54, ntmps54;go_wp2_with fail;go_ret;exact ⟨rfl, hA.out⟩
theorem c1z (ln cl sz num : Int) (tx : ByteArray) (w : World) : Calls prog 54 #[.agg #[.int .u8 5, .int .i64 ln, .int .i64 cl, .int .i64 sz, .int .i64 num, .string tx]] w fun e w' => e = .returned (.int .u8 112) ∧ Below w.heap.size w w' := by
 have hA := zz (Aa w (.cells #[.int .u8 5, .int .i64 ln, .int .i64 cl, .int .i64 sz, .int .i64 num, .string tx] 37));go_enter func54, ntmps54;go_wp2_with fail;go_ret;exact ⟨rfl, hA.out⟩
theorem c1y (ln cl sz num : Int) (tx : ByteArray) (w : World) : Calls prog 54 #[.agg #[.int .u8 6, .int .i64 ln, .int .i64 cl, .int .i64 sz, .int .i64 num, .string tx]] w fun e w' => e = .returned (.int .u8 98) ∧ Below w.heap.size w w' := by
 have hA := zz (Aa w (.cells #[.int .u8 6, .int .i64 ln, .int .i64 cl, .int .i64 sz, .int .i64 num, .string tx] 37));go_enter func54, ntmps54;go_wp2_with fail;go_ret;exact ⟨rfl, hA.out⟩
theorem c1x (ln cl sz num : Int) (tx : ByteArray) (w : World) : Calls prog 54 #[.agg #[.int .u8 7, .int .i64 ln, .int .i64 cl, .int .i64 sz, .int .i64 num, .string tx]] w fun e w' => e = .returned (.int .u8 115) ∧ Below w.heap.size w w' := by
 have hA := zz (Aa w (.cells #[.int .u8 7, .int .i64 ln, .int .i64 cl, .int .i64 sz, .int .i64 num, .string tx] 37));go_enter func54, ntmps54;go_wp2_with fail;go_ret;exact ⟨rfl, hA.out⟩
theorem c1w (ln cl sz num : Int) (tx : ByteArray) (w : World) : Calls prog 54 #[.agg #[.int .u8 8, .int .i64 ln, .int .i64 cl, .int .i64 sz, .int .i64 num, .string tx]] w fun e w' => e = .returned (.int .u8 115) ∧ Below w.heap.size w w' := by
 have hA := zz (Aa w (.cells #[.int .u8 8, .int .i64 ln, .int .i64 cl, .int .i64 sz, .int .i64 num, .string tx] 37));go_enter func54, ntmps54;go_wp2_with fail;go_ret;exact ⟨rfl, hA.out⟩
theorem c1v (ln cl sz num : Int) (tx : ByteArray) (w : World) : Calls prog 54 #[.agg #[.int .u8 9, .int .i64 ln, .int .i64 cl, .int .i64 sz, .int .i64 num, .string tx]] w fun e w' => e = .returned (.int .u8 115) ∧ Below w.heap.size w w' := by
 have hA := zz (Aa w (.cells #[.int .u8 9, .int .i64 ln, .int .i64 cl, .int .i64 sz, .int .i64 num, .string tx] 37));go_enter func54, ntmps54;go_wp2_with fail;go_ret;exact ⟨rfl, hA.out⟩
theorem b78 (ln cl sz num : Int) (tx : ByteArray) (w : World) : Calls prog 54 #[.agg #[.int .u8 10, .int .i64 ln, .int .i64 cl, .int .i64 sz, .int .i64 num, .string tx]] w fun e w' => e = .returned (.int .u8 115) ∧ Below w.heap.size w w' := by
 have hA := zz (Aa w (.cells #[.int .u8 10, .int .i64 ln, .int .i64 cl, .int .i64 sz, .int .i64 num, .string tx] 37));go_enter func54, ntmps54;go_wp2_with fail;go_ret;exact ⟨rfl, hA.out⟩
theorem b77 (ln cl sz num : Int) (tx : ByteArray) (w : World) : Calls prog 54 #[.agg #[.int .u8 11, .int .i64 ln, .int .i64 cl, .int .i64 sz, .int .i64 num, .string tx]] w fun e w' => e = .returned (.int .u8 115) ∧ Below w.heap.size w w' := by
 have hA := zz (Aa w (.cells #[.int .u8 11, .int .i64 ln, .int .i64 cl, .int .i64 sz, .int .i64 num, .string tx] 37));go_enter func54, ntmps54;go_wp2_with fail;go_ret;exact ⟨rfl, hA.out⟩
theorem b76 (ln cl sz num : Int) (tx : ByteArray) (w : World) : Calls prog 54 #[.agg #[.int .u8 12, .int .i64 ln, .int .i64 cl, .int .i64 sz, .int .i64 num, .string tx]] w fun e w' => e = .returned (.int .u8 115) ∧ Below w.heap.size w w' := by
 have hA := zz (Aa w (.cells #[.int .u8 12, .int .i64 ln, .int .i64 cl, .int .i64 sz, .int .i64 num, .string tx] 37));go_enter func54, ntmps54;go_wp2_with fail;go_ret;exact ⟨rfl, hA.out⟩
theorem b75 (ln cl sz num : Int) (tx : ByteArray) (w : World) : Calls prog 54 #[.agg #[.int .u8 13, .int .i64 ln, .int .i64 cl, .int .i64 sz, .int .i64 num, .string tx]] w fun e w' => e = .returned (.int .u8 115) ∧ Below w.heap.size w w' := by
 have hA := zz (Aa w (.cells #[.int .u8 13, .int .i64 ln, .int .i64 cl, .int .i64 sz, .int .i64 num, .string tx] 37));go_enter func54, ntmps54;go_wp2_with fail;go_ret;exact ⟨rfl, hA.out⟩
theorem b74 (ln cl sz num : Int) (tx : ByteArray) (w : World) : Calls prog 54 #[.agg #[.int .u8 14, .int .i64 ln, .int .i64 cl, .int .i64 sz, .int .i64 num, .string tx]] w fun e w' => e = .returned (.int .u8 48) ∧ Below w.heap.size w w' := by
 have hA := zz (Aa w (.cells #[.int .u8 14, .int .i64 ln, .int .i64 cl, .int .i64 sz, .int .i64 num, .string tx] 37));go_enter func54, ntmps54;go_wp2_with fail;go_ret;exact ⟨rfl, hA.out⟩
theorem b73 (ln cl sz num : Int) (tx : ByteArray) (w : World) : Calls prog 54 #[.agg #[.int .u8 15, .int .i64 ln, .int .i64 cl, .int .i64 sz, .int .i64 num, .string tx]] w fun e w' => e = .returned (.int .u8 116) ∧ Below w.heap.size w w' := by
 have hA := zz (Aa w (.cells #[.int .u8 15, .int .i64 ln, .int .i64 cl, .int .i64 sz, .int .i64 num, .string tx] 37));go_enter func54, ntmps54;go_wp2_with fail;go_ret;exact ⟨rfl, hA.out⟩
theorem b72 (ln cl sz num : Int) (tx : ByteArray) (w : World) : Calls prog 54 #[.agg #[.int .u8 16, .int .i64 ln, .int .i64 cl, .int .i64 sz, .int .i64 num, .string tx]] w fun e w' => e = .returned (.int .u8 116) ∧ Below w.heap.size w w' := by
 have hA := zz (Aa w (.cells #[.int .u8 16, .int .i64 ln, .int .i64 cl, .int .i64 sz, .int .i64 num, .string tx] 37));go_enter func54, ntmps54;go_wp2_with fail;go_ret;exact ⟨rfl, hA.out⟩
theorem b71 (ln cl sz num : Int) (tx : ByteArray) (w : World) : Calls prog 54 #[.agg #[.int .u8 17, .int .i64 ln, .int .i64 cl, .int .i64 sz, .int .i64 num, .string tx]] w fun e w' => e = .returned (.int .u8 116) ∧ Below w.heap.size w w' := by
 have hA := zz (Aa w (.cells #[.int .u8 17, .int .i64 ln, .int .i64 cl, .int .i64 sz, .int .i64 num, .string tx] 37));go_enter func54, ntmps54;go_wp2_with fail;go_ret;exact ⟨rfl, hA.out⟩
theorem b70 (ln cl sz num : Int) (tx : ByteArray) (w : World) : Calls prog 54 #[.agg #[.int .u8 18, .int .i64 ln, .int .i64 cl, .int .i64 sz, .int .i64 num, .string tx]] w fun e w' => e = .returned (.int .u8 116) ∧ Below w.heap.size w w' := by
 have hA := zz (Aa w (.cells #[.int .u8 18, .int .i64 ln, .int .i64 cl, .int .i64 sz, .int .i64 num, .string tx] 37));go_enter func54, ntmps54;go_wp2_with fail;go_ret;exact ⟨rfl, hA.out⟩
theorem b7z (ln cl sz num : Int) (tx : ByteArray) (w : World) : Calls prog 54 #[.agg #[.int .u8 19, .int .i64 ln, .int .i64 cl, .int .i64 sz, .int .i64 num, .string tx]] w fun e w' => e = .returned (.int .u8 116) ∧ Below w.heap.size w w' := by
 have hA := zz (Aa w (.cells #[.int .u8 19, .int .i64 ln, .int .i64 cl, .int .i64 sz, .int .i64 num, .string tx] 37));go_enter func54, ntmps54;go_wp2_with fail;go_ret;exact ⟨rfl, hA.out⟩
theorem b7y (ln cl sz num : Int) (tx : ByteArray) (w : World) : Calls prog 54 #[.agg #[.int .u8 20, .int .i64 ln, .int .i64 cl, .int .i64 sz, .int .i64 num, .string tx]] w fun e w' => e = .returned (.int .u8 116) ∧ Below w.heap.size w w' := by
 have hA := zz (Aa w (.cells #[.int .u8 20, .int .i64 ln, .int .i64 cl, .int .i64 sz, .int .i64 num, .string tx] 37));go_enter func54, ntmps54;go_wp2_with fail;go_ret;exact ⟨rfl, hA.out⟩
theorem b7x (ln cl sz num : Int) (tx : ByteArray) (w : World) : Calls prog 54 #[.agg #[.int .u8 21, .int .i64 ln, .int .i64 cl, .int .i64 sz, .int .i64 num, .string tx]] w fun e w' => e = .returned (.int .u8 101) ∧ Below w.heap.size w w' := by
 have hA := zz (Aa w (.cells #[.int .u8 21, .int .i64 ln, .int .i64 cl, .int .i64 sz, .int .i64 num, .string tx] 37));go_enter func54, ntmps54;go_wp2_with fail;go_ret;exact ⟨rfl, hA.out⟩
theorem b7w (ln cl sz num : Int) (tx : ByteArray) (w : World) : Calls prog 54 #[.agg #[.int .u8 22, .int .i64 ln, .int .i64 cl, .int .i64 sz, .int .i64 num, .string tx]] w fun e w' => e = .returned (.int .u8 101) ∧ Below w.heap.size w w' := by
 have hA := zz (Aa w (.cells #[.int .u8 22, .int .i64 ln, .int .i64 cl, .int .i64 sz, .int .i64 num, .string tx] 37));go_enter func54, ntmps54;go_wp2_with fail;go_ret;exact ⟨rfl, hA.out⟩
theorem b7v (ln cl sz num : Int) (tx : ByteArray) (w : World) : Calls prog 54 #[.agg #[.int .u8 23, .int .i64 ln, .int .i64 cl, .int .i64 sz, .int .i64 num, .string tx]] w fun e w' => e = .returned (.int .u8 101) ∧ Below w.heap.size w w' := by
 have hA := zz (Aa w (.cells #[.int .u8 23, .int .i64 ln, .int .i64 cl, .int .i64 sz, .int .i64 num, .string tx] 37));go_enter func54, ntmps54;go_wp2_with fail;go_ret;exact ⟨rfl, hA.out⟩
theorem b7u (ln cl sz num : Int) (tx : ByteArray) (w : World) : Calls prog 54 #[.agg #[.int .u8 24, .int .i64 ln, .int .i64 cl, .int .i64 sz, .int .i64 num, .string tx]] w fun e w' => e = .returned (.int .u8 101) ∧ Below w.heap.size w w' := by
 have hA := zz (Aa w (.cells #[.int .u8 24, .int .i64 ln, .int .i64 cl, .int .i64 sz, .int .i64 num, .string tx] 37));go_enter func54, ntmps54;go_wp2_with fail;go_ret;exact ⟨rfl, hA.out⟩
theorem b7t (ln cl sz num : Int) (tx : ByteArray) (w : World) : Calls prog 54 #[.agg #[.int .u8 25, .int .i64 ln, .int .i64 cl, .int .i64 sz, .int .i64 num, .string tx]] w fun e w' => e = .returned (.int .u8 101) ∧ Below w.heap.size w w' := by
 have hA := zz (Aa w (.cells #[.int .u8 25, .int .i64 ln, .int .i64 cl, .int .i64 sz, .int .i64 num, .string tx] 37));go_enter func54, ntmps54;go_wp2_with fail;go_ret;exact ⟨rfl, hA.out⟩
theorem b7s (ln cl sz num : Int) (tx : ByteArray) (w : World) : Calls prog 54 #[.agg #[.int .u8 26, .int .i64 ln, .int .i64 cl, .int .i64 sz, .int .i64 num, .string tx]] w fun e w' => e = .returned (.int .u8 101) ∧ Below w.heap.size w w' := by
 have hA := zz (Aa w (.cells #[.int .u8 26, .int .i64 ln, .int .i64 cl, .int .i64 sz, .int .i64 num, .string tx] 37));go_enter func54, ntmps54;go_wp2_with fail;go_ret;exact ⟨rfl, hA.out⟩
theorem b7r (ln cl sz num : Int) (tx : ByteArray) (w : World) : Calls prog 54 #[.agg #[.int .u8 27, .int .i64 ln, .int .i64 cl, .int .i64 sz, .int .i64 num, .string tx]] w fun e w' => e = .returned (.int .u8 101) ∧ Below w.heap.size w w' := by
 have hA := zz (Aa w (.cells #[.int .u8 27, .int .i64 ln, .int .i64 cl, .int .i64 sz, .int .i64 num, .string tx] 37));go_enter func54, ntmps54;go_wp2_with fail;go_ret;exact ⟨rfl, hA.out⟩
theorem b7q (ln cl sz num : Int) (tx : ByteArray) (w : World) : Calls prog 54 #[.agg #[.int .u8 28, .int .i64 ln, .int .i64 cl, .int .i64 sz, .int .i64 num, .string tx]] w fun e w' => e = .returned (.int .u8 101) ∧ Below w.heap.size w w' := by
 have hA := zz (Aa w (.cells #[.int .u8 28, .int .i64 ln, .int .i64 cl, .int .i64 sz, .int .i64 num, .string tx] 37));go_enter func54, ntmps54;go_wp2_with fail;go_ret;exact ⟨rfl, hA.out⟩
theorem b7p (ln cl sz num : Int) (tx : ByteArray) (w : World) : Calls prog 54 #[.agg #[.int .u8 29, .int .i64 ln, .int .i64 cl, .int .i64 sz, .int .i64 num, .string tx]] w fun e w' => e = .returned (.int .u8 101) ∧ Below w.heap.size w w' := by
 have hA := zz (Aa w (.cells #[.int .u8 29, .int .i64 ln, .int .i64 cl, .int .i64 sz, .int .i64 num, .string tx] 37));go_enter func54, ntmps54;go_wp2_with fail;go_ret;exact ⟨rfl, hA.out⟩
theorem b7o (ln cl sz num : Int) (tx : ByteArray) (w : World) : Calls prog 54 #[.agg #[.int .u8 30, .int .i64 ln, .int .i64 cl, .int .i64 sz, .int .i64 num, .string tx]] w fun e w' => e = .returned (.int .u8 101) ∧ Below w.heap.size w w' := by
 have hA := zz (Aa w (.cells #[.int .u8 30, .int .i64 ln, .int .i64 cl, .int .i64 sz, .int .i64 num, .string tx] 37));go_enter func54, ntmps54;go_wp2_with fail;go_ret;exact ⟨rfl, hA.out⟩
theorem b7n (ln cl sz num : Int) (tx : ByteArray) (w : World) : Calls prog 54 #[.agg #[.int .u8 31, .int .i64 ln, .int .i64 cl, .int .i64 sz, .int .i64 num, .string tx]] w fun e w' => e = .returned (.int .u8 101) ∧ Below w.heap.size w w' := by
 have hA := zz (Aa w (.cells #[.int .u8 31, .int .i64 ln, .int .i64 cl, .int .i64 sz, .int .i64 num, .string tx] 37));go_enter func54, ntmps54;go_wp2_with fail;go_ret;exact ⟨rfl, hA.out⟩
theorem b7m (ln cl sz num : Int) (tx : ByteArray) (w : World) : Calls prog 54 #[.agg #[.int .u8 32, .int .i64 ln, .int .i64 cl, .int .i64 sz, .int .i64 num, .string tx]] w fun e w' => e = .returned (.int .u8 101) ∧ Below w.heap.size w w' := by
 have hA := zz (Aa w (.cells #[.int .u8 32, .int .i64 ln, .int .i64 cl, .int .i64 sz, .int .i64 num, .string tx] 37));go_enter func54, ntmps54;go_wp2_with fail;go_ret;exact ⟨rfl, hA.out⟩
theorem a71 (k : Nat) (hk : 33 <= k) (ln cl sz num : Int) (tx : ByteArray) (w : World) : Calls prog 54 #[.agg #[.int .u8 (k : Nat), .int .i64 ln, .int .i64 cl, .int .i64 sz, .int .i64 num, .string tx]] w fun e w' => e = .returned (.int .u8 45) ∧ Below w.heap.size w w' := by
 have hA := zz (Aa w (.cells #[.int .u8 (k : Nat), .int .i64 ln, .int .i64 cl, .int .i64 sz, .int .i64 num, .string tx] 37));have e14 : ((k : Int) == 14) = false := by rw [beq_eq_false_iff_ne]; omega
 have e6 : ((k : Int) == 6) = false := by rw [beq_eq_false_iff_ne]; omega
 have e5 : ((k : Int) == 5) = false := by rw [beq_eq_false_iff_ne]; omega
 have e3 : ((k : Int) == 3) = false := by rw [beq_eq_false_iff_ne]; omega
 have e2 : ((k : Int) == 2) = false := by rw [beq_eq_false_iff_ne]; omega
 have e4 : ((k : Int) == 4) = false := by rw [beq_eq_false_iff_ne]; omega
 have g15 : 15 <= (k : Int) := by omega
 have g21 : 21 <= (k : Int) := by omega
 have g7 : 7 <= (k : Int) := by omega
 have f20 : decide ((k : Int) <= 20) = false := by simp; omega
 have f32 : decide ((k : Int) <= 32) = false := by simp; omega
 have f13 : decide ((k : Int) <= 13) = false := by simp; omega
 clear hk;go_enter func54, ntmps54;go_wp2_with fail;go_ret;exact ⟨rfl, hA.out⟩
theorem R7 (n : Nd) (w : World) : Calls prog 54 #[ndV n] w fun e w' => e = .returned (.int .u8 ((srt n.kind).toNat : Nat)) ∧ Below w.heap.size w w' := by
 obtain ⟨k, ln, cl, sz, num, tx⟩ := n;by_cases h : 33 <= k
 ·have e : srt k = 45 := by unfold srt; rw [if_neg (by omega), if_neg (by omega), if_neg (by omega), if_neg (by omega), if_neg (by omega), if_neg (by omega), if_neg (by omega), if_neg (by omega)]
  simp only [e];exact a71 k h ln cl sz num tx w
 ·match k, h with
  | 0, _ => exact c15 ln cl sz num tx w
  | 1, _ => exact c13 ln cl sz num tx w
  | 2, _ => exact c12 ln cl sz num tx w
  | 3, _ => exact c11 ln cl sz num tx w
  | 4, _ => exact c10 ln cl sz num tx w
  | 5, _ => exact c1z ln cl sz num tx w
  | 6, _ => exact c1y ln cl sz num tx w
  | 7, _ => exact c1x ln cl sz num tx w
  | 8, _ => exact c1w ln cl sz num tx w
  | 9, _ => exact c1v ln cl sz num tx w
  | 10, _ => exact b78 ln cl sz num tx w
  | 11, _ => exact b77 ln cl sz num tx w
  | 12, _ => exact b76 ln cl sz num tx w
  | 13, _ => exact b75 ln cl sz num tx w
  | 14, _ => exact b74 ln cl sz num tx w
  | 15, _ => exact b73 ln cl sz num tx w
  | 16, _ => exact b72 ln cl sz num tx w
  | 17, _ => exact b71 ln cl sz num tx w
  | 18, _ => exact b70 ln cl sz num tx w
  | 19, _ => exact b7z ln cl sz num tx w
  | 20, _ => exact b7y ln cl sz num tx w
  | 21, _ => exact b7x ln cl sz num tx w
  | 22, _ => exact b7w ln cl sz num tx w
  | 23, _ => exact b7v ln cl sz num tx w
  | 24, _ => exact b7u ln cl sz num tx w
  | 25, _ => exact b7t ln cl sz num tx w
  | 26, _ => exact b7s ln cl sz num tx w
  | 27, _ => exact b7r ln cl sz num tx w
  | 28, _ => exact b7q ln cl sz num tx w
  | 29, _ => exact b7p ln cl sz num tx w
  | 30, _ => exact b7o ln cl sz num tx w
  | 31, _ => exact b7n ln cl sz num tx w
  | 32, _ => exact b7m ln cl sz num tx w
  | k + 33, h => omega
theorem Gv (s : ByteArray) (c : Nat) (w : World) (q : Bool) (hs : s.size <= 9000000000) (hq : Hid (s.data.toList.all (fun x => decide (x.toNat = c)) = q)) : Calls prog 55 #[.string s, .int .u8 (c : Nat)] w fun e w' => e = .returned (.bool q) ∧ w = w' := by
 go_enter func55, ntmps55;go_wp2_with fail
 go_loop [5] (fun j => ∃ k : Nat, k <= s.size ∧ j = .int .i64 k ∧ ∀ i (hi : i < s.size), i < k -> s[i].toNat = c) (fun j => s.size - (intOf j).toNat)
 case atStart => exact ⟨0, Nat.zero_le _, rfl, fun i _ h => absurd h (by omega)⟩
 case round =>
  obtain ⟨k, hk, rfl, hall⟩ := hrel;replace hall := zz hall;by_cases hlt : k < s.size
  ·by_cases he : s[k].toNat = c
   ·have HA := zz (show ∀ i (hi : i < s.size), i < k + 1 -> s[i].toNat = c from fun i hi h => by
     by_cases e : i = k
     ·subst e; exact he
     ·exact hall.out i hi (by omega))
    have e1 : (((s[k].toNat : Nat) : Int) != (c : Int)) = false := by rw [he]; simp
    clear he;go_wp2_with fail
    go_round
    case rel => exact ⟨k + 1, hlt, by go_num, HA.out⟩
    case measure => simp [intOf]; omega
   ·have hq' : q = false := by
     rw [<- hq.out, List.all_eq_false];exact ⟨s[k], List.mem_of_getElem? (Ol s k hlt), by simpa using he⟩
    subst hq';have e1 : (((s[k].toNat : Nat) : Int) != (c : Int)) = true := by rw [bne_iff_ne]; omega
    clear he;go_wp2_with fail;go_ret;exact ⟨rfl, rfl⟩
  ·have hq' : q = true := by
    rw [<- hq.out, List.all_eq_true];intro x hx;obtain ⟨i, hi, rfl⟩ := List.getElem_of_mem hx;have := hall.out i (by rw [Ad] at hi; exact hi) (by rw [Ad] at hi; omega);exact decide_eq_true this
   subst hq';go_wp2_with fail;go_ret;exact ⟨rfl, rfl⟩
end
end Go.Proofs.YtoaplbljflhheaaGreat
