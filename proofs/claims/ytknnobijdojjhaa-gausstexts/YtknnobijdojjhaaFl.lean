/-
  Plain facts on floats of 64 bits that stand for whole numbers: sums, differences, products and numbers with the other sign are exact below 2^53. No program is spoken of. Conditions: as said.
-/
import Derived.WalkLawsBesides
namespace Go.Proofs.Ytknnobijdojjhaa
open Ieee

/-- The number of sign s, size m and place e is the whole number v. -/
def Val (s : Bool) (m : Nat) (e : Int) (v : Int) : Prop := ∃ k : Nat, 0 ≤ e + k ∧ signed s m (e + k).toNat = v * 2 ^ k

theorem signed_zero (s : Bool) (m : Nat) : signed s m 0 = if s then -(m : Int) else m := by
  unfold signed; simp
theorem signed_eq (s : Bool) (m u : Nat) : signed s m u = signed s m 0 * 2 ^ u := by
  unfold signed; cases s <;> simp [Nat.shiftLeft_eq, Int.neg_mul]
theorem signed_shift (s : Bool) (m u j : Nat) : signed s m (u + j) = signed s m u * 2 ^ j := by
  rw [signed_eq s m (u + j), signed_eq s m u, Int.pow_add, Int.mul_assoc]
theorem pow_pos2 (j : Nat) : (0 : Int) < 2 ^ j := Int.pow_pos (by decide)

theorem val_at {s : Bool} {m : Nat} {e v : Int} (h : Val s m e v) (k : Nat) (hk : 0 ≤ e + k) : signed s m (e + k).toNat = v * 2 ^ k := by
  obtain ⟨q, hq, h⟩ := h
  by_cases hle : q ≤ k
  · obtain ⟨j, rfl⟩ : ∃ j, k = q + j := ⟨k - q, by omega⟩
    rw [show (e + ((q + j : Nat) : Int)).toNat = (e + q).toNat + j by omega, signed_shift, h, Int.pow_add, Int.mul_assoc]
  · obtain ⟨j, rfl⟩ : ∃ j, q = k + j := ⟨q - k, by omega⟩
    rw [show (e + ((k + j : Nat) : Int)).toNat = (e + k).toNat + j by omega, signed_shift, Int.pow_add, ← Int.mul_assoc] at h
    exact Int.eq_of_mul_eq_mul_right (by have := pow_pos2 j; omega) h

theorem val_opp {s : Bool} {m : Nat} {e v : Int} (h : Val s m e v) : Val (!s) m e (-v) := by
  obtain ⟨q, hq, h⟩ := h
  refine ⟨q, hq, ?_⟩
  rw [Int.neg_mul, ← h]
  unfold signed; cases s <;> simp

theorem signed_sign (T : Int) (z : Bool) : signed (if T = 0 then z else decide (T < 0)) T.natAbs 0 = T := by
  rw [signed_zero]
  by_cases h : T = 0
  · subst h; cases z <;> simp
  · rw [if_neg h]
    by_cases hn : T < 0
    · simp [hn]; omega
    · simp [hn]; omega

theorem val_sum {s t : Bool} {m n : Nat} {i j x y : Int} (hx : Val s m i x) (hy : Val t n j y) :
    ∃ p q, (Datum.number s m i).sum (Datum.number t n j) = some (.number p q (min i j)) ∧ Val p q (min i j) (x + y) := by
  refine ⟨_, _, rfl, (min i j).natAbs, by omega, ?_⟩
  have h1 := val_at hx (min i j).natAbs (by omega)
  have h2 := val_at hy (min i j).natAbs (by omega)
  rw [signed_eq, signed_sign, Int.add_mul, Int.add_mul, ← signed_shift, ← signed_shift, ← h1, ← h2]
  congr 2 <;> omega

theorem val_product {s t : Bool} {m n : Nat} {i j x y : Int} (hx : Val s m i x) (hy : Val t n j y) : Val (s ^^ t) (m * n) (i + j) (x * y) := by
  obtain ⟨k, hk, h1⟩ := hx
  obtain ⟨l, hl, h2⟩ := hy
  refine ⟨k + l, by omega, ?_⟩
  rw [show x * y * 2 ^ (k + l) = (x * 2 ^ k) * (y * 2 ^ l) by rw [Int.pow_add]; ac_rfl, ← h1, ← h2]
  rw [show (i + j + ((k + l : Nat) : Int)).toNat = (i + k).toNat + (j + l).toNat by omega]
  rw [signed_eq, signed_eq s, signed_eq t, Int.pow_add, signed_zero, signed_zero, signed_zero]
  cases s <;> cases t <;> simp [Int.neg_mul, Int.mul_neg] <;> ac_rfl

theorem val_abs {s : Bool} {m : Nat} {e v : Int} (h : Val s m e v) (k : Nat) (hk : 0 ≤ e + k) : m * 2 ^ (e + k).toNat = v.natAbs * 2 ^ k := by
  have h1 := val_at h k hk
  have h2 := congrArg Int.natAbs h1
  rw [signed_eq, signed_zero, Int.natAbs_mul, Int.natAbs_mul, Int.natAbs_pow, Int.natAbs_pow] at h2
  have e2 : (2 : Int).natAbs = 2 := rfl
  rw [e2] at h2
  rw [← h2]
  cases s <;> simp

theorem val_sgn {s : Bool} {m : Nat} {e v : Int} (h : Val s m e v) (hv : v ≠ 0) : s = decide (v < 0) := by
  obtain ⟨k, hk, h⟩ := h
  rw [signed_eq, signed_zero] at h
  have p1 := pow_pos2 (e + k).toNat
  have p2 := pow_pos2 k
  have hv2 : v * 2 ^ k ≠ 0 := Int.mul_ne_zero hv (by omega)
  cases s
  · by_cases hn : v < 0
    · have a1 : v * 2 ^ k < 0 := Int.mul_neg_of_neg_of_pos hn p2
      have a2 : 0 ≤ (m : Int) * 2 ^ (e + k).toNat := Int.mul_nonneg (by omega) (by omega)
      simp at h; omega
    · simp [hn]
  · by_cases hn : v < 0
    · simp [hn]
    · have a1 : 0 ≤ v * 2 ^ k := Int.mul_nonneg (by omega) (by omega)
      have a2 : 0 ≤ (m : Int) * 2 ^ (e + k).toNat := Int.mul_nonneg (by omega) (by omega)
      simp [Int.neg_mul] at h; omega

theorem log2_mul (n j : Nat) (hn : n ≠ 0) : (n * 2 ^ j).log2 = n.log2 + j := by
  have hp : 0 < 2 ^ j := Nat.two_pow_pos j
  have h0 : n * 2 ^ j ≠ 0 := Nat.mul_ne_zero hn (by omega)
  rw [Nat.log2_eq_iff h0]
  obtain ⟨h1, h2⟩ := (Nat.log2_eq_iff hn).1 rfl
  constructor
  · rw [Nat.pow_add]; exact Nat.mul_le_mul_right _ h1
  · rw [show n.log2 + j + 1 = n.log2 + 1 + j by omega, Nat.pow_add]
    exact Nat.mul_lt_mul_of_pos_right h2 hp

/-- The word of a whole number that isn't 0. -/
def fl (v : Int) : Nat := double.word (decide (v < 0)) ((v.natAbs.log2 + 1022) * 4503599627370496 + v.natAbs * 2 ^ (52 - v.natAbs.log2))

theorem sig_bounds (v : Int) (hv : v ≠ 0) (hb : v.natAbs < 9007199254740992) : v.natAbs.log2 ≤ 52 ∧ 4503599627370496 ≤ v.natAbs * 2 ^ (52 - v.natAbs.log2) ∧ v.natAbs * 2 ^ (52 - v.natAbs.log2) < 9007199254740992 := by
  have h0 : v.natAbs ≠ 0 := by omega
  obtain ⟨h1, h2⟩ := (Nat.log2_eq_iff h0).1 rfl
  have hL : v.natAbs.log2 ≤ 52 := by
    have : v.natAbs.log2 < 53 := (Nat.log2_lt h0).2 (by have : (2 : Nat) ^ 53 = 9007199254740992 := by decide
                                                        omega)
    omega
  have hp : 0 < 2 ^ (52 - v.natAbs.log2) := Nat.two_pow_pos _
  refine ⟨hL, ?_, ?_⟩
  · have e : 2 ^ v.natAbs.log2 * 2 ^ (52 - v.natAbs.log2) = 4503599627370496 := by
      rw [← Nat.pow_add, show v.natAbs.log2 + (52 - v.natAbs.log2) = 52 by omega]
    rw [← e]; exact Nat.mul_le_mul_right _ h1
  · have e : 2 ^ (v.natAbs.log2 + 1) * 2 ^ (52 - v.natAbs.log2) = 9007199254740992 := by
      rw [← Nat.pow_add, show v.natAbs.log2 + 1 + (52 - v.natAbs.log2) = 53 by omega]
    rw [← e]; exact Nat.mul_lt_mul_of_pos_right h2 hp

theorem cut_none (s : Bool) (n : Nat) : Toward.even.cut s n 0 = n := by
  unfold Toward.cut
  simp [Nat.mod_one]
theorem cut_exact (w : Toward) (s : Bool) (n j : Nat) (hn : n ≠ 0) : w.cut s (n * 2 ^ j) j = n := by
  have hp : 0 < 2 ^ j := Nat.two_pow_pos j
  have hm : min j ((n * 2 ^ j).log2 + 2) = j := by rw [log2_mul n j hn]; omega
  unfold Toward.cut
  have e1 : n * 2 ^ j / 2 ^ j = n := Nat.mul_div_cancel _ hp
  have e2 : n * 2 ^ j % 2 ^ j = 0 := Nat.mul_mod_left _ _
  have e3 : (2 ^ j == 0) = false := by rw [beq_eq_false_iff_ne]; omega
  simp only [hm, Nat.one_shiftLeft, e1, e2]
  cases w <;> simp [e3]

theorem nearest_val {s : Bool} {m : Nat} {e v : Int} (h : Val s m e v) (hv : v ≠ 0) (hb : v.natAbs < 9007199254740992) : double.nearest s m e = fl v := by
  have hs := val_sgn h hv
  obtain ⟨hL, hK1, hK2⟩ := sig_bounds v hv hb
  have h0 : v.natAbs ≠ 0 := by omega
  have habs := val_abs h e.natAbs (by omega)
  have hm0 : m ≠ 0 := by
    intro hm; subst hm
    rw [Nat.zero_mul] at habs
    have := Nat.mul_ne_zero h0 (show 2 ^ e.natAbs ≠ 0 by have := Nat.two_pow_pos e.natAbs; omega)
    omega
  have hlog : e + m.log2 = v.natAbs.log2 := by
    have := congrArg Nat.log2 habs
    rw [log2_mul _ _ hm0, log2_mul _ _ h0] at this
    omega
  have hfb : double.fractionBits = 52 := rfl
  have hlp : double.leastPlace = -1074 := by decide
  have hbi : double.binade = 4503599627370496 := by decide
  have hin : double.infRung = 9218868437227405312 := by decide
  unfold Format.nearest
  rw [if_neg hm0, hfb, hlp, hbi, hin]
  have hlast : max (e + (m.log2 : Int) - ((52 : Nat) : Int)) (-1074) = (v.natAbs.log2 : Int) - 52 := by omega
  simp only [hlast]
  have hkept : Toward.even.cut s (m <<< (e - ((v.natAbs.log2 : Int) - 52)).toNat) ((v.natAbs.log2 : Int) - 52 - e).toNat = v.natAbs * 2 ^ (52 - v.natAbs.log2) := by
    rw [Nat.shiftLeft_eq]
    by_cases hc : (v.natAbs.log2 : Int) - 52 ≤ e
    · rw [show ((v.natAbs.log2 : Int) - 52 - e).toNat = 0 by omega, cut_none]
      have := val_abs h (52 - v.natAbs.log2) (by omega)
      rw [← this]; congr 2; omega
    · rw [show (e - ((v.natAbs.log2 : Int) - 52)).toNat = 0 by omega, Nat.pow_zero, Nat.mul_one]
      have h3 := val_abs h (52 - v.natAbs.log2 + ((v.natAbs.log2 : Int) - 52 - e).toNat) (by omega)
      rw [show (e + ((52 - v.natAbs.log2 + ((v.natAbs.log2 : Int) - 52 - e).toNat : Nat) : Int)).toNat = 0 by omega, Nat.pow_zero, Nat.mul_one, Nat.pow_add, ← Nat.mul_assoc] at h3
      rw [h3]
      exact cut_exact .even s _ _ (by omega)
  rw [hkept]
  unfold fl
  rw [hs, Nat.min_eq_left (by omega), show ((v.natAbs.log2 : Int) - 52 - -1074).toNat = v.natAbs.log2 + 1022 by omega]

theorem read_word (s : Bool) (r : Nat) (hr : r < 9223372036854775808) : double.word s r / 9223372036854775808 % 2 = s.toNat ∧ double.word s r % 9223372036854775808 = r := by
  have hsw : double.signWeight = 9223372036854775808 := by decide
  unfold Format.word
  rw [hsw]
  cases s <;> simp <;> omega

theorem read_fl (v : Int) (hv : v ≠ 0) (hb : v.natAbs < 9007199254740992) : ∃ s m e, double.read (fl v) = .number s m e ∧ Val s m e v := by
  obtain ⟨hL, hK1, hK2⟩ := sig_bounds v hv hb
  have hlp : double.leastPlace = -1074 := by decide
  have hbi : double.binade = 4503599627370496 := by decide
  have hin : double.infRung = 9218868437227405312 := by decide
  have hsw : double.signWeight = 9223372036854775808 := by decide
  have HK : ∃ K, v.natAbs * 2 ^ (52 - v.natAbs.log2) = K := ⟨_, rfl⟩
  obtain ⟨K, hK⟩ := HK
  have hr := read_word (decide (v < 0)) ((v.natAbs.log2 + 1022) * 4503599627370496 + K) (by omega)
  refine ⟨decide (v < 0), K, (v.natAbs.log2 : Int) - 52, ?_, 52, by omega, ?_⟩
  · unfold Format.read fl
    rw [hK] at hK1 hK2 ⊢
    rw [hlp, hbi, hin, hsw]
    simp only [hr.1, hr.2]
    rw [if_neg (by omega), if_pos (by omega)]
    have e1 : ((v.natAbs.log2 + 1022) * 4503599627370496 + K) % 4503599627370496 = K - 4503599627370496 := by omega
    have e2 : ((v.natAbs.log2 + 1022) * 4503599627370496 + K) / 4503599627370496 = v.natAbs.log2 + 1023 := by omega
    have e3 : ((decide (v < 0)).toNat == 1) = decide (v < 0) := by cases decide (v < 0) <;> rfl
    rw [e1, e2, e3, show 4503599627370496 + (K - 4503599627370496) = K by omega, show (-1074 : Int) + ((v.natAbs.log2 + 1023 - 1 : Nat) : Int) = (v.natAbs.log2 : Int) - 52 by omega]
  · rw [show ((v.natAbs.log2 : Int) - 52 + ((52 : Nat) : Int)).toNat = v.natAbs.log2 by omega, signed_eq, signed_zero, ← hK]
    have e : ((v.natAbs * 2 ^ (52 - v.natAbs.log2) : Nat) : Int) * 2 ^ v.natAbs.log2 = v.natAbs * 2 ^ 52 := by
      rw [Int.natCast_mul, Int.natCast_pow, show ((2 : Nat) : Int) = 2 from rfl, Int.mul_assoc, ← Int.pow_add, show 52 - v.natAbs.log2 + v.natAbs.log2 = 52 by omega]
    by_cases hn : v < 0
    · simp only [hn, decide_true, if_true]
      rw [Int.neg_mul, e, ← Int.neg_mul]; congr 1; omega
    · simp only [hn, decide_false, Bool.false_eq_true, if_false]
      rw [e]; congr 1; omega

/-- The word b is a float of 64 bits that stands for the whole number v. -/
def F (b : Nat) (v : Int) : Prop := b < 2 ^ 64 ∧ ∃ s m e, double.read b = .number s m e ∧ Val s m e v

theorem F_write {s : Bool} {m : Nat} {e v : Int} (h : Val s m e v) (hb : v.natAbs < 9007199254740992) : F (double.write (.number s m e)) v := by
  refine ⟨double.write_lt _, ?_⟩
  show ∃ s' m' e', double.read (double.nearest s m e) = .number s' m' e' ∧ Val s' m' e' v
  by_cases hv : v = 0
  · subst hv
    have h1 := val_abs h e.natAbs (by omega)
    rw [show (0 : Int).natAbs = 0 from rfl, Nat.zero_mul] at h1
    have hm : m = 0 := by
      rcases Nat.mul_eq_zero.1 h1 with h1 | h1
      · exact h1
      · have := Nat.two_pow_pos (e + e.natAbs).toNat; omega
    subst hm
    refine ⟨s, 0, -1074, ?_, 1074, by omega, ?_⟩
    · unfold Format.nearest
      rw [if_pos rfl]
      cases s <;> decide
    · have z : (if s = true then -((0 : Nat) : Int) else ((0 : Nat) : Int)) = 0 := by cases s <;> rfl
      rw [signed_eq, signed_zero, z, Int.zero_mul, Int.zero_mul]
  · rw [nearest_val h hv hb]
    exact read_fl v hv hb

theorem F_int (v : Int) (hb : v.natAbs < 9007199254740992) : F (floatOfInt .f64 v) v := by
  refine F_write (s := decide (v < 0)) (m := v.natAbs) (e := 0) ⟨0, by omega, ?_⟩ hb
  show signed _ _ 0 = _
  rw [signed_zero]
  by_cases hn : v < 0 <;> simp [hn] <;> omega

theorem F_add {a b : Nat} {x y : Int} (hx : F a x) (hy : F b y) (hb : (x + y).natAbs < 9007199254740992) : ∃ r, floatBits .add .f64 a b = some r ∧ F r (x + y) := by
  obtain ⟨_, s, m, i, h1, v1⟩ := hx
  obtain ⟨_, t, n, j, h2, v2⟩ := hy
  obtain ⟨p, q, h3, v3⟩ := val_sum v1 v2
  refine ⟨double.write (.number p q (min i j)), ?_, F_write v3 hb⟩
  show ((double.read a).sum (double.read b)).map double.write = _
  rw [h1, h2, h3]; rfl

theorem F_sub {a b : Nat} {x y : Int} (hx : F a x) (hy : F b y) (hb : (x - y).natAbs < 9007199254740992) : ∃ r, floatBits .sub .f64 a b = some r ∧ F r (x - y) := by
  obtain ⟨_, s, m, i, h1, v1⟩ := hx
  obtain ⟨_, t, n, j, h2, v2⟩ := hy
  obtain ⟨p, q, h3, v3⟩ := val_sum v1 (val_opp v2)
  refine ⟨double.write (.number p q (min i j)), ?_, F_write v3 hb⟩
  show ((double.read a).sum (double.read b).opposite).map double.write = _
  rw [h1, h2]
  show ((Datum.number s m i).sum (Datum.number (!t) n j)).map double.write = _
  rw [h3]; rfl

theorem F_mul {a b : Nat} {x y : Int} (hx : F a x) (hy : F b y) (hb : (x * y).natAbs < 9007199254740992) : ∃ r, floatBits .mul .f64 a b = some r ∧ F r (x * y) := by
  obtain ⟨_, s, m, i, h1, v1⟩ := hx
  obtain ⟨_, t, n, j, h2, v2⟩ := hy
  refine ⟨double.write (.number (s ^^ t) (m * n) (i + j)), ?_, F_write (val_product v1 v2) hb⟩
  show ((double.read a).product (double.read b)).map double.write = _
  rw [h1, h2]; rfl

theorem F_neg {a : Nat} {x : Int} (hx : F a x) : F (Op.negFloat .f64 a) (-x) := by
  obtain ⟨hl, s, m, e, h, v⟩ := hx
  have hn : Op.negFloat .f64 a = a ^^^ 2 ^ 63 := rfl
  have hlt : a ^^^ 2 ^ 63 < 2 ^ 64 := Nat.xor_lt_two_pow hl (by decide)
  rw [hn]
  refine ⟨hlt, !s, m, e, ?_, val_opp v⟩
  have hsw : double.signWeight = 2 ^ 63 := rfl
  have e1 : (a ^^^ 2 ^ 63) % 2 ^ 63 = a % 2 ^ 63 := by
    rw [Nat.xor_mod_two_pow, Nat.mod_self, Nat.xor_zero]
  have e2 : (a ^^^ 2 ^ 63) / 2 ^ 63 = a / 2 ^ 63 ^^^ 1 := by
    rw [Nat.xor_div_two_pow, Nat.div_self (by decide)]
  have e3 : a / 2 ^ 63 = 0 ∨ a / 2 ^ 63 = 1 := by omega
  have hopp : double.read (a ^^^ 2 ^ 63) = (double.read a).opposite := by
    unfold Format.read
    rw [hsw, e1, e2]
    rcases e3 with e3 | e3 <;> rw [e3] <;> simp only []
    all_goals (split; rfl; split; rfl; split <;> rfl)
  rw [hopp, h]; rfl

theorem F_toInt {a : Nat} {x : Int} (hx : F a x) (h0 : -9223372036854775808 ≤ x) (h1 : x ≤ 9223372036854775807) : floatToIntVal .f64 a .i64 = some x := by
  obtain ⟨hl, s, m, e, h, v⟩ := hx
  have hd : FloatKind.f64.decode a = .number s m e := h
  have ht : (Datum.number s m e).toInt .zero = some x := by
    show some (signed s (Toward.zero.cut s (m <<< e.toNat) (-e).toNat) 0) = some x
    congr 1
    by_cases hx0 : x = 0
    · subst hx0
      have ha := val_abs v e.natAbs (by omega)
      rw [show (0 : Int).natAbs = 0 from rfl, Nat.zero_mul] at ha
      have hm : m = 0 := by
        rcases Nat.mul_eq_zero.1 ha with ha | ha
        · exact ha
        · have := Nat.two_pow_pos (e + e.natAbs).toNat; omega
      subst hm
      have : Toward.zero.cut s (0 <<< e.toNat) (-e).toNat = 0 := by unfold Toward.cut; simp
      rw [this, signed_zero]; cases s <;> rfl
    · have hcut : Toward.zero.cut s (m <<< e.toNat) (-e).toNat = x.natAbs := by
        rw [Nat.shiftLeft_eq]
        by_cases he : 0 ≤ e
        · have ha := val_abs v 0 (by omega)
          rw [show (-e).toNat = 0 by omega]
          rw [show (e + ((0 : Nat) : Int)).toNat = e.toNat by omega, Nat.pow_zero, Nat.mul_one] at ha
          rw [ha]
          have := cut_exact .zero s x.natAbs 0 (by omega)
          rwa [Nat.pow_zero, Nat.mul_one] at this
        · have ha := val_abs v (-e).toNat (by omega)
          rw [show (e + (((-e).toNat : Nat) : Int)).toNat = 0 by omega, Nat.pow_zero, Nat.mul_one] at ha
          rw [show e.toNat = 0 by omega, Nat.pow_zero, Nat.mul_one, ha]
          exact cut_exact .zero s x.natAbs _ (by omega)
      rw [hcut, signed_zero, val_sgn v hx0]
      by_cases hn : x < 0 <;> simp [hn] <;> omega
  have hmin : IntKind.i64.min = -9223372036854775808 := by decide
  have hmax : IntKind.i64.max = 9223372036854775807 := by decide
  unfold floatToIntVal
  rw [hd, ht]
  simp only [hmin, hmax]
  rw [if_pos ⟨h0, h1⟩]

end Go.Proofs.Ytknnobijdojjhaa
