/-
  Plain facts on decimal texts: a number's digits, and the number of digits. No program is spoken of. Conditions: those that are said.
-/
import Derived.WalkKit
import Derived.Laws.BytesArg
import Derived.Lib.Hide
namespace Go.Proofs.Ytddeiidkmihkkaa.Nm
open Go.RowKit

/-- The digit d as a byte. -/
def dch (d : Nat) : UInt8 := UInt8.ofNat (48 + d)
/-- A number's digits. -/
def dec (n : Nat) : List UInt8 := if _h : n < 10 then [dch n] else dec (n / 10) ++ [dch (n % 10)]
termination_by n
decreasing_by omega
/-- The number of digits. -/
def valL (l : List UInt8) : Nat := l.foldl (fun v c => v * 10 + (c.toNat - 48)) 0
def digB (c : UInt8) : Bool := decide (48 ≤ c.toNat) && decide (c.toNat ≤ 57)
/-- Digits, at least one, without noughts ahead of others. -/
def isDec (l : List UInt8) : Bool := !l.isEmpty && !(l.headD 0 == 48 && decide (1 < l.length)) && l.all digB

theorem dch_toNat {d : Nat} (h : d < 10) : (dch d).toNat = 48 + d := by
  unfold dch; rw [UInt8.toNat_ofNat']; omega
theorem dch_of {c : UInt8} (h : digB c = true) : dch (c.toNat - 48) = c := by
  unfold digB at h; simp at h
  apply UInt8.toNat_inj.1
  rw [dch_toNat (by omega)]; omega
theorem digB_dch {d : Nat} (h : d < 10) : digB (dch d) = true := by
  unfold digB; rw [dch_toNat h]; simp; omega

theorem dec_small {n : Nat} (h : n < 10) : dec n = [dch n] := by rw [dec, dif_pos h]
theorem dec_big {n : Nat} (h : ¬ n < 10) : dec n = dec (n / 10) ++ [dch (n % 10)] := by rw [dec, dif_neg h]
theorem dec_len (n : Nat) : 1 ≤ (dec n).length := by
  by_cases h : n < 10
  · rw [dec_small h]; simp
  · rw [dec_big h]; simp
theorem dec_ne (n : Nat) : dec n ≠ [] := by
  intro h; have := dec_len n; rw [h] at this; simp at this
theorem dec_all (n : Nat) : (dec n).all digB = true := by
  induction n using Nat.strongRecOn with
  | _ n ih =>
    by_cases h : n < 10
    · rw [dec_small h]; simp [digB_dch h]
    · rw [dec_big h, List.all_append, ih _ (by omega)]; simp [digB_dch (show n % 10 < 10 by omega)]
theorem headD_append {l m : List UInt8} (h : l ≠ []) (z : UInt8) : (l ++ m).headD z = l.headD z := by
  cases l with
  | nil => exact absurd rfl h
  | cons a l => rfl
theorem dec_head (n : Nat) (h : 0 < n) : (dec n).headD 0 ≠ 48 := by
  induction n using Nat.strongRecOn with
  | _ n ih =>
    by_cases hn : n < 10
    · rw [dec_small hn]
      show dch n ≠ 48
      intro e
      have := congrArg UInt8.toNat e
      rw [dch_toNat hn] at this
      have h48 : (48 : UInt8).toNat = 48 := rfl
      omega
    · rw [dec_big hn, headD_append (dec_ne _)]
      exact ih _ (by omega) (by omega)
theorem isDec_dec (n : Nat) : isDec (dec n) = true := by
  unfold isDec
  rw [dec_all]
  have h1 : (dec n).isEmpty = false := by
    cases h : dec n with
    | nil => exact absurd h (dec_ne n)
    | cons a l => rfl
  rw [h1]
  by_cases hn : n < 10
  · rw [dec_small hn]; simp
  · have h2 := dec_head n (by omega)
    have h3 : ((dec n).headD 0 == 48) = false := by simpa using h2
    rw [h3]; rfl

theorem valL_snoc (l : List UInt8) (c : UInt8) : valL (l ++ [c]) = valL l * 10 + (c.toNat - 48) := by
  unfold valL; rw [List.foldl_append]; rfl
theorem valL_dec (n : Nat) : valL (dec n) = n := by
  induction n using Nat.strongRecOn with
  | _ n ih =>
    by_cases h : n < 10
    · rw [dec_small h]
      show 0 * 10 + ((dch n).toNat - 48) = n
      rw [dch_toNat h]; omega
    · rw [dec_big h, valL_snoc, ih _ (by omega), dch_toNat (by omega)]; omega

theorem snoc_ind {P : List UInt8 → Prop} (h0 : P []) (h1 : ∀ l c, P l → P (l ++ [c])) : ∀ l, P l := by
  intro l
  have : ∀ n (l : List UInt8), l.length = n → P l := by
    intro n
    induction n with
    | zero => intro l hl; rw [List.length_eq_zero_iff.1 hl]; exact h0
    | succ n ih =>
      intro l hl
      have hne : l ≠ [] := by intro h; rw [h] at hl; simp at hl
      rw [← List.dropLast_concat_getLast hne]
      exact h1 _ _ (ih _ (by simp; omega))
  exact this _ l rfl

theorem isDec_snoc {l : List UInt8} {c : UInt8} (hl : l ≠ []) (h : isDec (l ++ [c]) = true) : isDec l = true ∧ digB c = true ∧ l.headD 0 ≠ 48 := by
  unfold isDec at h ⊢
  have hlen : 1 < (l ++ [c]).length := by
    cases l with
    | nil => exact absurd rfl hl
    | cons a l => simp
  rw [headD_append hl, List.all_append, decide_eq_true hlen] at h
  simp only [Bool.and_true, Bool.and_eq_true, Bool.not_eq_true', List.all_cons, List.all_nil] at h
  obtain ⟨⟨_, h2⟩, h3, h4⟩ := h
  have h5 : l.isEmpty = false := by
    cases l with
    | nil => exact absurd rfl hl
    | cons a l => rfl
  refine ⟨?_, h4, by simpa using h2⟩
  rw [h5, h2, h3]; rfl

theorem valL_pos (l : List UInt8) (h : l ≠ []) (hd : l.all digB = true) (hh : l.headD 0 ≠ 48) : 1 ≤ valL l := by
  revert h hd hh
  refine snoc_ind (P := fun l => l ≠ [] → l.all digB = true → l.headD 0 ≠ 48 → 1 ≤ valL l) ?_ ?_ l
  · intro h; exact absurd rfl h
  · intro l c ih _ hd hh
    rw [valL_snoc]
    by_cases hl : l = []
    · subst hl
      simp only [List.nil_append, List.all_cons, List.all_nil, Bool.and_true, List.headD_cons] at hd hh
      unfold digB at hd; simp at hd
      have : c.toNat ≠ 48 := fun e => hh (UInt8.toNat_inj.1 e)
      omega
    · rw [List.all_append] at hd
      simp only [Bool.and_eq_true] at hd
      rw [headD_append hl] at hh
      have := ih hl hd.1 hh
      omega

theorem dec_valL (l : List UInt8) (h : isDec l = true) : dec (valL l) = l := by
  revert h
  refine snoc_ind (P := fun l => isDec l = true → dec (valL l) = l) ?_ ?_ l
  · intro h; simp [isDec] at h
  · intro l c ih h
    by_cases hl : l = []
    · subst hl
      have hc : digB c = true := by
        unfold isDec at h
        simp only [List.nil_append, List.all_cons, List.all_nil, Bool.and_true, Bool.and_eq_true] at h
        exact h.2
      have hc' := hc
      unfold digB at hc; simp at hc
      rw [valL_snoc]
      show dec (0 * 10 + (c.toNat - 48)) = [c]
      rw [show 0 * 10 + (c.toNat - 48) = c.toNat - 48 by omega, dec_small (by omega), dch_of hc']
    · obtain ⟨h1, h2, h3⟩ := isDec_snoc hl h
      have hall : l.all digB = true := by
        unfold isDec at h1; simp only [Bool.and_eq_true] at h1; exact h1.2
      have hp := valL_pos l hl hall h3
      have hc' := h2
      unfold digB at h2; simp at h2
      rw [valL_snoc, dec_big (by omega), show (valL l * 10 + (c.toNat - 48)) / 10 = valL l by omega, show (valL l * 10 + (c.toNat - 48)) % 10 = c.toNat - 48 by omega, ih h1, dch_of hc']

/-- The lowest k digits, as bytes' numbers. -/
def lowd (n : Nat) : Nat → List Int
  | 0 => []
  | k + 1 => ((48 + n / 10 ^ k % 10 : Nat) : Int) :: lowd n k
theorem lowd_len (n k : Nat) : (lowd n k).length = k := by
  induction k with
  | zero => rfl
  | succ k ih => simp [lowd, ih]
theorem lowd_snoc (n k : Nat) : lowd n (k + 1) = lowd (n / 10) k ++ [((48 + n % 10 : Nat) : Int)] := by
  induction k with
  | zero => simp [lowd]
  | succ k ih =>
    rw [lowd, ih, lowd]
    rw [Nat.pow_succ, Nat.mul_comm, ← Nat.div_div_eq_div_mul]; rfl
theorem lowd_dec (n : Nat) : (lowd n (dec n).length).map (fun x => UInt8.ofNat x.toNat) = dec n := by
  induction n using Nat.strongRecOn with
  | _ n ih =>
    by_cases h : n < 10
    · rw [dec_small h]
      show [UInt8.ofNat (((48 + n / 10 ^ 0 % 10 : Nat) : Int)).toNat] = [dch n]
      rw [Nat.pow_zero, Nat.div_one, Nat.mod_eq_of_lt h]; rfl
    · rw [dec_big h, List.length_append, List.length_singleton, lowd_snoc, List.map_append, ih _ (by omega)]
      rfl

/-- Bytes as a string. -/
def bs (l : List UInt8) : ByteArray := ⟨l.toArray⟩
theorem bs_size (l : List UInt8) : (bs l).size = l.length := by simp [bs, ByteArray.size]
theorem bs_list (l : List UInt8) : (bs l).data.toList = l := by simp [bs]
theorem bs_eta (s : ByteArray) : bs s.data.toList = s := by simp [bs]
theorem strOf_lowd (n : Nat) : strOfNums (lowd n (dec n).length) = bs (dec n) := by
  unfold strOfNums bs; rw [lowd_dec]
theorem bs_app (l m : List UInt8) : bs l ++ bs m = bs (l ++ m) := by
  apply ByteArray.ext
  simp [bs]

theorem dec_len_le (n : Nat) (h : n ≤ 18446744073709551615) : (dec n).length ≤ 20 := by
  have : ∀ k n, n < 10 ^ (k + 1) → (dec n).length ≤ k + 1 := by
    intro k
    induction k with
    | zero => intro n hn; rw [dec_small (by simpa using hn)]; simp
    | succ k ih =>
      intro n hn
      by_cases hs : n < 10
      · rw [dec_small hs]; simp
      · rw [dec_big hs]
        have : n / 10 < 10 ^ (k + 1) := by rw [Nat.div_lt_iff_lt_mul (by omega)]; rw [Nat.pow_succ] at hn; exact hn
        have := ih _ this
        simp; omega
  exact this 19 n (by have : (10 : Nat) ^ (19 + 1) = 100000000000000000000 := by decide
                      omega)

end Go.Proofs.Ytddeiidkmihkkaa.Nm
