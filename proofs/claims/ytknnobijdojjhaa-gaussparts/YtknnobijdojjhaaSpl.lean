/-
  Plain facts on texts of two parts and the letter i: where they are cut. No program is spoken of. Conditions: as said.
-/
import Derived.Test.YtknnobijdojjhaaCut
import Derived.Test.YtknnobijdojjhaaDig
namespace Go.Proofs.Ytknnobijdojjhaa
open Go.RowKit

theorem ext_list (s : ByteArray) (i j : Nat) : (s.extract i j).data.toList = (s.data.toList.drop i).take (j - i) := by
  rw [ByteArray.data_extract, Array.toList_extract, List.extract_eq_take_drop]
theorem get_list (s : ByteArray) (k : Nat) (h : k < s.size) : s.data.toList[k]? = some s[k] := by
  rw [List.getElem?_eq_getElem (by rw [size_list]; exact h)]; rfl
theorem byte_eq {c : UInt8} {n : Nat} (hn : n < 256) (h : ((c.toNat : Int) == n) = true) : c = UInt8.ofNat n := by
  apply UInt8.toNat_inj.1
  rw [UInt8.toNat_ofNat_of_lt' (by simpa using hn)]
  have := eq_of_beq h
  omega

/-- l is a, a sign, another part without its plus sign, and the letter. -/
def Split (l a b : List UInt8) : Prop := (∃ w, b = 45 :: w ∧ l = a ++ 45 :: w ++ [105]) ∨ (b.headD 0 ≠ 45 ∧ l = a ++ 43 :: b ++ [105])

theorem cut_list (s : ByteArray) (m k : Nat) (hm : m + 1 = s.size) (hk : k < m) : s.data.toList = (s.extract 0 k).data.toList ++ s[k] :: (s.extract (k + 1) m).data.toList ++ [s[m]] := by
  rw [ext_list, ext_list, List.drop_zero, Nat.sub_zero]
  have h1 : s.data.toList = s.data.toList.take m ++ [s[m]] := by
    have := take_snoc s m (by omega)
    rw [List.take_of_length_le (by rw [size_list]; omega)] at this
    exact this
  have h2 : s.data.toList.take m = s.data.toList.take k ++ s[k] :: (s.data.toList.drop (k + 1)).take (m - (k + 1)) := by
    have e1 : (s.data.toList.take m).take (k + 1) = s.data.toList.take k ++ [s[k]] := by
      rw [List.take_take, Nat.min_eq_left (by omega), take_snoc s k (by omega)]
    have e2 : (s.data.toList.take m).drop (k + 1) = (s.data.toList.drop (k + 1)).take (m - (k + 1)) := by rw [List.drop_take]
    rw [← List.take_append_drop (k + 1) (s.data.toList.take m), e1, e2]; simp
  rw [← h2]; exact h1

theorem ext_step (s : ByteArray) (k m : Nat) (hk : k < m) (hm : m < s.size) : (s.extract k m).data.toList = s[k] :: (s.extract (k + 1) m).data.toList := by
  rw [ext_list, ext_list, show m - k = (m - (k + 1)) + 1 by omega]
  rw [List.drop_eq_getElem_cons (by rw [size_list]; omega), List.take_succ_cons]; rfl

/-- What is cut is split. -/
theorem cutFrom_split (s : ByteArray) (m : Nat) (hm : m + 1 = s.size) (h : m < s.size) (hi : s[m] = 105) (A B : ByteArray) : ∀ (d k : Nat), m - k = d → cutFrom s m h k = (A, B, true) → Split s.data.toList A.data.toList B.data.toList := by
  intro d
  induction d with
  | zero =>
    intro k hk hc
    rw [cutFrom, dif_neg (by omega)] at hc
    simp at hc
  | succ d ih =>
    intro k hk hc
    rw [cutFrom, dif_pos (by omega)] at hc
    by_cases h1 : ((s[k].toNat : Int) == 45) = true
    · rw [if_pos h1] at hc
      simp only [Prod.mk.injEq] at hc
      obtain ⟨rfl, rfl, _⟩ := hc
      have hb : s[k] = 45 := byte_eq (n := 45) (by omega) h1
      left
      refine ⟨(s.extract (k + 1) m).data.toList, ?_, ?_⟩
      · rw [ext_step s k m (by omega) h, hb]
      · rw [cut_list s m k hm (by omega), hb, hi]
    · rw [if_neg h1] at hc
      by_cases h2 : ((s[k].toNat : Int) == 43) = true
      · rw [if_pos h2] at hc
        simp only [Prod.mk.injEq] at hc
        obtain ⟨rfl, rfl, h3⟩ := hc
        have hb : s[k] = 43 := byte_eq (n := 43) (by omega) h2
        right
        refine ⟨?_, ?_⟩
        · by_cases hlt : k + 1 < m
          · rw [ext_step s (k + 1) m hlt h]
            intro e
            have e2 : s[k + 1] = 45 := e
            rw [e2] at h3
            exact absurd h3 (by decide)
          · rw [ext_list, show m - (k + 1) = 0 by omega, List.take_zero]
            decide
        · rw [cut_list s m k hm (by omega), hb, hi]
      · rw [if_neg h2] at hc
        exact ih (k + 1) (by omega) hc

theorem get_app (s : ByteArray) (a r : List UInt8) (h : s.data.toList = a ++ r) (k : Nat) (hk : k < a.length) (hs : k < s.size) : a[k]? = some s[k] := by
  rw [← get_list s k hs, h, List.getElem?_append_left hk]

theorem bytes_eq {s t : ByteArray} (h : s.data.toList = t.data.toList) : s = t := by
  apply ByteArray.ext
  exact Array.toList_inj.1 h

theorem byte_ne {c : UInt8} {n : Nat} (hn : n < 256) (h : c ≠ UInt8.ofNat n) : ((c.toNat : Int) == n) = false := by
  rw [beq_eq_false_iff_ne]
  intro e
  apply h
  apply UInt8.toNat_inj.1
  rw [UInt8.toNat_ofNat_of_lt' (by simpa using hn)]
  omega

/-- A split text whose first part holds no sign behind its first byte is cut there. -/
theorem cutFrom_of_split (s : ByteArray) (m : Nat) (h : m < s.size) (a b : List UInt8) (hsp : Split s.data.toList a b) (ha : ∀ k, 1 ≤ k → ∀ c, a[k]? = some c → c ≠ 45 ∧ c ≠ 43) (hm : m + 1 = s.size) :
    ∀ (d k : Nat), a.length - k = d → 1 ≤ k → k ≤ a.length → cutFrom s m h k = (bs a, bs b, true) := by
  have hlen : a.length < m ∧ ∀ r, s.data.toList = a ++ r → r.length = s.size - a.length := by
    constructor
    · have hl := congrArg List.length (show s.data.toList = s.data.toList from rfl)
      rcases hsp with ⟨w, rfl, hw⟩ | ⟨_, hw⟩
      · rw [hw] at hl; have := size_list s; rw [hw] at this; simp at this; omega
      · have := size_list s; rw [hw] at this; simp at this; omega
    · intro r hr
      have := size_list s; rw [hr] at this; simp at this; omega
  intro d
  induction d with
  | zero =>
    intro k hk h1 hka
    obtain rfl : k = a.length := by omega
    have hks : a.length < s.size := by omega
    have hgk := get_list s a.length hks
    rw [cutFrom, dif_pos hlen.1]
    rcases hsp with ⟨w, hb, hw⟩ | ⟨hb, hw⟩
    · rw [hw, List.append_assoc, List.getElem?_append_right (Nat.le_refl _), Nat.sub_self] at hgk
      have hg : s[a.length] = 45 := by simpa using hgk.symm
      rw [if_pos (by rw [hg]; decide)]
      have hwl : w.length + 1 = m - a.length := by have := size_list s; rw [hw] at this; simp at this; omega
      congr 1
      · apply bytes_eq
        rw [ext_list, bs_list, hw, List.drop_zero, Nat.sub_zero, List.append_assoc, List.take_left]
      · congr 1
        apply bytes_eq
        rw [ext_list, bs_list, hw, hb, List.append_assoc, List.drop_left, ← hwl]
        show (45 :: (w ++ [105])).take (w.length + 1) = _
        rw [List.take_succ_cons, List.take_left]
    · rw [hw, List.append_assoc, List.getElem?_append_right (Nat.le_refl _), Nat.sub_self] at hgk
      have hg : s[a.length] = 43 := by simpa using hgk.symm
      rw [if_neg (by rw [hg]; decide), if_pos (by rw [hg]; decide)]
      have hbl : b.length + 1 = m - a.length := by have := size_list s; rw [hw] at this; simp at this; omega
      congr 1
      · apply bytes_eq
        rw [ext_list, bs_list, hw, List.drop_zero, Nat.sub_zero, List.append_assoc, List.take_left]
      · congr 1
        · apply bytes_eq
          rw [ext_list, bs_list, hw, List.append_assoc]
          rw [show a.length + 1 = a.length + 1 from rfl, List.drop_append, List.drop_eq_nil_of_le (by omega), List.nil_append, show a.length + 1 - a.length = 1 by omega]
          show (b ++ [105]).take (m - (a.length + 1)) = b
          rw [show m - (a.length + 1) = b.length by omega, List.take_left]
        · have hg1 := get_list s (a.length + 1) (by omega)
          rw [hw, List.append_assoc, List.getElem?_append_right (by omega), show a.length + 1 - a.length = 1 by omega] at hg1
          have hg2 : (b ++ [105])[0]? = some s[a.length + 1] := hg1
          rw [bne_iff_ne]
          intro e
          have e2 : s[a.length + 1] = 45 := byte_eq (n := 45) (by omega) (by rw [e]; rfl)
          rw [e2] at hg2
          cases b with
          | nil => simp at hg2
          | cons c x => apply hb; simpa using hg2
  | succ d ih =>
    intro k hk h1 hka
    have hkl : k < a.length := by omega
    have hks : k < s.size := by omega
    have hg : a[k]? = some s[k] := by
      rcases hsp with ⟨w, _, hw⟩ | ⟨_, hw⟩
      · exact get_app s a _ (by rw [hw, List.append_assoc]) k hkl hks
      · exact get_app s a _ (by rw [hw, List.append_assoc]) k hkl hks
    have hn := ha k h1 _ hg
    have f1 : ((s[k].toNat : Int) == 45) = false := byte_ne (n := 45) (by omega) hn.1
    have f2 : ((s[k].toNat : Int) == 43) = false := byte_ne (n := 43) (by omega) hn.2
    rw [cutFrom, dif_pos (by omega), if_neg (by rw [f1]; decide), if_neg (by rw [f2]; decide)]
    exact ih (k + 1) (by omega) (by omega) (by omega)

/-! ### Where digits end -/
theorem dEnd_all (s : ByteArray) : ∀ (d k : Nat), s.size - k = d → k ≤ s.size → k ≤ dEnd s k ∧ dEnd s k ≤ s.size ∧ (∀ j, k ≤ j → (hj : j < dEnd s k) → ∀ h : j < s.size, digB s[j] = true) ∧ (∀ h : dEnd s k < s.size, digB s[dEnd s k] = false) := by
  intro d
  induction d with
  | zero =>
    intro k hk hle
    obtain rfl : k = s.size := by omega
    rw [dEnd, dif_neg (by omega)]
    exact ⟨Nat.le_refl _, Nat.le_refl _, fun j h1 h2 => by omega, fun h => by omega⟩
  | succ d ih =>
    intro k hk hle
    by_cases hd : digB (s[k]'(by omega)) = true
    · have e : dEnd s k = dEnd s (k + 1) := by rw [dEnd, dif_pos (by omega), if_pos hd]
      obtain ⟨h1, h2, h3, h4⟩ := ih (k + 1) (by omega) (by omega)
      refine ⟨by omega, by omega, fun j hj hj2 h => ?_, fun h => ?_⟩
      · by_cases hjk : j = k
        · subst hjk; exact hd
        · exact h3 j (by omega) (by omega) h
      · have := h4 (by omega)
        simpa [e] using this
    · have e : dEnd s k = k := by rw [dEnd, dif_pos (by omega), if_neg hd]
      refine ⟨by omega, by omega, fun j hj hj2 => by omega, fun h => ?_⟩
      have : digB (s[k]'(by omega)) = false := by simpa using hd
      simpa [e] using this

theorem dEnd_eq (s : ByteArray) (k m : Nat) (hkm : k ≤ m) (hm : m ≤ s.size) (hd : ∀ j, k ≤ j → j < m → ∀ h : j < s.size, digB s[j] = true) (hstop : ∀ h : m < s.size, digB s[m] = false) : dEnd s k = m := by
  obtain ⟨h1, h2, h3, h4⟩ := dEnd_all s _ k rfl (by omega)
  rcases Nat.lt_trichotomy (dEnd s k) m with h | h | h
  · have a := hd _ h1 h (by omega)
    rw [h4 (by omega)] at a; exact absurd a (by decide)
  · exact h
  · have a := h3 m hkm h (by omega)
    rw [hstop (by omega)] at a; exact absurd a (by decide)

theorem good_body {l : List UInt8} (h : good l = true) : isDec (body l) = true := by
  unfold good at h; rw [Bool.and_eq_true] at h; exact h.1
theorem dec_ne_nil {l : List UInt8} (h : isDec l = true) : 1 ≤ l.length := by
  unfold isDec at h
  cases l with
  | nil => simp at h
  | cons c x => simp
theorem good_neg {l : List UInt8} (h : negB l = true) : ∃ w, l = 45 :: w ∧ body l = w := by
  unfold negB at h
  cases l with
  | nil => simp at h
  | cons c x =>
    have : c = 45 := by simpa using h
    subst this
    exact ⟨x, rfl, by unfold body negB; simp⟩
theorem good_pos {l : List UInt8} (h : negB l = false) : body l = l := by unfold body; rw [h]; rfl

/-- A good part: behind its sign, if it has one, all are digits. -/
theorem good_digs {l : List UInt8} (h : good l = true) (k : Nat) (hk : (if negB l then 1 else 0) ≤ k) (c : UInt8) (hc : l[k]? = some c) : digB c = true := by
  have hb := good_body h
  have hall := isDec_all hb
  rw [List.all_eq_true] at hall
  cases hn : negB l
  · rw [good_pos hn] at hall
    exact hall c (List.mem_of_getElem? hc)
  · obtain ⟨w, rfl, hw⟩ := good_neg hn
    rw [hw] at hall
    rw [hn] at hk
    obtain ⟨j, rfl⟩ : ∃ j, k = j + 1 := ⟨k - 1, by simp at hk; omega⟩
    rw [List.getElem?_cons_succ] at hc
    exact hall c (List.mem_of_getElem? hc)
theorem good_len {l : List UInt8} (h : good l = true) : 1 ≤ l.length ∧ (negB l = true → 2 ≤ l.length) := by
  have hb := dec_ne_nil (good_body h)
  cases hn : negB l
  · rw [good_pos hn] at hb; exact ⟨hb, fun h => by cases h⟩
  · obtain ⟨w, rfl, hw⟩ := good_neg hn
    rw [hw] at hb
    simp; omega
theorem dig_no {c : UInt8} (h : digB c = true) : c ≠ 45 ∧ c ≠ 43 ∧ c ≠ 105 := by
  refine ⟨?_, ?_, ?_⟩ <;> (rintro rfl; exact absurd h (by decide))

theorem split_last {l a b : List UInt8} (h : Split l a b) : ∃ r, l = r ++ [105] := by
  rcases h with ⟨w, _, h⟩ | ⟨_, h⟩
  · exact ⟨_, h⟩
  · exact ⟨_, h⟩
theorem split_len {l a b : List UInt8} (h : Split l a b) : a.length + 2 ≤ l.length := by
  rcases h with ⟨w, _, h⟩ | ⟨_, h⟩ <;> rw [h] <;> simp
theorem split_at {l a b : List UInt8} (h : Split l a b) : ∃ r, l = a ++ r := by
  rcases h with ⟨w, _, h⟩ | ⟨_, h⟩
  · exact ⟨_, by rw [h, List.append_assoc]⟩
  · exact ⟨_, by rw [h, List.append_assoc]⟩

theorem cut_good_split (s : ByteArray) (m : Nat) (h : m < s.size) (hm : m + 1 = s.size) (a b : List UInt8) (hsp : Split s.data.toList a b) (ha : good a = true) : cutFrom s m h 1 = (bs a, bs b, true) := by
  have h1 := (good_len ha).1
  refine cutFrom_of_split s m h a b hsp (fun k hk c hc => ?_) hm _ 1 rfl (Nat.le_refl _) h1
  have := dig_no (good_digs ha k (by split <;> omega) c hc)
  exact ⟨this.1, this.2.1⟩

theorem split_uniq {l a b a' b' : List UInt8} (h : Split l a b) (h' : Split l a' b') (ha : good a = true) (ha' : good a' = true) : a = a' ∧ b = b' := by
  have hl := split_len h
  have hsz : (bs l).size = l.length := bs_size l
  have e1 := cut_good_split (bs l) (l.length - 1) (by omega) (by omega) a b (by rw [bs_list]; exact h) ha
  have e2 := cut_good_split (bs l) (l.length - 1) (by omega) (by omega) a' b' (by rw [bs_list]; exact h') ha'
  rw [e1] at e2
  simp only [Prod.mk.injEq] at e2
  have i1 := congrArg (fun s : ByteArray => s.data.toList) e2.1
  have i2 := congrArg (fun s : ByteArray => s.data.toList) e2.2.1
  simp only [bs_list] at i1 i2
  exact ⟨i1, i2⟩

/-- The document's own way finds the same cut. -/
theorem ref_good_split (s : ByteArray) (m : Nat) (hm : m + 1 = s.size) (a b : List UInt8) (hsp : Split s.data.toList a b) (ha : good a = true) (hb : good b = true) :
    dEnd s (if negB a then 1 else 0) = a.length ∧ dEnd s (a.length + 1) = m := by
  have hl := split_len hsp
  rw [size_list] at hl
  obtain ⟨r, hr⟩ := split_at hsp
  have hla := good_len ha
  constructor
  · refine dEnd_eq s _ _ (by split <;> omega) (by omega) (fun j h1 h2 h => ?_) (fun h => ?_)
    · exact good_digs ha j h1 _ (get_app s a r hr j h2 h)
    · have hg := get_list s a.length h
      rcases hsp with ⟨w, _, hw⟩ | ⟨_, hw⟩
      · rw [hw, List.append_assoc, List.getElem?_append_right (Nat.le_refl _), Nat.sub_self] at hg
        have : s[a.length] = 45 := by simpa using hg.symm
        rw [this]; decide
      · rw [hw, List.append_assoc, List.getElem?_append_right (Nat.le_refl _), Nat.sub_self] at hg
        have : s[a.length] = 43 := by simpa using hg.symm
        rw [this]; decide
  · have hlast : ∀ h : m < s.size, digB s[m] = false := fun h => by
      obtain ⟨r, hr⟩ := split_last hsp
      have hg := get_list s m h
      have hrl : r.length = m := by have := size_list s; rw [hr] at this; simp at this; omega
      rw [hr, List.getElem?_append_right (by omega), hrl, Nat.sub_self] at hg
      have : s[m] = 105 := by simpa using hg.symm
      rw [this]; decide
    refine dEnd_eq s _ _ (by omega) (by omega) (fun j h1 h2 h => ?_) hlast
    have hg := get_list s j h
    rcases hsp with ⟨w, rfl, hw⟩ | ⟨hb2, hw⟩
    · have hwl : a.length + w.length + 1 = m := by have := size_list s; rw [hw] at this; simp at this; omega
      rw [hw, List.append_assoc, List.getElem?_append_right (by omega)] at hg
      obtain ⟨i, hi⟩ : ∃ i, j - a.length = i + 1 := ⟨j - a.length - 1, by omega⟩
      rw [hi, List.cons_append, List.getElem?_cons_succ, List.getElem?_append_left (by omega)] at hg
      exact good_digs hb (i + 1) (by split <;> omega) _ (by rw [List.getElem?_cons_succ]; exact hg)
    · have hbl : a.length + b.length + 1 = m := by have := size_list s; rw [hw] at this; simp at this; omega
      rw [hw, List.append_assoc, List.getElem?_append_right (by omega)] at hg
      obtain ⟨i, hi⟩ : ∃ i, j - a.length = i + 1 := ⟨j - a.length - 1, by omega⟩
      rw [hi, List.cons_append, List.getElem?_cons_succ, List.getElem?_append_left (by omega)] at hg
      have hnb : negB b = false := by unfold negB; simpa using hb2
      exact good_digs hb i (by rw [hnb]; simp) _ hg

/-- What the document's own way finds is split. -/
theorem ref_split (s : ByteArray) (k m : Nat) (hm : m + 1 = s.size) (hk : k < s.size) (hms : m < s.size) (hkm : k < m) (hi : s[m] = 105) (he : dEnd s (k + 1) = m) :
    (s[k] = 43 → Split s.data.toList (s.extract 0 k).data.toList (s.extract (k + 1) m).data.toList) ∧ (s[k] = 45 → Split s.data.toList (s.extract 0 k).data.toList (s.extract k m).data.toList) := by
  constructor
  · intro h
    right
    refine ⟨?_, by rw [cut_list s m k hm hkm, h, hi]⟩
    by_cases hlt : k + 1 < m
    · rw [ext_step s (k + 1) m hlt hms]
      have hd := (dEnd_all s _ (k + 1) rfl (by omega)).2.2.1 (k + 1) (Nat.le_refl _) (by omega) (by omega)
      exact (dig_no hd).1
    · rw [ext_list, show m - (k + 1) = 0 by omega, List.take_zero]
      decide
  · intro h
    left
    exact ⟨_, by rw [ext_step s k m hkm hms, h], by rw [cut_list s m k hm hkm, h, hi]⟩

end Go.Proofs.Ytknnobijdojjhaa
