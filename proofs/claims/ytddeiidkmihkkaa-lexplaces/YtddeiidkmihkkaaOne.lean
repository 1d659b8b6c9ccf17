/-
  Contract of the document's One, for every text and place. Conditions: texts of at most 100000 bytes, a place within.
-/
import Derived.Test.YtddeiidkmihkkaaOns
namespace Go.Proofs.Ytddeiidkmihkkaa
open Go.RowKit Go.Sort
set_option linter.unusedVariables false

theorem word_small {l : List UInt8} (h : isWord l = true) : sml (l.headD 0) = true := by
  unfold isWord at h
  rw [decide_eq_true_eq] at h
  have : ∀ x ∈ words, sml (x.headD 0) = true := by decide
  exact this l h

theorem grt_not_sml {c : UInt8} (h : grt c = true) : sml c = false := by
  unfold grt at h
  rw [Bool.and_eq_true, decide_eq_true_eq, decide_eq_true_eq] at h
  have a3 : ¬ c = 95 := fun e => by rw [e] at h; exact absurd h.2 (by decide)
  simp [sml, a3]; omega

theorem head_take {l : List UInt8} {n : Nat} (h : 1 ≤ n) : (l.take n).headD 0 = l.headD 0 := by
  cases l with
  | nil => simp
  | cons c t => rw [show n = (n - 1) + 1 by omega, List.take_succ_cons]; rfl

theorem scan_le : ∀ n (m : List UInt8), m.length ≤ n → (scan m).2.1 ≤ m.length + 4 := by
  intro n
  induction n with
  | zero =>
    intro m hm
    obtain rfl : m = [] := List.eq_nil_of_length_eq_zero (by omega)
    simp [scan, rb]
  | succ n ih =>
    intro m hm
    by_cases hq : m.head? = some 34
    · rw [scan_quote m hq]; simp
    · by_cases hb : (rb m).2.2 = true
      · have hz := rb_size m hb
        have hi := ih (m.drop (rb m).2.1) (by simp; omega)
        rw [scan_step m hq hb]
        simp only [List.length_drop] at hi
        show (rb m).2.1 + (scan (m.drop (rb m).2.1)).2.1 ≤ m.length + 4
        omega
      · rw [scan_bad m hq (by simpa using hb)]
        have := rb_le m
        show (rb m).2.1 ≤ m.length + 4
        omega

theorem rone_any (s : ByteArray) (w : World) (hs : s.size ≤ 100000) (i : Nat) (hi : i < s.size) : Calls Try.prog 13 #[.string s, .int .i64 (i : Nat)] w (RetN i (one (s.data.toList.drop i)) w) := by
  have hd := drop_cons s i hi
  have hhd : (s.data.toList.drop i).headD 0 = s[i] := by rw [hd]; rfl
  have hne : s.data.toList.drop i ≠ [] := by rw [hd]; simp
  obtain ⟨K, hK⟩ : ∃ K, i + runL nam (s.data.toList.drop i) = K := ⟨_, rfl⟩
  have hKs : K ≤ s.size := by
    have := runL_le nam (s.data.toList.drop i)
    rw [List.length_drop, size_list] at this; omega
  have HI := Lib.hid (fun w => inner_any s i (by omega) (by omega) K (Lib.hid hK) w)
  have hX : (s.extract i K).data.toList = (s.data.toList.drop i).take (runL nam (s.data.toList.drop i)) := by rw [ext_list]; congr 1; omega
  have hsz : runL nam (s.data.toList.drop i) = K - i := by omega
  unfold one
  rw [hhd]
  cases h1 : sml s[i] with
  | true =>
    have hk : kdN s[i] = 1 := by rw [kdN, h1]; rfl
    have hg : grt s[i] = false := by
      cases h : grt s[i] with
      | false => rfl
      | true => have := grt_not_sml h; rw [h1] at this; cases this
    rw [if_pos (by simp)]
    cases hw : isWord ((s.data.toList.drop i).take (runL nam (s.data.toList.drop i))) with
    | true =>
      refine rone_small_true s _ w hs i K hi (by omega) hKs rfl _ (Lib.hid (kind_at hk)) HI (Lib.hid fun w => rword_at _ true (by rw [hX]; exact hw) w) (Lib.hid ?_)
      rw [hX, namK, hw, hsz]; rfl
    | false =>
      refine rone_small_false s _ w hs i K hi (by omega) hKs rfl _ (Lib.hid (kind_at hk)) HI (Lib.hid fun w => rword_at _ false (by rw [hX]; exact hw) w) (Lib.hid ?_)
      rw [hX, namK, hw, hhd, hg, hsz]; rfl
  | false =>
    cases h2 : grt s[i] with
    | true =>
      have hk : kdN s[i] = 2 := by rw [kdN, h1, h2]; rfl
      have hw : isWord ((s.data.toList.drop i).take (runL nam (s.data.toList.drop i))) = false := by
        cases hw : isWord ((s.data.toList.drop i).take (runL nam (s.data.toList.drop i))) with
        | false => rfl
        | true =>
          have := word_small hw
          rw [head_take (runL_pos (by rw [hhd]; simp [nam, h2]) hne), hhd, h1] at this
          cases this
      rw [if_pos (by simp)]
      refine rone_great s _ w hs i K hi (by omega) hKs rfl _ (Lib.hid (kind_at hk)) HI (Lib.hid ?_)
      rw [hX, namK, hw, hhd, h2, hsz]; rfl
    | false =>
      rw [if_neg (by simp)]
      cases h3 : dgt s[i] with
      | true =>
        have hk : kdN s[i] = 3 := (kd3 _).2 h3
        rw [if_pos rfl]
        exact rone_number s w hs i hi _ (Lib.hid (kind_at hk)) (Lib.hid fun w => rnum_any s w hs i hi h3)
      | false =>
        have hk : kdN s[i] = 0 := by rw [kdN, h1, h2, h3]; rfl
        rw [if_neg (by simp)]
        by_cases h34 : s[i] = 34
        · rw [if_pos h34]
          have hxl : (s.extract i s.size).data.toList = s.data.toList.drop i := ext_end s i
          have hxs : (s.extract i s.size).size = s.size - i := by rw [← size_list, hxl, List.length_drop, size_list]
          have HR := fun w => rread_any (s.extract i s.size) w (by omega)
          rw [hxl] at HR
          unfold litOne
          cases hok : (readOf (s.data.toList.drop i)).2.2 with
          | true =>
            simp only [outR, hok, if_true] at HR
            obtain ⟨a1, a2, _⟩ := unq_read _ hok
            rw [List.length_drop, size_list] at a2
            rw [if_pos rfl]
            exact rone_lit_true s _ _ w hs i _ (i + (readOf (s.data.toList.drop i)).2.1) (by omega) hi rfl _ (by rw [h34]; rfl) (Lib.hid (kind_at hk)) (Lib.hid HR) (Lib.hid (by rw [bs_list])) (by omega)
          | false =>
            simp only [outR, hok] at HR
            rw [if_neg (by simp)]
            have hm : (readOf (s.data.toList.drop i)).2.1 ≤ 200000 := by
              rw [hd, h34, read_quote]
              have := scan_le _ (s.data.toList.drop (i + 1)) (Nat.le_refl _)
              rw [List.length_drop, size_list] at this
              show 1 + _ ≤ 200000
              omega
            exact rone_lit_false s _ _ w hs i _ 0 hm hi rfl _ (by rw [h34]; rfl) (Lib.hid (kind_at hk)) (Lib.hid HR) (Lib.hid rfl)
        · rw [if_neg h34]
          have e34 : ((s[i].toNat : Int) == 34) = false := byte_ne (n := 34) (by decide) h34
          unfold sgnOne
          by_cases h2 : i + 2 ≤ s.size
          · refine rone_sign_y s w hs i hi _ (s.extract i (i + 2)) h2 rfl (by rw [ext_list]; congr 1; omega) ?_ e34 (Lib.hid (kind_at hk)) ?_ ?_
            · intro hm
              rw [sgn_two hm]; rfl
            · intro hm ho
              rw [sgn_one hm (by rw [hhd]; exact ho), hd]; rfl
            · intro hm ho
              rw [sgn_no hm (by rw [hhd]; exact ho)]; rfl
          · have hm : ¬ (s.data.toList.drop i).take 2 ∈ twos := short_twos (by rw [List.length_drop, size_list]; omega)
            refine rone_sign_n s w hs i hi _ h2 e34 (Lib.hid (kind_at hk)) ?_ ?_
            · intro ho
              rw [sgn_one hm (by rw [hhd]; exact ho), hd]; rfl
            · intro ho
              rw [sgn_no hm (by rw [hhd]; exact ho)]; rfl

end Go.Proofs.Ytddeiidkmihkkaa
