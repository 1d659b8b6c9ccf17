/-
  Contracts of lex.readNumber and lex.readLiteral, for every text. Conditions: texts of at most 100000 bytes; a digit, or a quote, at their front.
-/
import Derived.Test.YtbknflaooemigaaNum
import Derived.Test.YtbknflaooemigaaUnq
namespace Go.Proofs.Ytbknflaooemigaa
open Go.RowKit
set_option linter.unusedVariables false

theorem ext_take (s : ByteArray) (k : Nat) : (s.extract 0 k).data.toList = s.data.toList.take k := by rw [ext_list]; simp
theorem ext_take_size (s : ByteArray) (k : Nat) (h : k ≤ s.size) : (s.extract 0 k).size = k := by rw [← size_list, ext_take, List.length_take, size_list]; omega

theorem number_lex (s : ByteArray) (w : World) (hs : s.size ≤ 100000) (h0 : 0 < s.size) (hd : dgt s[0] = true) :
    Calls Try.prog 36 #[.string s] w fun x w' => x = .returned (oneV (numOne s.data.toList)) ∧ Below w.heap.size w w' := by
  have hl : s.data.toList ≠ [] := fun e => by have := size_list s; rw [e] at this; simp at this; omega
  obtain ⟨k, hk⟩ : ∃ k, runL dgt s.data.toList = k := ⟨_, rfl⟩
  have hk1 : 1 ≤ k := by rw [← hk]; exact runL_pos (by rw [head_list s h0]; exact hd) hl
  have hks : k ≤ s.size := by rw [← hk, ← size_list]; exact runL_le _ _
  obtain ⟨X, hX⟩ : ∃ X, s.extract 0 k = X := ⟨_, rfl⟩
  have hXl : X.data.toList = s.data.toList.take k := by rw [← hX, ext_take]
  have hXs : X.size = k := by rw [← hX, ext_take_size s k hks]
  have hND : numD s.data.toList = trim X.data.toList := by rw [numD, hk, hXl]
  obtain ⟨D, hD⟩ : ∃ D, bs (trim X.data.toList) = D := ⟨_, rfl⟩
  have hDl : D.data.toList = numD s.data.toList := by rw [← hD, bs_list, hND]
  have hDs : D.size ≤ 100000 := by
    rw [← size_list, hDl, hND, trim, List.length_drop, size_list]; omega
  have H16a := Lib.hid (fun w => run_dgt_at s (by omega) k hk w)
  have H37 := Lib.hid (fun w => trim_any X w (by omega) (by omega) D (Lib.hid hD))
  have H38 := Lib.hid (fun w => Nm.parse_any D w hDs)
  rw [hDl] at H38
  obtain ⟨k2, hk2⟩ : ∃ k2, numK s.data.toList = k2 := ⟨_, rfl⟩
  obtain ⟨Y, hY⟩ : ∃ Y, s.extract k2 s.size = Y := ⟨_, rfl⟩
  have hYl : Y.data.toList = s.data.toList.drop k2 := by rw [← hY, ext_end]
  obtain ⟨r, hr⟩ : ∃ r, runL nam (s.data.toList.drop k2) = r := ⟨_, rfl⟩
  have hYs : Y.size ≤ 1000000 := by rw [← size_list, hYl, List.length_drop, size_list]; omega
  have H16b := Lib.hid (fun w => run_nam_at Y hYs r (by rw [hYl]; exact hr) w)
  obtain ⟨e, he⟩ : ∃ e, Nm.parseE (numD s.data.toList) = e := ⟨_, rfl⟩
  obtain ⟨n, hn⟩ : ∃ n, Nm.parseN (numD s.data.toList) = n := ⟨_, rfl⟩
  rw [he, hn] at H38
  unfold numOne
  rw [hk2, hr, he, hn]
  have b1 : ¬ e = 0 → (e != 0) = true := fun h => by simpa using h
  have b2 : e = 0 → (e != 0) = false := fun h => by simpa using h
  cases hc : isC s.data.toList with
  | true =>
    have hkk : k2 = k + 1 := by rw [← hk2, numK, if_pos hc, hk]
    have hk3 : k < s.size ∧ (s.data.toList.drop k).head? = some 105 := by
      unfold isC at hc
      rw [decide_eq_true_eq, hk] at hc
      refine ⟨?_, hc⟩
      by_cases hlt : k < s.size
      · exact hlt
      · rw [drop_end s k (by omega)] at hc; simp at hc
    have hb : s[k]'hk3.1 = 105 := by have := hk3.2; rw [head_drop s k hk3.1] at this; simpa using this
    have e105 : (((s[k]'hk3.1).toNat : Int) == 105) = true := by rw [hb]; rfl
    have hM : numM s.data.toList = 8388607 := by rw [numM, if_pos hc]
    rw [hM, if_pos rfl]
    by_cases hr0 : 0 < r
    · rw [if_pos hr0]
      exact num_cl s X D Y w k k2 r n e hs hks (by omega) (by omega) hk3.1 e105 hr0 hX hY H16a H37 H16b H38
    · rw [if_neg hr0]
      by_cases he0 : e = 0
      · by_cases hno : 8388607 < n
        · rw [if_pos (.inr hno)]
          exact num_co s X D Y w k k2 r n e hs hks (by omega) (by omega) hk3.1 e105 (by omega) (b2 he0) hno hX hY H16a H37 H16b H38
        · rw [if_neg (fun h => h.elim (fun h => h he0) hno)]
          exact num_cy s X D Y w k k2 r n e hs hks (by omega) (by omega) hk3.1 e105 (by omega) (b2 he0) hno hX hY H16a H37 H16b H38
      · rw [if_pos (.inl he0)]
        exact num_cx s X D Y w k k2 r n e hs hks (by omega) (by omega) hk3.1 e105 (by omega) (b1 he0) hX hY H16a H37 H16b H38
  | false =>
    have hkk : k2 = k := by rw [← hk2, numK, hc, hk]; rfl
    subst hkk
    have hM : numM s.data.toList = 9223372036854775807 := by rw [numM, hc]; rfl
    rw [hM, if_neg (show ¬ (false = true) by simp)]
    unfold isC at hc
    rw [decide_eq_false_iff_not, hk] at hc
    by_cases hlt : k2 < s.size
    · have hb : s[k2] ≠ 105 := fun h => hc (by rw [head_drop s k2 hlt, h])
      have e105 : ((s[k2].toNat : Int) == 105) = false := byte_ne (n := 105) (by decide) hb
      by_cases hr0 : 0 < r
      · rw [if_pos hr0]
        exact num_ml s X D Y w k2 r n e hs hks hlt e105 hr0 hX hY H16a H37 H16b H38
      · rw [if_neg hr0]
        by_cases he0 : e = 0
        · by_cases hno : 9223372036854775807 < n
          · rw [if_pos (.inr hno)]
            exact num_mo s X D Y w k2 r n e hs hks hlt e105 (by omega) (b2 he0) hno hX hY H16a H37 H16b H38
          · rw [if_neg (fun h => h.elim (fun h => h he0) hno)]
            exact num_my s X D Y w k2 r n e hs hks hlt e105 (by omega) (b2 he0) hno hX hY H16a H37 H16b H38
        · rw [if_pos (.inl he0)]
          exact num_mx s X D Y w k2 r n e hs hks hlt e105 (by omega) (b1 he0) hX hY H16a H37 H16b H38
    · by_cases hr0 : 0 < r
      · rw [if_pos hr0]
        exact num_el s X D Y w k2 r n e hs hks (by omega) hr0 hX hY H16a H37 H16b H38
      · rw [if_neg hr0]
        by_cases he0 : e = 0
        · by_cases hno : 9223372036854775807 < n
          · rw [if_pos (.inr hno)]
            exact num_eo s X D Y w k2 r n e hs hks (by omega) (by omega) (b2 he0) hno hX hY H16a H37 H16b H38
          · rw [if_neg (fun h => h.elim (fun h => h he0) hno)]
            exact num_ey s X D Y w k2 r n e hs hks (by omega) (by omega) (b2 he0) hno hX hY H16a H37 H16b H38
        · rw [if_pos (.inl he0)]
          exact num_ex s X D Y w k2 r n e hs hks (by omega) (by omega) (b1 he0) hX hY H16a H37 H16b H38

set_option maxHeartbeats 400000 in
theorem lit_no (s : ByteArray) (w : World) (N : Nat) (HE : Hid (∀ w, Calls Try.prog 56 #[.string s] w fun e w' => e = .returned (.tuple #[.int .i64 (N : Nat), .bool false]) ∧ w = w')) :
    Calls Try.prog 37 #[.string s] w fun e w' => e = .returned (badV 4) ∧ Below w.heap.size w w' := by
  go_enter Try.func37, Try.ntmps37
  go_wp2_with fail
  refine (HE.out _).mono ?_
  rintro _ w' ⟨rfl, rfl⟩
  go_wp2
  refine bodyPost_ret (v := badV 4) (by simp [results, Try.results37, go_sem]) rfl ⟨rfl, ?_⟩
  go_grown

set_option maxHeartbeats 1000000 in
theorem lit_yes (s X T : ByteArray) (w : World) (N : Nat) (hN : N ≤ s.size) (hX : s.extract 0 N = X) (HE : Hid (∀ w, Calls Try.prog 56 #[.string s] w fun e w' => e = .returned (.tuple #[.int .i64 (N : Nat), .bool true]) ∧ w = w'))
    (HU : Hid (∀ w, Calls Try.prog 57 #[.string X] w fun e w' => e = .returned (.tuple #[.string T, .int .i64 0]) ∧ Below w.heap.size w w')) :
    Calls Try.prog 37 #[.string s] w fun e w' => e = .returned (.tuple #[tokV 5 0 0 0 T, .int .i64 (N : Nat), .int .i64 0]) ∧ Below w.heap.size w w' := by
  go_enter Try.func37, Try.ntmps37
  go_wp2_with fail
  refine (HE.out _).mono ?_
  rintro _ w' ⟨rfl, rfl⟩
  go_wp2_with fail
  refine (HU.out _).mono ?_
  rintro _ w1 ⟨rfl, hb⟩
  obtain ⟨hc, hf⟩ := bcell hb
  have hz := hb.size
  simp only [World.size_alloc] at hc hf hz
  go_wp2
  refine bodyPost_ret (v := .tuple #[tokV 5 0 0 0 T, .int .i64 (N : Nat), .int .i64 0]) (by simp [results, Try.results37, go_sem, hc]) rfl ⟨rfl, ?_⟩
  have hb' := (by go_grown : Below w.heap.size w _).trans (hb.mono (by simp))
  go_grown

theorem read_quote (t : List UInt8) : readOf (34 :: t) = ((scan t).1, 1 + (scan t).2.1, (scan t).2.2) := by rw [readOf]; exact if_pos rfl

theorem read_head (l : List UInt8) (h : (readOf l).2.2 = true) : ∃ t, l = 34 :: t := by
  unfold readOf at h
  split at h
  · rename_i hq
    cases l with
    | nil => simp at hq
    | cons c t => simp at hq; exact ⟨t, by rw [hq]⟩
  · simp at h

theorem scan_take : ∀ n (m : List UInt8), m.length ≤ n → (scan m).2.2 = true → ∀ x, scan (m.take (scan m).2.1 ++ x) = scan m := by
  intro n
  induction n with
  | zero =>
    intro m hm h
    obtain rfl : m = [] := List.eq_nil_of_length_eq_zero (by omega)
    simp [scan, rb] at h
  | succ n ih =>
    intro m hm h x
    by_cases hq : m.head? = some 34
    · rw [scan_quote m hq]
      cases m with
      | nil => simp at hq
      | cons c t => exact scan_quote _ (by simpa using hq)
    · by_cases hb : (rb m).2.2 = true
      · have hs := scan_step m hq hb
        have hz := rb_size m hb
        rw [hs] at h
        have hi := ih (m.drop (rb m).2.1) (by simp; omega) h x
        have hg0 : rb (m.take (scan m).2.1) = rb m := rb_takeN m hb _ (by rw [hs]; simp)
        have hg : rb (m.take (scan m).2.1 ++ x) = rb m := by rw [rb_app _ _ (by rw [hg0]; exact hb), hg0]
        have hle : (rb m).2.1 ≤ (m.take (scan m).2.1).length := by rw [List.length_take, hs]; simp; omega
        have hq2 : ¬ (m.take (scan m).2.1 ++ x).head? = some 34 := by
          cases m with
          | nil => simp at hz; omega
          | cons c t =>
            have h1 : (scan (c :: t)).2.1 = ((scan (c :: t)).2.1 - 1) + 1 := by rw [hs]; simp; omega
            rw [h1, List.take_succ_cons]
            simpa using hq
        rw [scan_step _ hq2 (by rw [hg]; exact hb), hg]
        have hd : (m.take (scan m).2.1 ++ x).drop (rb m).2.1 = (m.drop (rb m).2.1).take (scan (m.drop (rb m).2.1)).2.1 ++ x := by
          rw [List.drop_append_of_le_length hle, List.drop_take]; congr 2; rw [hs]; simp
        rw [hd, hi, ← hs]
      · rw [scan_bad m hq (by simpa using hb)] at h
        simp at h

/-- What follows behind a literal plays no part. -/
theorem read_take_app (l : List UInt8) (h : (readOf l).2.2 = true) (x : List UInt8) : readOf (l.take (readOf l).2.1 ++ x) = readOf l := by
  obtain ⟨t, rfl⟩ := read_head l h
  rw [read_quote] at h ⊢
  have := scan_take _ t (Nat.le_refl _) h x
  show readOf ((34 :: t).take (1 + (scan t).2.1) ++ x) = _
  rw [show 1 + (scan t).2.1 = (scan t).2.1 + 1 by omega, List.take_succ_cons, List.cons_append, read_quote, this]
  simp; omega

theorem read_take (l : List UInt8) (h : (readOf l).2.2 = true) : readOf (l.take (readOf l).2.1) = readOf l := by
  have := read_take_app l h []
  rwa [List.append_nil] at this

theorem literal_lex (s : ByteArray) (w : World) (hs : s.size ≤ 100000) :
    Calls Try.prog 37 #[.string s] w fun x w' => x = .returned (oneV (litOne s.data.toList)) ∧ Below w.heap.size w w' := by
  have HE := fun w => end_any s w (by omega) _ rfl
  unfold litOne
  cases hok : (readOf s.data.toList).2.2 with
  | false =>
    rw [hok] at HE
    rw [if_neg (by simp)]
    exact lit_no s w _ (Lib.hid HE)
  | true =>
    rw [hok] at HE
    rw [if_pos rfl]
    obtain ⟨h1, h2, h3⟩ := unq_read s.data.toList hok
    rw [size_list] at h2
    have ht := read_take s.data.toList hok
    have HU := fun w => unquote_any (s.extract 0 (readOf s.data.toList).2.1) w (by rw [ext_take_size s _ h2]; omega)
    have hu : unqOf (s.extract 0 (readOf s.data.toList).2.1).data.toList = ((readOf s.data.toList).1, 0) := by
      rw [ext_take, unqOf, ht]
      exact if_pos ⟨hok, by rw [List.length_take, size_list]; omega⟩
    rw [hu] at HU
    exact lit_yes s _ _ w _ h2 rfl (Lib.hid HE) (Lib.hid HU)

end Go.Proofs.Ytbknflaooemigaa
