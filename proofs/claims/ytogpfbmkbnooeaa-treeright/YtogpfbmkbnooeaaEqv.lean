/-
  What a node's children may be: the program's words and the document's come to the same. No function of the program is walked. Conditions: as said.
-/
import Derived.Test.YtogpfbmkbnooeaaFamA
import Derived.Test.YtogpfbmkbnooeaaMay
namespace Go.Proofs.Ytogpfbmkbnooeaa
set_option linter.unusedVariables false
set_option linter.unusedSimpArgs false

theorem srt_cases (c : Nat) : (c = 14 ∧ srt c = 48) ∨ (15 ≤ c ∧ c ≤ 20 ∧ srt c = 116) ∨ (21 ≤ c ∧ c ≤ 32 ∧ srt c = 101) ∨ (7 ≤ c ∧ c ≤ 13 ∧ srt c = 115) ∨ (c = 6 ∧ srt c = 98) ∨ (c = 5 ∧ srt c = 112) ∨ (c = 3 ∧ srt c = 102) ∨ ((c = 2 ∨ c = 4) ∧ srt c = 100) ∨ ((c < 2 ∨ 32 < c) ∧ srt c = 45) := by
  unfold srt
  repeat' split
  all_goals (first | (simp; done) | (simp; omega))
theorem s116 (c : Nat) : (srt c == 116) = isTyp c := by
  rw [Bool.eq_iff_iff, beq_iff_eq]; unfold isTyp; rw [decide_eq_true_eq]
  rcases srt_cases c with ⟨h, e⟩ | ⟨h, h', e⟩ | ⟨h, h', e⟩ | ⟨h, h', e⟩ | ⟨h, e⟩ | ⟨h, e⟩ | ⟨h, e⟩ | ⟨h, e⟩ | ⟨h, e⟩ <;> rw [e] <;> simp <;> omega
theorem s101 (c : Nat) : (srt c == 101) = isExp c := by
  rw [Bool.eq_iff_iff, beq_iff_eq]; unfold isExp; rw [decide_eq_true_eq]
  rcases srt_cases c with ⟨h, e⟩ | ⟨h, h', e⟩ | ⟨h, h', e⟩ | ⟨h, h', e⟩ | ⟨h, e⟩ | ⟨h, e⟩ | ⟨h, e⟩ | ⟨h, e⟩ | ⟨h, e⟩ <;> rw [e] <;> simp <;> omega
theorem s98 (c : Nat) : (srt c == 98) = [6].contains c := by
  rw [Bool.eq_iff_iff, beq_iff_eq, List.contains_iff_mem, List.mem_singleton]
  rcases srt_cases c with ⟨h, e⟩ | ⟨h, h', e⟩ | ⟨h, h', e⟩ | ⟨h, h', e⟩ | ⟨h, e⟩ | ⟨h, e⟩ | ⟨h, e⟩ | ⟨h, e⟩ | ⟨h, e⟩ <;> rw [e] <;> simp <;> omega
theorem sres (c : Nat) : (srt c == 116 || srt c == 48) = isRes c := by
  rw [Bool.eq_iff_iff, Bool.or_eq_true, beq_iff_eq, beq_iff_eq]; unfold isRes; rw [decide_eq_true_eq]
  rcases srt_cases c with ⟨h, e⟩ | ⟨h, h', e⟩ | ⟨h, h', e⟩ | ⟨h, h', e⟩ | ⟨h, e⟩ | ⟨h, e⟩ | ⟨h, e⟩ | ⟨h, e⟩ | ⟨h, e⟩ <;> rw [e] <;> simp <;> omega

theorem allS_map (z : Nat) (p : Nat → Bool) (hp : ∀ c, decide ((srt c).toNat = z) = p c) (ks : List Nat) : allS z (ks.map srt) = ks.all p := by
  unfold allS
  rw [List.all_map]
  congr 1
  funext c
  exact hp c
theorem a115 (c : Nat) : decide ((srt c).toNat = 115) = isStmt c := by
  unfold isStmt; rw [decide_eq_decide]
  rcases srt_cases c with ⟨h, e⟩ | ⟨h, h', e⟩ | ⟨h, h', e⟩ | ⟨h, h', e⟩ | ⟨h, e⟩ | ⟨h, e⟩ | ⟨h, e⟩ | ⟨h, e⟩ | ⟨h, e⟩ <;> rw [e] <;> simp <;> omega
theorem a101 (c : Nat) : decide ((srt c).toNat = 101) = isExp c := by
  unfold isExp; rw [decide_eq_decide]
  rcases srt_cases c with ⟨h, e⟩ | ⟨h, h', e⟩ | ⟨h, h', e⟩ | ⟨h, h', e⟩ | ⟨h, e⟩ | ⟨h, e⟩ | ⟨h, e⟩ | ⟨h, e⟩ | ⟨h, e⟩ <;> rw [e] <;> simp <;> omega
theorem a100 (c : Nat) : decide ((srt c).toNat = 100) = [2, 4].contains c := by
  rw [Bool.eq_iff_iff, decide_eq_true_eq, List.contains_iff_mem]
  simp only [List.mem_cons, List.not_mem_nil, or_false]
  rcases srt_cases c with ⟨h, e⟩ | ⟨h, h', e⟩ | ⟨h, h', e⟩ | ⟨h, h', e⟩ | ⟨h, e⟩ | ⟨h, e⟩ | ⟨h, e⟩ | ⟨h, e⟩ | ⟨h, e⟩ <;> rw [e] <;> simp <;> omega
theorem a102 (c : Nat) : decide ((srt c).toNat = 102) = [3].contains c := by
  rw [Bool.eq_iff_iff, decide_eq_true_eq, List.contains_iff_mem, List.mem_singleton]
  rcases srt_cases c with ⟨h, e⟩ | ⟨h, h', e⟩ | ⟨h, h', e⟩ | ⟨h, h', e⟩ | ⟨h, e⟩ | ⟨h, e⟩ | ⟨h, e⟩ | ⟨h, e⟩ | ⟨h, e⟩ <;> rw [e] <;> simp <;> omega
theorem a112 (c : Nat) : decide ((srt c).toNat = 112) = [5].contains c := by
  rw [Bool.eq_iff_iff, decide_eq_true_eq, List.contains_iff_mem, List.mem_singleton]
  rcases srt_cases c with ⟨h, e⟩ | ⟨h, h', e⟩ | ⟨h, h', e⟩ | ⟨h, h', e⟩ | ⟨h, e⟩ | ⟨h, e⟩ | ⟨h, e⟩ | ⟨h, e⟩ | ⟨h, e⟩ <;> rw [e] <;> simp <;> omega

theorem just0 (ks : List Nat) : justB [] ks = ks.isEmpty := by cases ks <;> simp [justB]
theorem just1 (p : Nat → Bool) (ks : List Nat) : justB [p] ks = match ks with | [a] => p a | _ => false := by
  match ks with
  | [] => simp [justB]
  | [a] => simp [justB, List.range_succ]
  | a :: b :: t => simp [justB]
theorem just2 (p p' : Nat → Bool) (ks : List Nat) : justB [p, p'] ks = match ks with | [a, b] => p a && p' b | _ => false := by
  match ks with
  | [] => simp [justB]
  | [a] => simp [justB]
  | [a, b] => simp [justB, List.range_succ]
  | a :: b :: c :: t => simp [justB]
theorem just3 (p p' p'' : Nat → Bool) (ks : List Nat) : justB [p, p', p''] ks = match ks with | [a, b, c] => p a && (p' b && p'' c) | _ => false := by
  match ks with
  | [] => simp [justB]
  | [a] => simp [justB]
  | [a, b] => simp [justB]
  | [a, b, c] => simp [justB, List.range_succ, Bool.and_assoc]
  | a :: b :: c :: d :: t => simp [justB]
theorem map1 (x : UInt8) (ks : List Nat) : (ks.map srt == [x]) = match ks with | [a] => srt a == x | _ => false := by
  match ks with
  | [] => rfl
  | [a] => simp
  | a :: b :: t => simp
theorem map2 (x y : UInt8) (ks : List Nat) : (ks.map srt == [x, y]) = match ks with | [a, b] => (srt a == x) && (srt b == y) | _ => false := by
  match ks with
  | [] => rfl
  | [a] => simp
  | [a, b] => simp
  | a :: b :: c :: t => simp
theorem map3 (x y z : UInt8) (ks : List Nat) : (ks.map srt == [x, y, z]) = match ks with | [a, b, c] => (srt a == x) && ((srt b == y) && (srt c == z)) | _ => false := by
  match ks with
  | [] => rfl
  | [a] => simp
  | [a, b] => simp
  | [a, b, c] => simp
  | a :: b :: c :: d :: t => simp
theorem map0 (ks : List Nat) : (ks.map srt == []) = ks.isEmpty := by cases ks <;> rfl

theorem fam4 (root : Bool) (num : Int) (ks : List Nat) : famB root 4 num ks = askB 4 num ks := by
  show (decide (2 ≤ ks.length) && (((ks.length : Int) - 2 == num) && (allS 112 ((ks.map srt).take (ks.length - 2)) && (((ks.map srt).getD (ks.length - 2) 0 == 116 || (ks.map srt).getD (ks.length - 2) 0 == 48) && (ks.map srt).getD (ks.length - 1) 0 == 98)))) = leadB num [5].contains (justB [isRes, [6].contains]) ks
  unfold leadB
  by_cases h2 : 2 ≤ ks.length
  · obtain ⟨m, hm⟩ : ∃ m, ks.length = m + 2 := ⟨ks.length - 2, by omega⟩
    have hd : ∃ a b, ks = ks.take m ++ [a, b] := by
      have hl : (ks.drop m).length = 2 := by rw [List.length_drop, hm]; omega
      match h : ks.drop m, hl with
      | [a, b], _ => exact ⟨a, b, by rw [← h, List.take_append_drop]⟩
    obtain ⟨a, b, hab⟩ := hd
    obtain ⟨pre, hpre⟩ : ∃ pre, ks.take m = pre := ⟨_, rfl⟩
    have hpl : pre.length = m := by rw [← hpre, List.length_take]; omega
    rw [hpre] at hab
    subst hab
    clear hpre
    have e1 : (pre ++ [a, b]).length = m + 2 := hm
    rw [e1, decide_eq_true (by omega : 2 ≤ m + 2), Bool.true_and, show m + 2 - 2 = m by omega, show m + 2 - 1 = m + 1 by omega]
    have g1 : ((pre ++ [a, b]).map srt).getD m 0 = srt a := by
      rw [List.map_append]; simp [List.getD, List.getElem?_append_right, hpl]
    have g2 : ((pre ++ [a, b]).map srt).getD (m + 1) 0 = srt b := by
      rw [List.map_append]; simp [List.getD, List.getElem?_append_right, hpl]
    have g3 : ((pre ++ [a, b]).map srt).take m = pre.map srt := by
      rw [List.map_append, List.take_append_of_le_length (by simp [hpl]), List.take_of_length_le (by simp [hpl])]
    rw [g1, g2, g3, sres, s98, allS_map 112 _ a112]
    by_cases hnum : num = m
    · subst hnum
      rw [show (((m + 2 : Nat) : Int) - 2 == (m : Int)) = true by rw [beq_iff_eq]; omega, Bool.true_and, show decide (0 ≤ (m : Int) ∧ (m : Int) ≤ ((m + 2 : Nat) : Int)) = true by simp; omega, Bool.true_and, Int.toNat_natCast]
      rw [List.take_append_of_le_length (by omega), List.take_of_length_le (by omega), List.drop_append_of_le_length (by omega), List.drop_of_length_le (by omega), List.nil_append, just2]
    · rw [show (((m + 2 : Nat) : Int) - 2 == num) = false by rw [beq_eq_false_iff_ne]; omega, Bool.false_and]
      by_cases hr : 0 ≤ num ∧ num ≤ ((m + 2 : Nat) : Int)
      · have : justB [isRes, [6].contains] ((pre ++ [a, b]).drop num.toNat) = false := by
          unfold justB
          rw [decide_eq_false, Bool.false_and]
          rw [List.length_drop, e1]
          show ¬ _ = 2
          omega
        rw [this]; simp
      · rw [decide_eq_false hr, Bool.false_and]
  · rw [decide_eq_false h2, Bool.false_and]
    have : justB [isRes, [6].contains] (ks.drop num.toNat) = false := by
      unfold justB
      rw [decide_eq_false, Bool.false_and]
      rw [List.length_drop]
      show ¬ _ = 2
      omega
    rw [this]; simp

theorem exp_of {p : Nat → Bool} (h : ∀ c, p c = true → isExp c = true) (ks : List Nat) : (isExp (hdK ks) && p (hdK ks)) = p (hdK ks) := by
  cases hp : p (hdK ks) with
  | true => rw [h _ hp]; rfl
  | false => simp

theorem fam_ask (root : Bool) (k : Nat) (num : Int) (ks : List Nat) (h1 : 1 ≤ k) (h2 : k ≤ 32) (hr : k = 1 → root = true) : famB root k num ks = askB k num ks := by
  have e : ∀ k, (14 ≤ k ∧ k ≤ 19) ∨ (21 ≤ k ∧ k ≤ 26) → famB root k num ks = (ks.map srt == [] && (decide (14 ≤ k) && decide (k ≤ 26))) := by
    intro k hk
    unfold famB
    split <;> first | rfl | omega
  have e' : ∀ k, (14 ≤ k ∧ k ≤ 19) ∨ (21 ≤ k ∧ k ≤ 26) → askB k num ks = justB [] ks := by
    intro k hk
    unfold askB
    split <;> first | rfl | omega
  by_cases hd : (14 ≤ k ∧ k ≤ 19) ∨ (21 ≤ k ∧ k ≤ 26)
  · rw [e k hd, e' k hd, map0, just0, show decide (14 ≤ k) = true by simp; omega, show decide (k ≤ 26) = true by simp; omega]
    simp
  · have hk : k = 1 ∨ k = 2 ∨ k = 3 ∨ k = 4 ∨ k = 5 ∨ k = 6 ∨ k = 7 ∨ k = 8 ∨ k = 9 ∨ k = 10 ∨ k = 11 ∨ k = 12 ∨ k = 13 ∨ k = 20 ∨ k = 27 ∨ k = 28 ∨ k = 29 ∨ k = 30 ∨ k = 31 ∨ k = 32 := by omega
    clear e e' hd h1 h2
    rcases hk with rfl | rfl | rfl | rfl | rfl | rfl | rfl | rfl | rfl | rfl | rfl | rfl | rfl | rfl | rfl | rfl | rfl | rfl | rfl | rfl
    · rw [hr rfl]; simp only [famB, askB, Bool.true_and]; exact allS_map 100 _ a100 ks
    · exact allS_map 102 _ a102 ks
    · simp only [famB, askB]; rw [map1, just1]; simp only [s116]
    · exact fam4 root num ks
    · simp only [famB, askB]; rw [map1, just1]; simp only [s116]
    · exact allS_map 115 _ a115 ks
    · simp only [famB, askB]; rw [map2, just2]; simp only [s116, s101]
    · simp only [famB, askB]; rw [map2, just2]
      match ks with
      | [] => rfl
      | [a] => rfl
      | [a, b] =>
        simp only [s101, hdK, List.headD_cons]
        rw [Bool.eq_iff_iff]
        simp [isExp]
        omega
      | a :: b :: c :: t => rfl
    · simp only [famB, askB]; rw [map2, just2, map3, just3]; simp only [s101, s98]
    · simp only [famB, askB]; rw [map2, just2]; simp only [s101, s98]
    · simp only [famB, askB]; rw [map0, just0, map1, just1]; simp only [s101]
    · simp only [famB, askB]; rw [map1, just1]; simp only [s101]
    · simp only [famB, askB]; rw [map1, just1]
      match ks with
      | [] => rfl
      | [a] =>
        simp only [s101, hdK, List.headD_cons]
        rw [Bool.eq_iff_iff]
        simp [isExp]
        omega
      | a :: b :: t => rfl
    · simp only [famB, askB]; rw [map1, just1]; simp only [s116]
    · exact allS_map 101 _ a101 ks
    · simp only [famB, askB]; rw [map2, just2]; simp only [s101]
    · simp only [famB, askB]; rw [map1, just1]; simp only [s101]
    · simp only [famB, askB]; rw [map1, just1]; simp only [s101]
    · simp only [famB, askB]; rw [map2, just2]; simp only [s101]
    · simp only [famB, askB]; rw [map1, just1, map2, just2]
      match ks with
      | [] => rfl
      | [a] =>
        simp only [s116, hdK, List.headD_cons]
        rw [Bool.eq_iff_iff]
        simp [isTyp]
        omega
      | [a, b] =>
        simp only [s116, s101, hdK, List.headD_cons]
        rw [Bool.eq_iff_iff]
        simp [isTyp, isExp]
        omega
      | a :: b :: c :: t => rfl

theorem fam_no (root : Bool) (k : Nat) (num : Int) (ks : List Nat) (h : k = 0 ∨ 33 ≤ k) : famB root k num ks = false := by
  have e : famB root k num ks = (ks.map srt == [] && (decide (14 ≤ k) && decide (k ≤ 26))) := by
    unfold famB
    split <;> first | rfl | omega
  rw [e, show (decide (14 ≤ k) && decide (k ≤ 26)) = false by simp; omega, Bool.and_false]

/-- Whatever may be a child has a kind of the table, and is no program. -/
theorem ask_kind {k : Nat} {num : Int} {ks : List Nat} (h : askB k num ks = true) : ∀ c, c ∈ ks → 2 ≤ c ∧ c ≤ 32 := by
  intro c hc
  have hall : ∀ (p : Nat → Bool) (ks : List Nat), ks.all p = true → (∀ c, p c = true → 2 ≤ c ∧ c ≤ 32) → ∀ c, c ∈ ks → 2 ≤ c ∧ c ≤ 32 := fun p ks h hp c hc => hp c (List.all_eq_true.1 h c hc)
  have hj : ∀ (ps : List (Nat → Bool)) (ks : List Nat), justB ps ks = true → (∀ i, i < ps.length → ∀ c, (ps.getD i fun _ => false) c = true → 2 ≤ c ∧ c ≤ 32) → ∀ c, c ∈ ks → 2 ≤ c ∧ c ≤ 32 := by
    intro ps ks h hp c hc
    unfold justB at h
    rw [Bool.and_eq_true, decide_eq_true_eq, List.all_eq_true] at h
    obtain ⟨i, hi, rfl⟩ := List.getElem_of_mem hc
    have := h.2 i (List.mem_range.2 (by omega))
    refine hp i (by omega) _ ?_
    simpa [List.getD, hi] using this
  have pT : ∀ c, isTyp c = true → 2 ≤ c ∧ c ≤ 32 := fun c h => by unfold isTyp at h; rw [decide_eq_true_eq] at h; omega
  have pE : ∀ c, isExp c = true → 2 ≤ c ∧ c ≤ 32 := fun c h => by unfold isExp at h; rw [decide_eq_true_eq] at h; omega
  have pS : ∀ c, isStmt c = true → 2 ≤ c ∧ c ≤ 32 := fun c h => by unfold isStmt at h; rw [decide_eq_true_eq] at h; omega
  have pR : ∀ c, isRes c = true → 2 ≤ c ∧ c ≤ 32 := fun c h => by unfold isRes at h; rw [decide_eq_true_eq] at h; omega
  have pI : ∀ l : List Nat, (∀ x, x ∈ l → 2 ≤ x ∧ x ≤ 32) → ∀ c, l.contains c = true → 2 ≤ c ∧ c ≤ 32 := fun l hl c h => hl c (List.contains_iff_mem.1 h)
  have q1 : ∀ p : Nat → Bool, (∀ c, p c = true → 2 ≤ c ∧ c ≤ 32) → ∀ i, i < [p].length → ∀ c, ([p].getD i fun _ => false) c = true → 2 ≤ c ∧ c ≤ 32 := fun p hp i hi c h => by
    match i, hi with
    | 0, _ => exact hp c h
  have q2 : ∀ p p' : Nat → Bool, (∀ c, p c = true → 2 ≤ c ∧ c ≤ 32) → (∀ c, p' c = true → 2 ≤ c ∧ c ≤ 32) → ∀ i, i < [p, p'].length → ∀ c, ([p, p'].getD i fun _ => false) c = true → 2 ≤ c ∧ c ≤ 32 := fun p p' hp hp' i hi c h => by
    match i, hi with
    | 0, _ => exact hp c h
    | 1, _ => exact hp' c h
  have q3 : ∀ p p' p'' : Nat → Bool, (∀ c, p c = true → 2 ≤ c ∧ c ≤ 32) → (∀ c, p' c = true → 2 ≤ c ∧ c ≤ 32) → (∀ c, p'' c = true → 2 ≤ c ∧ c ≤ 32) → ∀ i, i < [p, p', p''].length → ∀ c, ([p, p', p''].getD i fun _ => false) c = true → 2 ≤ c ∧ c ≤ 32 := fun p p' p'' hp hp' hp'' i hi c h => by
    match i, hi with
    | 0, _ => exact hp c h
    | 1, _ => exact hp' c h
    | 2, _ => exact hp'' c h
  have p6 := pI [6] (by decide)
  unfold askB at h
  split at h
  · exact hall _ _ h (pI _ (by decide)) c hc
  · exact hall _ _ h (pI _ (by decide)) c hc
  · exact hj _ _ h (q1 _ pT) c hc
  · exact hj _ _ h (q1 _ pT) c hc
  · exact hj _ _ h (q1 _ pT) c hc
  · unfold leadB at h
    rw [Bool.and_eq_true, Bool.and_eq_true] at h
    rw [← List.take_append_drop num.toNat ks, List.mem_append] at hc
    rcases hc with hc | hc
    · exact hall _ _ h.2.1 (pI _ (by decide)) c hc
    · exact hj _ _ h.2.2 (q2 _ _ pR p6) c hc
  · exact hall _ _ h pS c hc
  · exact hj _ _ h (q2 _ _ pT pE) c hc
  · exact hj _ _ h (q2 _ _ (pI _ (by decide)) pE) c hc
  · simp only [Bool.or_eq_true] at h
    rcases h with h | h
    · exact hj _ _ h (q2 _ _ pE p6) c hc
    · exact hj _ _ h (q3 _ _ _ pE p6 p6) c hc
  · exact hj _ _ h (q2 _ _ pE p6) c hc
  · simp only [Bool.or_eq_true] at h
    rcases h with h | h
    · exact hj _ _ h (fun i hi => absurd hi (by simp)) c hc
    · exact hj _ _ h (q1 _ pE) c hc
  · exact hj _ _ h (q1 _ (pI _ (by decide))) c hc
  · exact hall _ _ h pE c hc
  · exact hj _ _ h (q1 _ pE) c hc
  · exact hj _ _ h (q1 _ pE) c hc
  · exact hj _ _ h (q1 _ pE) c hc
  · exact hj _ _ h (q2 _ _ pE pE) c hc
  · exact hj _ _ h (q2 _ _ pE pE) c hc
  · simp only [Bool.or_eq_true] at h
    rcases h with h | h
    · exact hj _ _ h (q1 _ (pI _ (by decide))) c hc
    · exact hj _ _ h (q2 _ _ (pI _ (by decide)) pE) c hc
  · exact hj _ _ h (fun i hi => absurd hi (by simp)) c hc

def famOk (l : List Nd) (j : Nat) : Bool := famB (decide (j = 0)) (kindAt l j) (nd l j).num ((kidsOf (sz l) j).map (kindAt l))

theorem may_same (l : List Nd) (hR : Right (sz l) l.length) (h1 : kindAt l 0 = 1) : ((List.range l.length).all fun j => fieldOk l j && famOk l j) = ((List.range l.length).all fun j => fieldOk l j && kidsOk l j) := by
  rw [Bool.eq_iff_iff, List.all_eq_true, List.all_eq_true]
  constructor
  · intro h j hj
    have := h j hj
    rw [Bool.and_eq_true] at this ⊢
    refine ⟨this.1, ?_⟩
    have hf := this.2
    unfold famOk at hf
    by_cases hk : kindAt l j = 0 ∨ 33 ≤ kindAt l j
    · rw [fam_no _ _ _ _ hk] at hf; cases hf
    · by_cases hr : kindAt l j = 1 → decide (j = 0) = true
      · rw [fam_ask _ _ _ _ (by omega) (by omega) hr] at hf; exact hf
      · have hk1 : kindAt l j = 1 := Classical.byContradiction fun h => hr fun h' => absurd h' h
        have hj0 : decide (j = 0) = false := by cases h : decide (j = 0) with
          | false => rfl
          | true => exact absurd (fun _ => h) hr
        rw [hk1, hj0] at hf
        cases hf
  · intro h j hj
    have := h j hj
    rw [Bool.and_eq_true] at this ⊢
    refine ⟨this.1, ?_⟩
    have hf := this.2
    have hjn := List.mem_range.1 hj
    unfold famOk
    by_cases hj0 : j = 0
    · subst hj0
      rw [fam_ask (decide (0 = 0)) (kindAt l 0) (nd l 0).num _ (by omega) (by omega) (fun _ => by simp)]; exact hf
    · obtain ⟨i, hi, hij⟩ := hR.up_some (y := j) (by omega) hjn
      have hm := (hR.kid_iff (i := i) (y := j) (by omega) hjn).2 hi
      have hp := h i (List.mem_range.2 (by omega))
      rw [Bool.and_eq_true] at hp
      have hk := ask_kind hp.2 (kindAt l j) (List.mem_map.2 ⟨j, hm, rfl⟩)
      rw [fam_ask _ _ _ _ (by omega) (by omega) (fun e => by omega)]; exact hf

end Go.Proofs.Ytogpfbmkbnooeaa
