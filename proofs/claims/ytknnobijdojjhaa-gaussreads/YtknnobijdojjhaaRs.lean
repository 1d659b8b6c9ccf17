/-
  What the document's Parse (layer 2) answers, for every text of at most 100 bytes. Conditions: that bound.
-/
import Derived.Test.YtknnobijdojjhaaGs
import Derived.Test.YtknnobijdojjhaaRpA
import Derived.Test.YtknnobijdojjhaaRp0p
import Derived.Test.YtknnobijdojjhaaRp0m
import Derived.Test.YtknnobijdojjhaaRp1p
import Derived.Test.YtknnobijdojjhaaRp1m
import Derived.Test.YtknnobijdojjhaaParseE
namespace Go.Proofs.Ytknnobijdojjhaa
open Go.RowKit

theorem split_b {l a b b' : List UInt8} (h : Split l a b) (h' : Split l a b') : b = b' := by
  rcases h with ⟨w, rfl, h⟩ | ⟨_, h⟩ <;> rcases h' with ⟨w', rfl, h'⟩ | ⟨_, h'⟩ <;> rw [h, List.append_assoc, List.append_assoc, List.append_cancel_left_eq] at h'
  · simpa using h'
  · simp at h'
  · simp at h'
  · simpa using h'

theorem ref_facts (s : ByteArray) (m i : Nat) (hm : m + 1 = s.size) (h0 : 0 < s.size) (hi : i = if s[0] = 45 then 1 else 0) (a b : List UInt8) (hsp : Split s.data.toList a b) (ha : good a = true) (hb : good b = true) :
    dEnd s i = a.length ∧ a.length < m ∧ dEnd s (a.length + 1) = m ∧ (∀ h : m < s.size, s[m] = 105) ∧ (∀ h : a.length < s.size, s[a.length] = 43 ∨ s[a.length] = 45) := by
  obtain ⟨r, hr⟩ := split_at hsp
  have hl := split_len hsp
  rw [size_list] at hl
  have hla := good_len ha
  have hneg : (if negB a = true then 1 else 0) = i := by
    have hg := get_app s a r hr 0 (by omega) h0
    have e : a.headD 0 = s[0] := by
      cases a with
      | nil => simp at hg
      | cons c x => simpa using hg
    unfold negB
    rw [e, hi]
    by_cases h : s[0] = 45
    · rw [h]; rfl
    · rw [if_neg h, if_neg (by simpa using h)]
  obtain ⟨h1, h2⟩ := ref_good_split s m hm a b hsp ha hb
  rw [hneg] at h1
  refine ⟨h1, by omega, h2, fun h => ?_, fun h => ?_⟩
  · by_cases e : s[m] = 105
    · exact e
    · exact (last_no s m hm h e a b hsp).elim
  · have hg := get_list s a.length h
    rcases hsp with ⟨w, _, hw⟩ | ⟨_, hw⟩
    · rw [hw, List.append_assoc, List.getElem?_append_right (Nat.le_refl _), Nat.sub_self] at hg
      right; simpa using hg.symm
    · rw [hw, List.append_assoc, List.getElem?_append_right (Nat.le_refl _), Nat.sub_self] at hg
      left; simpa using hg.symm

theorem part_same (n : Int) (h : n = r24 n) (w : World) : Calls Try.prog 11 #[.int .i64 n] w fun e w' => e = .returned (.int .i64 n) ∧ w = w' := by
  have := rpart_any n w
  rwa [← h] at this
theorem bne_of {a b : Int} (h : ¬ a = b) : (a != b) = true := by rw [bne_iff_ne]; exact h
theorem b_ne {c : UInt8} {n : Nat} (hn : n < 256) (h : c ≠ UInt8.ofNat n) : ((c.toNat : Int) != n) = true := by
  rw [bne, byte_ne hn h]; rfl

theorem gref_0 (s : ByteArray) (hs : s.size ≤ 100) (h0 : 0 < s.size) (hz : s[0] ≠ 45) : ∃ v, GAns 28 s v ∧ Spec s.data.toList v := by
  obtain ⟨m, hm⟩ : ∃ m, m + 1 = s.size := ⟨s.size - 1, by omega⟩
  have hms : m < s.size := by omega
  have hm2 : (s.size : Int) - 1 = m := by omega
  have hmb : ((s[0].toNat : Int) == 45) = false := byte_ne (n := 45) (by omega) hz
  have hic : 0 = if s[0] = 45 then 1 else 0 := by rw [if_neg hz]
  have FACT := fun a b h1 h2 h3 => ref_facts s m 0 hm h0 hic a b h1 h2 h3
  obtain ⟨k, hk0⟩ : ∃ k, dEnd s 0 = k := ⟨_, rfl⟩
  have HK := Lib.hid (fun w => digits_any s 0 k w hs (by omega) (Lib.hid hk0))
  by_cases hk : k < s.size
  · by_cases hc : s[k] = 43 ∨ s[k] = 45
    · obtain ⟨e, he⟩ : ∃ e, dEnd s (k + 1) = e := ⟨_, rfl⟩
      have HE := fun w => digits_any s (k + 1) e w hs (by omega) (Lib.hid he)
      have hej := (dEnd_all s _ (k + 1) rfl (by omega)).1
      by_cases hem : e = m
      · subst hem
        have hke : k < e := by omega
        by_cases hi : s[e] = 105
        · have hi' : ((s[e].toNat : Int) != 105) = false := by rw [hi]; rfl
          have hsp := ref_split s k e hm hk hms hke hi he
          have hla : (s.extract 0 k).size ≤ 100 := by
            have h1 := congrArg List.length (ext_list s 0 k); rw [size_list, List.length_take, List.length_drop, size_list] at h1; omega
          have HA := fun w => rparse_any (s.extract 0 k) w hla
          have alen : ∀ a b, Split s.data.toList a b → good a = true → good b = true → a = (s.extract 0 k).data.toList := fun a b h1 h2 h3 => by
            have h4 := (FACT a b h1 h2 h3).1
            obtain ⟨r, hr⟩ := split_at h1
            rw [ext_list, List.drop_zero, Nat.sub_zero, ← hk0, h4, hr, List.take_left]
          rcases hc with hc | hc
          · have c1 : ((s[k].toNat : Int) != 43) = false := by rw [hc]; rfl
            have c3 : ((s[k].toNat : Int) == 43) = true := by rw [hc]; rfl
            have hS := hsp.1 hc
            have hlb : (s.extract (k + 1) e).size ≤ 100 := by
              have h1 := congrArg List.length (ext_list s (k + 1) e); rw [size_list, List.length_take, List.length_drop, size_list] at h1; omega
            have HB := fun w => rparse_any (s.extract (k + 1) e) w hlb
            have hA0 : ∃ A, s.extract 0 k = A := ⟨_, rfl⟩
            have hB0 : ∃ B, s.extract (k + 1) e = B := ⟨_, rfl⟩
            obtain ⟨A, hA⟩ := hA0
            obtain ⟨B, hB⟩ := hB0
            rw [hA] at HA hS alen
            rw [hB] at HB hS
            have no1 : parseE A.data.toList = 2 → ∀ a b, Split s.data.toList a b → good a = true → good b = true → False := fun h a b k1 k2 k3 => by
              rw [alen a b k1 k2 k3, parseE_bad h] at k2; cases k2
            have no2 : parseE B.data.toList = 2 → ∀ a b, Split s.data.toList a b → good a = true → good b = true → False := fun h a b k1 k2 k3 => by
              have e1 := alen a b k1 k2 k3
              subst e1
              rw [split_b k1 hS, parseE_bad h] at k3; cases k3
            by_cases h1 : parseE A.data.toList = 2
            · rw [h1] at HA
              exact ⟨(0, 0, 2), fun w => rp0p_o5 s A B k (k + 1) e 0 0 _ _ _ 0 0 w hs h0 hmb HK hk c1 c3 (by omega) hm2 (Lib.hid HE) hms hi' (by omega) hke hA hB  (Lib.hid HA) (Lib.hid HB) , .inr ⟨no1 h1, rfl⟩⟩
            · by_cases h2 : parseE B.data.toList = 2
              · rw [h2] at HB
                exact ⟨(0, 0, 2), fun w => rp0p_o6 s A B k (k + 1) e 0 _ 0 _ _ 0 0 w hs h0 hmb HK hk c1 c3 (by omega) hm2 (Lib.hid HE) hms hi' (by omega) hke hA hB (by simpa using h1) (Lib.hid HA) (Lib.hid HB) , .inr ⟨no2 h2, rfl⟩⟩
              · refine ⟨comb A.data.toList B.data.toList, ?_, .inl ⟨_, _, hS, parseE_good h1, parseE_good h2, rfl⟩⟩
                unfold comb
                rw [if_neg (by rintro (h | h); exact h1 h; exact h2 h)]
                rcases parseE_three A.data.toList with e1 | e1 | e1
                · exact (h1 e1).elim
                · rw [if_pos (by left; rw [e1]; decide)]
                  rw [e1] at HA
                  exact fun w => rp0p_o7 s A B k (k + 1) e 0 0 _ _ _ 0 0 w hs h0 hmb HK hk c1 c3 (by omega) hm2 (Lib.hid HE) hms hi' (by omega) hke hA hB (by simpa using h2) (Lib.hid HA) (Lib.hid HB) 
                · rcases parseE_three B.data.toList with e2 | e2 | e2
                  · exact (h2 e2).elim
                  · rw [if_pos (by right; left; rw [e2]; decide)]
                    rw [e1] at HA
                    rw [e2] at HB
                    exact fun w => rp0p_o8 s A B k (k + 1) e 0 0 0 _ _ 0 0 w hs h0 hmb HK hk c1 c3 (by omega) hm2 (Lib.hid HE) hms hi' (by omega) hke hA hB  (Lib.hid HA) (Lib.hid HB) 
                  · rw [e1] at HA
                    rw [e2] at HB
                    by_cases g1 : parseN A.data.toList = r24 (parseN A.data.toList)
                    · by_cases g2 : parseN B.data.toList = r24 (parseN B.data.toList)
                      · rw [if_neg (by rintro (h | h | h | h); exact h e1; exact h e2; exact h g1; exact h g2)]
                        exact fun w => rp0p_o11 s A B k (k + 1) e 0 0 0 _ _ 0 0 w hs h0 hmb HK hk c1 c3 (by omega) hm2 (Lib.hid HE) hms hi' (by omega) hke hA hB  (Lib.hid HA) (Lib.hid HB) (Lib.hid (part_same _ g1)) (Lib.hid (part_same _ g2))
                      · rw [if_pos (.inr (.inr (.inr g2)))]
                        exact fun w => rp0p_o10 s A B k (k + 1) e 0 0 0 _ _ 0 _ w hs h0 hmb HK hk c1 c3 (by omega) hm2 (Lib.hid HE) hms hi' (by omega) hke hA hB  (Lib.hid HA) (Lib.hid HB) (Lib.hid (part_same _ g1)) (Lib.hid (rpart_any _)) (bne_of g2)
                    · rw [if_pos (.inr (.inr (.inl g1)))]
                      exact fun w => rp0p_o9 s A B k (k + 1) e 0 0 0 _ _ _ 0 w hs h0 hmb HK hk c1 c3 (by omega) hm2 (Lib.hid HE) hms hi' (by omega) hke hA hB  (Lib.hid HA) (Lib.hid HB) (Lib.hid (rpart_any _)) (bne_of g1)
          · have c1 : ((s[k].toNat : Int) != 43) = true := by rw [hc]; rfl
            have c2 : ((s[k].toNat : Int) != 45) = false := by rw [hc]; rfl
            have c3 : ((s[k].toNat : Int) == 43) = false := by rw [hc]; rfl
            have hS := hsp.2 hc
            have hlb : (s.extract k e).size ≤ 100 := by
              have h1 := congrArg List.length (ext_list s k e); rw [size_list, List.length_take, List.length_drop, size_list] at h1; omega
            have HB := fun w => rparse_any (s.extract k e) w hlb
            have hA0 : ∃ A, s.extract 0 k = A := ⟨_, rfl⟩
            have hB0 : ∃ B, s.extract k e = B := ⟨_, rfl⟩
            obtain ⟨A, hA⟩ := hA0
            obtain ⟨B, hB⟩ := hB0
            rw [hA] at HA hS alen
            rw [hB] at HB hS
            have no1 : parseE A.data.toList = 2 → ∀ a b, Split s.data.toList a b → good a = true → good b = true → False := fun h a b k1 k2 k3 => by
              rw [alen a b k1 k2 k3, parseE_bad h] at k2; cases k2
            have no2 : parseE B.data.toList = 2 → ∀ a b, Split s.data.toList a b → good a = true → good b = true → False := fun h a b k1 k2 k3 => by
              have e1 := alen a b k1 k2 k3
              subst e1
              rw [split_b k1 hS, parseE_bad h] at k3; cases k3
            by_cases h1 : parseE A.data.toList = 2
            · rw [h1] at HA
              exact ⟨(0, 0, 2), fun w => rp0m_o5 s A B k (k + 1) e 0 0 _ _ _ 0 0 w hs h0 hmb HK hk c1 c2 c3 (by omega) hm2 (Lib.hid HE) hms hi' (by omega) hke hA hB  (Lib.hid HA) (Lib.hid HB) , .inr ⟨no1 h1, rfl⟩⟩
            · by_cases h2 : parseE B.data.toList = 2
              · rw [h2] at HB
                exact ⟨(0, 0, 2), fun w => rp0m_o6 s A B k (k + 1) e 0 _ 0 _ _ 0 0 w hs h0 hmb HK hk c1 c2 c3 (by omega) hm2 (Lib.hid HE) hms hi' (by omega) hke hA hB (by simpa using h1) (Lib.hid HA) (Lib.hid HB) , .inr ⟨no2 h2, rfl⟩⟩
              · refine ⟨comb A.data.toList B.data.toList, ?_, .inl ⟨_, _, hS, parseE_good h1, parseE_good h2, rfl⟩⟩
                unfold comb
                rw [if_neg (by rintro (h | h); exact h1 h; exact h2 h)]
                rcases parseE_three A.data.toList with e1 | e1 | e1
                · exact (h1 e1).elim
                · rw [if_pos (by left; rw [e1]; decide)]
                  rw [e1] at HA
                  exact fun w => rp0m_o7 s A B k (k + 1) e 0 0 _ _ _ 0 0 w hs h0 hmb HK hk c1 c2 c3 (by omega) hm2 (Lib.hid HE) hms hi' (by omega) hke hA hB (by simpa using h2) (Lib.hid HA) (Lib.hid HB) 
                · rcases parseE_three B.data.toList with e2 | e2 | e2
                  · exact (h2 e2).elim
                  · rw [if_pos (by right; left; rw [e2]; decide)]
                    rw [e1] at HA
                    rw [e2] at HB
                    exact fun w => rp0m_o8 s A B k (k + 1) e 0 0 0 _ _ 0 0 w hs h0 hmb HK hk c1 c2 c3 (by omega) hm2 (Lib.hid HE) hms hi' (by omega) hke hA hB  (Lib.hid HA) (Lib.hid HB) 
                  · rw [e1] at HA
                    rw [e2] at HB
                    by_cases g1 : parseN A.data.toList = r24 (parseN A.data.toList)
                    · by_cases g2 : parseN B.data.toList = r24 (parseN B.data.toList)
                      · rw [if_neg (by rintro (h | h | h | h); exact h e1; exact h e2; exact h g1; exact h g2)]
                        exact fun w => rp0m_o11 s A B k (k + 1) e 0 0 0 _ _ 0 0 w hs h0 hmb HK hk c1 c2 c3 (by omega) hm2 (Lib.hid HE) hms hi' (by omega) hke hA hB  (Lib.hid HA) (Lib.hid HB) (Lib.hid (part_same _ g1)) (Lib.hid (part_same _ g2))
                      · rw [if_pos (.inr (.inr (.inr g2)))]
                        exact fun w => rp0m_o10 s A B k (k + 1) e 0 0 0 _ _ 0 _ w hs h0 hmb HK hk c1 c2 c3 (by omega) hm2 (Lib.hid HE) hms hi' (by omega) hke hA hB  (Lib.hid HA) (Lib.hid HB) (Lib.hid (part_same _ g1)) (Lib.hid (rpart_any _)) (bne_of g2)
                    · rw [if_pos (.inr (.inr (.inl g1)))]
                      exact fun w => rp0m_o9 s A B k (k + 1) e 0 0 0 _ _ _ 0 w hs h0 hmb HK hk c1 c2 c3 (by omega) hm2 (Lib.hid HE) hms hi' (by omega) hke hA hB  (Lib.hid HA) (Lib.hid HB) (Lib.hid (rpart_any _)) (bne_of g1)
        · have hi' : ((s[e].toNat : Int) != 105) = true := b_ne (n := 105) (by omega) hi
          have no : ∀ a b, Split s.data.toList a b → good a = true → good b = true → False := fun a b k1 _ _ => last_no s e hm hms hi a b k1
          rcases hc with hc | hc
          · exact ⟨(0, 0, 2), fun w => rp0p_o4 s nob nob k (k + 1) e 0 0 0 0 0 0 0 w hs h0 hmb HK hk (by rw [hc]; rfl) (by rw [hc]; rfl) (by omega) hm2 (Lib.hid HE) hms hi', .inr ⟨no, rfl⟩⟩
          · exact ⟨(0, 0, 2), fun w => rp0m_o4 s nob nob k (k + 1) e 0 0 0 0 0 0 0 w hs h0 hmb HK hk (by rw [hc]; rfl) (by rw [hc]; rfl) (by rw [hc]; rfl) (by omega) hm2 (Lib.hid HE) hms hi', .inr ⟨no, rfl⟩⟩
      · have he' : ((e : Int) != m) = true := bne_of (by omega)
        have no : ∀ a b, Split s.data.toList a b → good a = true → good b = true → False := fun a b k1 k2 k3 => by
          obtain ⟨f1, f2, f3, f4, f5⟩ := FACT a b k1 k2 k3
          rw [← f1, hk0, he] at f3
          exact hem f3
        rcases hc with hc | hc
        · exact ⟨(0, 0, 2), fun w => rp0p_o3 s nob nob k (k + 1) m e 0 0 0 0 0 0 w hs h0 hmb HK hk (by rw [hc]; rfl) (by rw [hc]; rfl) (by omega) hm2 (Lib.hid HE) he', .inr ⟨no, rfl⟩⟩
        · exact ⟨(0, 0, 2), fun w => rp0m_o3 s nob nob k (k + 1) m e 0 0 0 0 0 0 w hs h0 hmb HK hk (by rw [hc]; rfl) (by rw [hc]; rfl) (by rw [hc]; rfl) (by omega) hm2 (Lib.hid HE) he', .inr ⟨no, rfl⟩⟩
    · have hc' : s[k] ≠ 43 ∧ s[k] ≠ 45 := ⟨fun h => hc (.inl h), fun h => hc (.inr h)⟩
      refine ⟨(0, 0, 2), fun w => rp0_o2 s nob nob k 0 0 0 0 0 0 0 0 0 w hs h0 hmb HK hk (b_ne (n := 43) (by omega) hc'.1) (b_ne (n := 45) (by omega) hc'.2), .inr ⟨fun a b k1 k2 k3 => ?_, rfl⟩⟩
      obtain ⟨f1, f2, f3, f4, f5⟩ := FACT a b k1 k2 k3
      have hka : k = a.length := hk0.symm.trans f1
      subst hka
      exact hc (f5 hk)
  · refine ⟨(0, 0, 2), fun w => rp0_o1 s nob nob k 0 0 0 0 0 0 0 0 0 w hs h0 hmb HK hk, .inr ⟨fun a b k1 k2 k3 => ?_, rfl⟩⟩
    obtain ⟨f1, f2, f3, f4, f5⟩ := FACT a b k1 k2 k3
    omega

theorem gref_1 (s : ByteArray) (hs : s.size ≤ 100) (h0 : 0 < s.size) (hz : s[0] = 45) : ∃ v, GAns 28 s v ∧ Spec s.data.toList v := by
  obtain ⟨m, hm⟩ : ∃ m, m + 1 = s.size := ⟨s.size - 1, by omega⟩
  have hms : m < s.size := by omega
  have hm2 : (s.size : Int) - 1 = m := by omega
  have hmb : ((s[0].toNat : Int) == 45) = true := by rw [hz]; rfl
  have hic : 1 = if s[0] = 45 then 1 else 0 := by rw [if_pos hz]
  have FACT := fun a b h1 h2 h3 => ref_facts s m 1 hm h0 hic a b h1 h2 h3
  obtain ⟨k, hk0⟩ : ∃ k, dEnd s 1 = k := ⟨_, rfl⟩
  have HK := Lib.hid (fun w => digits_any s 1 k w hs (by omega) (Lib.hid hk0))
  by_cases hk : k < s.size
  · by_cases hc : s[k] = 43 ∨ s[k] = 45
    · obtain ⟨e, he⟩ : ∃ e, dEnd s (k + 1) = e := ⟨_, rfl⟩
      have HE := fun w => digits_any s (k + 1) e w hs (by omega) (Lib.hid he)
      have hej := (dEnd_all s _ (k + 1) rfl (by omega)).1
      by_cases hem : e = m
      · subst hem
        have hke : k < e := by omega
        by_cases hi : s[e] = 105
        · have hi' : ((s[e].toNat : Int) != 105) = false := by rw [hi]; rfl
          have hsp := ref_split s k e hm hk hms hke hi he
          have hla : (s.extract 0 k).size ≤ 100 := by
            have h1 := congrArg List.length (ext_list s 0 k); rw [size_list, List.length_take, List.length_drop, size_list] at h1; omega
          have HA := fun w => rparse_any (s.extract 0 k) w hla
          have alen : ∀ a b, Split s.data.toList a b → good a = true → good b = true → a = (s.extract 0 k).data.toList := fun a b h1 h2 h3 => by
            have h4 := (FACT a b h1 h2 h3).1
            obtain ⟨r, hr⟩ := split_at h1
            rw [ext_list, List.drop_zero, Nat.sub_zero, ← hk0, h4, hr, List.take_left]
          rcases hc with hc | hc
          · have c1 : ((s[k].toNat : Int) != 43) = false := by rw [hc]; rfl
            have c3 : ((s[k].toNat : Int) == 43) = true := by rw [hc]; rfl
            have hS := hsp.1 hc
            have hlb : (s.extract (k + 1) e).size ≤ 100 := by
              have h1 := congrArg List.length (ext_list s (k + 1) e); rw [size_list, List.length_take, List.length_drop, size_list] at h1; omega
            have HB := fun w => rparse_any (s.extract (k + 1) e) w hlb
            have hA0 : ∃ A, s.extract 0 k = A := ⟨_, rfl⟩
            have hB0 : ∃ B, s.extract (k + 1) e = B := ⟨_, rfl⟩
            obtain ⟨A, hA⟩ := hA0
            obtain ⟨B, hB⟩ := hB0
            rw [hA] at HA hS alen
            rw [hB] at HB hS
            have no1 : parseE A.data.toList = 2 → ∀ a b, Split s.data.toList a b → good a = true → good b = true → False := fun h a b k1 k2 k3 => by
              rw [alen a b k1 k2 k3, parseE_bad h] at k2; cases k2
            have no2 : parseE B.data.toList = 2 → ∀ a b, Split s.data.toList a b → good a = true → good b = true → False := fun h a b k1 k2 k3 => by
              have e1 := alen a b k1 k2 k3
              subst e1
              rw [split_b k1 hS, parseE_bad h] at k3; cases k3
            by_cases h1 : parseE A.data.toList = 2
            · rw [h1] at HA
              exact ⟨(0, 0, 2), fun w => rp1p_o5 s A B k (k + 1) e 0 0 _ _ _ 0 0 w hs h0 hmb HK hk c1 c3 (by omega) hm2 (Lib.hid HE) hms hi' (by omega) hke hA hB  (Lib.hid HA) (Lib.hid HB) , .inr ⟨no1 h1, rfl⟩⟩
            · by_cases h2 : parseE B.data.toList = 2
              · rw [h2] at HB
                exact ⟨(0, 0, 2), fun w => rp1p_o6 s A B k (k + 1) e 0 _ 0 _ _ 0 0 w hs h0 hmb HK hk c1 c3 (by omega) hm2 (Lib.hid HE) hms hi' (by omega) hke hA hB (by simpa using h1) (Lib.hid HA) (Lib.hid HB) , .inr ⟨no2 h2, rfl⟩⟩
              · refine ⟨comb A.data.toList B.data.toList, ?_, .inl ⟨_, _, hS, parseE_good h1, parseE_good h2, rfl⟩⟩
                unfold comb
                rw [if_neg (by rintro (h | h); exact h1 h; exact h2 h)]
                rcases parseE_three A.data.toList with e1 | e1 | e1
                · exact (h1 e1).elim
                · rw [if_pos (by left; rw [e1]; decide)]
                  rw [e1] at HA
                  exact fun w => rp1p_o7 s A B k (k + 1) e 0 0 _ _ _ 0 0 w hs h0 hmb HK hk c1 c3 (by omega) hm2 (Lib.hid HE) hms hi' (by omega) hke hA hB (by simpa using h2) (Lib.hid HA) (Lib.hid HB) 
                · rcases parseE_three B.data.toList with e2 | e2 | e2
                  · exact (h2 e2).elim
                  · rw [if_pos (by right; left; rw [e2]; decide)]
                    rw [e1] at HA
                    rw [e2] at HB
                    exact fun w => rp1p_o8 s A B k (k + 1) e 0 0 0 _ _ 0 0 w hs h0 hmb HK hk c1 c3 (by omega) hm2 (Lib.hid HE) hms hi' (by omega) hke hA hB  (Lib.hid HA) (Lib.hid HB) 
                  · rw [e1] at HA
                    rw [e2] at HB
                    by_cases g1 : parseN A.data.toList = r24 (parseN A.data.toList)
                    · by_cases g2 : parseN B.data.toList = r24 (parseN B.data.toList)
                      · rw [if_neg (by rintro (h | h | h | h); exact h e1; exact h e2; exact h g1; exact h g2)]
                        exact fun w => rp1p_o11 s A B k (k + 1) e 0 0 0 _ _ 0 0 w hs h0 hmb HK hk c1 c3 (by omega) hm2 (Lib.hid HE) hms hi' (by omega) hke hA hB  (Lib.hid HA) (Lib.hid HB) (Lib.hid (part_same _ g1)) (Lib.hid (part_same _ g2))
                      · rw [if_pos (.inr (.inr (.inr g2)))]
                        exact fun w => rp1p_o10 s A B k (k + 1) e 0 0 0 _ _ 0 _ w hs h0 hmb HK hk c1 c3 (by omega) hm2 (Lib.hid HE) hms hi' (by omega) hke hA hB  (Lib.hid HA) (Lib.hid HB) (Lib.hid (part_same _ g1)) (Lib.hid (rpart_any _)) (bne_of g2)
                    · rw [if_pos (.inr (.inr (.inl g1)))]
                      exact fun w => rp1p_o9 s A B k (k + 1) e 0 0 0 _ _ _ 0 w hs h0 hmb HK hk c1 c3 (by omega) hm2 (Lib.hid HE) hms hi' (by omega) hke hA hB  (Lib.hid HA) (Lib.hid HB) (Lib.hid (rpart_any _)) (bne_of g1)
          · have c1 : ((s[k].toNat : Int) != 43) = true := by rw [hc]; rfl
            have c2 : ((s[k].toNat : Int) != 45) = false := by rw [hc]; rfl
            have c3 : ((s[k].toNat : Int) == 43) = false := by rw [hc]; rfl
            have hS := hsp.2 hc
            have hlb : (s.extract k e).size ≤ 100 := by
              have h1 := congrArg List.length (ext_list s k e); rw [size_list, List.length_take, List.length_drop, size_list] at h1; omega
            have HB := fun w => rparse_any (s.extract k e) w hlb
            have hA0 : ∃ A, s.extract 0 k = A := ⟨_, rfl⟩
            have hB0 : ∃ B, s.extract k e = B := ⟨_, rfl⟩
            obtain ⟨A, hA⟩ := hA0
            obtain ⟨B, hB⟩ := hB0
            rw [hA] at HA hS alen
            rw [hB] at HB hS
            have no1 : parseE A.data.toList = 2 → ∀ a b, Split s.data.toList a b → good a = true → good b = true → False := fun h a b k1 k2 k3 => by
              rw [alen a b k1 k2 k3, parseE_bad h] at k2; cases k2
            have no2 : parseE B.data.toList = 2 → ∀ a b, Split s.data.toList a b → good a = true → good b = true → False := fun h a b k1 k2 k3 => by
              have e1 := alen a b k1 k2 k3
              subst e1
              rw [split_b k1 hS, parseE_bad h] at k3; cases k3
            by_cases h1 : parseE A.data.toList = 2
            · rw [h1] at HA
              exact ⟨(0, 0, 2), fun w => rp1m_o5 s A B k (k + 1) e 0 0 _ _ _ 0 0 w hs h0 hmb HK hk c1 c2 c3 (by omega) hm2 (Lib.hid HE) hms hi' (by omega) hke hA hB  (Lib.hid HA) (Lib.hid HB) , .inr ⟨no1 h1, rfl⟩⟩
            · by_cases h2 : parseE B.data.toList = 2
              · rw [h2] at HB
                exact ⟨(0, 0, 2), fun w => rp1m_o6 s A B k (k + 1) e 0 _ 0 _ _ 0 0 w hs h0 hmb HK hk c1 c2 c3 (by omega) hm2 (Lib.hid HE) hms hi' (by omega) hke hA hB (by simpa using h1) (Lib.hid HA) (Lib.hid HB) , .inr ⟨no2 h2, rfl⟩⟩
              · refine ⟨comb A.data.toList B.data.toList, ?_, .inl ⟨_, _, hS, parseE_good h1, parseE_good h2, rfl⟩⟩
                unfold comb
                rw [if_neg (by rintro (h | h); exact h1 h; exact h2 h)]
                rcases parseE_three A.data.toList with e1 | e1 | e1
                · exact (h1 e1).elim
                · rw [if_pos (by left; rw [e1]; decide)]
                  rw [e1] at HA
                  exact fun w => rp1m_o7 s A B k (k + 1) e 0 0 _ _ _ 0 0 w hs h0 hmb HK hk c1 c2 c3 (by omega) hm2 (Lib.hid HE) hms hi' (by omega) hke hA hB (by simpa using h2) (Lib.hid HA) (Lib.hid HB) 
                · rcases parseE_three B.data.toList with e2 | e2 | e2
                  · exact (h2 e2).elim
                  · rw [if_pos (by right; left; rw [e2]; decide)]
                    rw [e1] at HA
                    rw [e2] at HB
                    exact fun w => rp1m_o8 s A B k (k + 1) e 0 0 0 _ _ 0 0 w hs h0 hmb HK hk c1 c2 c3 (by omega) hm2 (Lib.hid HE) hms hi' (by omega) hke hA hB  (Lib.hid HA) (Lib.hid HB) 
                  · rw [e1] at HA
                    rw [e2] at HB
                    by_cases g1 : parseN A.data.toList = r24 (parseN A.data.toList)
                    · by_cases g2 : parseN B.data.toList = r24 (parseN B.data.toList)
                      · rw [if_neg (by rintro (h | h | h | h); exact h e1; exact h e2; exact h g1; exact h g2)]
                        exact fun w => rp1m_o11 s A B k (k + 1) e 0 0 0 _ _ 0 0 w hs h0 hmb HK hk c1 c2 c3 (by omega) hm2 (Lib.hid HE) hms hi' (by omega) hke hA hB  (Lib.hid HA) (Lib.hid HB) (Lib.hid (part_same _ g1)) (Lib.hid (part_same _ g2))
                      · rw [if_pos (.inr (.inr (.inr g2)))]
                        exact fun w => rp1m_o10 s A B k (k + 1) e 0 0 0 _ _ 0 _ w hs h0 hmb HK hk c1 c2 c3 (by omega) hm2 (Lib.hid HE) hms hi' (by omega) hke hA hB  (Lib.hid HA) (Lib.hid HB) (Lib.hid (part_same _ g1)) (Lib.hid (rpart_any _)) (bne_of g2)
                    · rw [if_pos (.inr (.inr (.inl g1)))]
                      exact fun w => rp1m_o9 s A B k (k + 1) e 0 0 0 _ _ _ 0 w hs h0 hmb HK hk c1 c2 c3 (by omega) hm2 (Lib.hid HE) hms hi' (by omega) hke hA hB  (Lib.hid HA) (Lib.hid HB) (Lib.hid (rpart_any _)) (bne_of g1)
        · have hi' : ((s[e].toNat : Int) != 105) = true := b_ne (n := 105) (by omega) hi
          have no : ∀ a b, Split s.data.toList a b → good a = true → good b = true → False := fun a b k1 _ _ => last_no s e hm hms hi a b k1
          rcases hc with hc | hc
          · exact ⟨(0, 0, 2), fun w => rp1p_o4 s nob nob k (k + 1) e 0 0 0 0 0 0 0 w hs h0 hmb HK hk (by rw [hc]; rfl) (by rw [hc]; rfl) (by omega) hm2 (Lib.hid HE) hms hi', .inr ⟨no, rfl⟩⟩
          · exact ⟨(0, 0, 2), fun w => rp1m_o4 s nob nob k (k + 1) e 0 0 0 0 0 0 0 w hs h0 hmb HK hk (by rw [hc]; rfl) (by rw [hc]; rfl) (by rw [hc]; rfl) (by omega) hm2 (Lib.hid HE) hms hi', .inr ⟨no, rfl⟩⟩
      · have he' : ((e : Int) != m) = true := bne_of (by omega)
        have no : ∀ a b, Split s.data.toList a b → good a = true → good b = true → False := fun a b k1 k2 k3 => by
          obtain ⟨f1, f2, f3, f4, f5⟩ := FACT a b k1 k2 k3
          rw [← f1, hk0, he] at f3
          exact hem f3
        rcases hc with hc | hc
        · exact ⟨(0, 0, 2), fun w => rp1p_o3 s nob nob k (k + 1) m e 0 0 0 0 0 0 w hs h0 hmb HK hk (by rw [hc]; rfl) (by rw [hc]; rfl) (by omega) hm2 (Lib.hid HE) he', .inr ⟨no, rfl⟩⟩
        · exact ⟨(0, 0, 2), fun w => rp1m_o3 s nob nob k (k + 1) m e 0 0 0 0 0 0 w hs h0 hmb HK hk (by rw [hc]; rfl) (by rw [hc]; rfl) (by rw [hc]; rfl) (by omega) hm2 (Lib.hid HE) he', .inr ⟨no, rfl⟩⟩
    · have hc' : s[k] ≠ 43 ∧ s[k] ≠ 45 := ⟨fun h => hc (.inl h), fun h => hc (.inr h)⟩
      refine ⟨(0, 0, 2), fun w => rp1_o2 s nob nob k 0 0 0 0 0 0 0 0 0 w hs h0 hmb HK hk (b_ne (n := 43) (by omega) hc'.1) (b_ne (n := 45) (by omega) hc'.2), .inr ⟨fun a b k1 k2 k3 => ?_, rfl⟩⟩
      obtain ⟨f1, f2, f3, f4, f5⟩ := FACT a b k1 k2 k3
      have hka : k = a.length := hk0.symm.trans f1
      subst hka
      exact hc (f5 hk)
  · refine ⟨(0, 0, 2), fun w => rp1_o1 s nob nob k 0 0 0 0 0 0 0 0 0 w hs h0 hmb HK hk, .inr ⟨fun a b k1 k2 k3 => ?_, rfl⟩⟩
    obtain ⟨f1, f2, f3, f4, f5⟩ := FACT a b k1 k2 k3
    omega


set_option maxHeartbeats 400000 in
theorem rp_empty (w : World) (HK : Hid (∀ w, Calls Try.prog 38 #[.string nob, .int .i64 0] w fun e w' => e = .returned (.int .i64 0) ∧ w = w')) :
    Calls Try.prog 28 #[.string nob] w fun e w' => e = .returned (pr 0 0 2) ∧ Below w.heap.size w w' := by
  go_enter Try.func28, Try.ntmps28
  go_wp2_with fail
  refine (HK.out _).mono ?_
  rintro e _ ⟨rfl, rfl⟩
  go_wp2
  refine bodyPost_ret (v := pr 0 0 2) (by simp [results, Try.results28, go_sem]) rfl ⟨rfl, ?_⟩
  go_grown

theorem gref_any (s : ByteArray) (hs : s.size ≤ 100) : ∃ v, GAns 28 s v ∧ Spec s.data.toList v := by
  by_cases h0 : 0 < s.size
  · by_cases hz : s[0] = 45
    · exact gref_1 s hs h0 hz
    · exact gref_0 s hs h0 hz
  · have e := empty_of s h0
    subst e
    refine ⟨(0, 0, 2), fun w => rp_empty w (Lib.hid (fun w => digits_any nob 0 0 w hs (by simp) (Lib.hid (by rw [dEnd, dif_neg h0])))), .inr ⟨fun a b k1 _ _ => ?_, rfl⟩⟩
    have := split_len k1
    simp at this

end Go.Proofs.Ytknnobijdojjhaa
