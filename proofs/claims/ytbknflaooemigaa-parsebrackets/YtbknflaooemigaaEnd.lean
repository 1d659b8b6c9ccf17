/-
  Contract of quote.End. Conditions: texts of at most 1000000 bytes.
-/
import Derived.Test.YtbknflaooemigaaRead
namespace Go.Proofs.Ytbknflaooemigaa
open Go.RowKit
set_option linter.unusedVariables false

theorem ext_end (s : ByteArray) (k : Nat) : (s.extract k s.size).data.toList = s.data.toList.drop k := by
  rw [ext_list, List.take_of_length_le]
  rw [List.length_drop, size_list]; exact Nat.le_refl _

theorem ext_size (s : ByteArray) (k : Nat) (h : s.size ≤ 1000000) : (s.extract k s.size).size ≤ 1000000 := by
  rw [← size_list, ext_end, List.length_drop, size_list]; omega

theorem rest_any (s : ByteArray) (k : Nat) (h : s.size ≤ 1000000) (r : Rb) (hr : rb (s.data.toList.drop k) = r) (w : World) : Calls Try.prog 71 #[.string (s.extract k s.size)] w fun e w' => e = .returned (tri r) ∧ w = w' := by
  have := readByte_any (s.extract k s.size) w (ext_size s k h)
  rwa [ext_end, hr] at this

theorem ret_nb {a : Int} {t : Bool} {R : Nat × Bool} {k : Nat} (h : (k, t) = R) (h1 : a = (k : Nat)) : Ending.returned (.tuple #[.int .i64 a, .bool t]) = .returned (.tuple #[.int .i64 (R.1 : Nat), .bool R.2]) := by
  rw [← h, h1]

theorem head_drop (s : ByteArray) (k : Nat) (h : k < s.size) : (s.data.toList.drop k).head? = some s[k] := by rw [drop_cons s k h]; rfl

def JEnd (s : ByteArray) (w : World) (R : Nat × Bool) (a' : Act) (w' : World) : Prop :=
  ∃ k : Nat, (w' = w ∧ 1 ≤ k ∧ k ≤ s.size ∧ (k + (scan (s.data.toList.drop k)).2.1, (scan (s.data.toList.drop k)).2.2) = R) ∧ ∃ u5 u6 u7 u8 u9 u10 u11 u12 u13 u14 u15 u16 u17 u18 u19 u20 u21 u22 u23 u24 u25 u26 u27 u28 u29 u30 u31 u32 u33 u34 u35 u36 u37 u38 u39 : Value, a' = { tmps := #[.string s, undef, .int .i64 0, .bool false, .int .i64 k, u5, u6, u7, u8, u9, u10, u11, u12, u13, u14, u15, u16, u17, u18, u19, u20, u21, u22, u23, u24, u25, u26, u27, u28, u29, u30, u31, u32, u33, u34, u35, u36, u37, u38, u39], defers := [] }

set_option maxHeartbeats 1000000 in
theorem end_some (s : ByteArray) (w : World) (hs : s.size ≤ 1000000) (h0 : 0 < s.size) (h34 : s[0] = 34) (R : Nat × Bool) (hR : Hid ((1 + (scan (s.data.toList.drop 1)).2.1, (scan (s.data.toList.drop 1)).2.2) = R)) :
    Calls Try.prog 56 #[.string s] w fun e w' => e = .returned (.tuple #[.int .i64 (R.1 : Nat), .bool R.2]) ∧ w = w' := by
  have hne := not_nil s h0
  have e0 : ((s[0].toNat : Int) != 34) = false := by rw [h34]; rfl
  clear h34
  go_enter Try.func56, Try.ntmps56
  go_wp2
  refine wp_scope_goto 0 (JEnd s w R) (fun a' _ => s.size - (intOf (a'.tmps.getD 4 undef)).toNat) rfl ?_ ?_
  · rintro a' w' ⟨k, ⟨rfl, hk1, hk, hR⟩, u5, u6, u7, u8, u9, u10, u11, u12, u13, u14, u15, u16, u17, u18, u19, u20, u21, u22, u23, u24, u25, u26, u27, u28, u29, u30, u31, u32, u33, u34, u35, u36, u37, u38, u39, rfl⟩
    by_cases hlt : k < s.size
    · by_cases hq : s[k] = 34
      · have HR := Lib.hid (show (k + 1, true) = R by rw [← hR, scan_quote _ (by rw [head_drop s k hlt, hq])])
        have e1 : ((s[k].toNat : Int) == 34) = true := by rw [hq]; rfl
        clear hq hR
        go_wp2
        simp only [Exit.jump]
        go_ret2
        exact ⟨ret_nb HR.out (by omega), rfl⟩
      · have hq' : ¬ (s.data.toList.drop k).head? = some 34 := by rw [head_drop s k hlt]; simpa using hq
        have e1 := byte_ne (n := 34) (by decide) hq
        obtain ⟨r, hr⟩ : ∃ r, rb (s.data.toList.drop k) = r := ⟨_, rfl⟩
        have HRB := Lib.hid (fun w => rest_any s k hs r hr w)
        cases hok : r.2.2 with
        | true =>
          have hz := rb_size (s.data.toList.drop k) (by rw [hr]; exact hok)
          have hst := scan_step (s.data.toList.drop k) hq' (by rw [hr]; exact hok)
          rw [hr] at hz hst
          rw [List.drop_drop] at hst
          rw [List.length_drop, size_list] at hz
          have HR := Lib.hid (show (k + r.2.1 + (scan (s.data.toList.drop (k + r.2.1))).2.1, (scan (s.data.toList.drop (k + r.2.1))).2.2) = R by rw [← hR, hst]; simp only [Nat.add_assoc])
          obtain ⟨b, m, t⟩ := r
          simp only at hok hz HR
          subst hok
          clear hq hq' hR hst hr
          go_wp2_with fail
          refine (HRB.out _).mono ?_
          rintro e w1 ⟨rfl, rfl⟩
          go_wp2
          go_step3
          refine ⟨rfl, ⟨k + m, ⟨rfl, by omega, by omega, HR.out⟩, ?_⟩, ?_⟩
          · exact ⟨_, _, _, _, _, _, _, _, _, _, _, _, _, _, _, _, _, _, _, _, _, _, _, _, _, _, _, _, _, _, _, _, _, _, _, rfl⟩
          · simp [intOf]
            omega
        | false =>
          have hst := scan_bad (s.data.toList.drop k) hq' (by rw [hr]; exact hok)
          rw [hr] at hst
          have HR := Lib.hid (show (k + r.2.1, false) = R by rw [← hR, hst])
          have hb : r.2.1 ≤ 4 := by rw [← hr]; exact rb_le _
          obtain ⟨b, m, t⟩ := r
          simp only at hok HR hb
          subst hok
          clear hq hq' hR hst hr
          go_wp2_with fail
          refine (HRB.out _).mono ?_
          rintro e w1 ⟨rfl, rfl⟩
          go_wp2
          simp only [Exit.jump]
          go_ret2
          exact ⟨ret_nb HR.out (by omega), rfl⟩
    · have hke := Lib.hid (show k = s.size by omega)
      have hki : ¬ (k : Int) < s.size := by omega
      have HRB := Lib.hid (fun w => rest_any s k hs (0, 0, false) (by rw [drop_end s _ (by omega)]; rfl) w)
      have HR := Lib.hid (show (k, false) = R by rw [← hR, drop_end s _ (by omega), scan_bad [] (by simp) rfl]; rfl)
      clear hR
      go_wp2_with fail
      refine (HRB.out _).mono ?_
      rintro e w1 ⟨rfl, rfl⟩
      go_wp2
      simp only [Exit.jump]
      go_ret2
      exact ⟨ret_nb HR.out (by omega), rfl⟩
  · intro F
    go_wp2
    go_step3
    rename_i hK
    apply hK
    exact F _ _ ⟨1, ⟨rfl, Nat.le_refl _, h0, hR.out⟩, _, _, _, _, _, _, _, _, _, _, _, _, _, _, _, _, _, _, _, _, _, _, _, _, _, _, _, _, _, _, _, _, _, _, _, rfl⟩

theorem end_none (s : ByteArray) (w : World) (h0 : 0 < s.size) (h34 : s[0] ≠ 34) : Calls Try.prog 56 #[.string s] w fun e w' => e = .returned (.tuple #[.int .i64 0, .bool false]) ∧ w = w' := by
  have hne := not_nil s h0
  have e0 := b_ne (n := 34) (by decide) h34
  clear h34
  go_enter Try.func56, Try.ntmps56
  go_wp2
  go_step3
  go_wp2
  rw [Exit.noGoto_ret]
  go_ret2
  exact ⟨rfl, rfl⟩

theorem end_empty (w : World) : Calls Try.prog 56 #[.string { data := #[] }] w fun e w' => e = .returned (.tuple #[.int .i64 0, .bool false]) ∧ w = w' := by
  go_enter Try.func56, Try.ntmps56
  go_wp2
  go_step3
  go_wp2
  rw [Exit.noGoto_ret]
  go_ret2
  exact ⟨rfl, rfl⟩

theorem read_some (s : ByteArray) (h0 : 0 < s.size) (h34 : s[0] = 34) : readOf s.data.toList = ((scan (s.data.toList.drop 1)).1, 1 + (scan (s.data.toList.drop 1)).2.1, (scan (s.data.toList.drop 1)).2.2) := by
  have e := head_drop s 0 h0
  rw [List.drop_zero, h34] at e
  rw [readOf, if_pos e, List.drop_one]

theorem read_none (s : ByteArray) (h0 : 0 < s.size) (h34 : s[0] ≠ 34) : readOf s.data.toList = ([], 0, false) := by
  have e := head_drop s 0 h0
  rw [List.drop_zero] at e
  rw [readOf, if_neg]
  rw [e]; simpa using h34

theorem end_any (s : ByteArray) (w : World) (hs : s.size ≤ 1000000) (R : List UInt8 × Nat × Bool) (hR : readOf s.data.toList = R) : Calls Try.prog 56 #[.string s] w fun e w' => e = .returned (.tuple #[.int .i64 (R.2.1 : Nat), .bool R.2.2]) ∧ w = w' := by
  subst hR
  by_cases h0 : 0 < s.size
  · by_cases h34 : s[0] = 34
    · have := end_some s w hs h0 h34 _ (Lib.hid rfl)
      rw [read_some s h0 h34]
      exact this
    · rw [read_none s h0 h34]
      exact end_none s w h0 h34
  · rw [empty_of s h0]
    exact end_empty w

end Go.Proofs.Ytbknflaooemigaa
