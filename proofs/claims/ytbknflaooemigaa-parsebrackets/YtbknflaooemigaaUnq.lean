/-
  Contract of quote.Unquote. Conditions: texts of at most 1000000 bytes.
-/
import Derived.Test.YtbknflaooemigaaEnd
namespace Go.Proofs.Ytbknflaooemigaa
open Go.RowKit
set_option linter.unusedVariables false

/-- What Unquote answers: the bytes, the fault. -/
def unqOf (l : List UInt8) : List UInt8 × Int := if (readOf l).2.2 = true ∧ (readOf l).2.1 = l.length then ((readOf l).1, 0) else ([], 2)

def szOf : Value → Nat | .string t => t.size | _ => 0

theorem unq_step (l : List UInt8) (h : (rb l).2.2 = true) : unq l = (rb l).1 :: unq (l.drop (rb l).2.1) := by rw [unq, dif_pos h]
theorem unq_stop (l : List UInt8) (h : (rb l).2.2 = false) : unq l = [] := by rw [unq, dif_neg (by simp [h])]

set_option maxHeartbeats 400000 in
theorem unquote_no (s : ByteArray) (w : World) (N : Nat) (HE : Hid (∀ w, Calls Try.prog 56 #[.string s] w fun e w' => e = .returned (.tuple #[.int .i64 (N : Nat), .bool false]) ∧ w = w')) :
    Calls Try.prog 57 #[.string s] w fun e w' => e = .returned (.tuple #[.string { data := #[] }, .int .i64 2]) ∧ w = w' := by
  go_enter Try.func57, Try.ntmps57
  go_wp2
  go_step3
  go_wp2_with fail
  refine (HE.out _).mono ?_
  rintro e w1 ⟨rfl, rfl⟩
  go_wp2
  rw [Exit.noGoto_ret]
  go_ret2
  exact ⟨rfl, rfl⟩

set_option maxHeartbeats 400000 in
theorem unquote_part (s : ByteArray) (w : World) (N : Nat) (hN : N < s.size) (HE : Hid (∀ w, Calls Try.prog 56 #[.string s] w fun e w' => e = .returned (.tuple #[.int .i64 (N : Nat), .bool true]) ∧ w = w')) :
    Calls Try.prog 57 #[.string s] w fun e w' => e = .returned (.tuple #[.string { data := #[] }, .int .i64 2]) ∧ w = w' := by
  go_enter Try.func57, Try.ntmps57
  go_wp2
  go_step3
  go_wp2_with fail
  refine (HE.out _).mono ?_
  rintro e w1 ⟨rfl, rfl⟩
  go_wp2
  rw [Exit.noGoto_ret]
  go_ret2
  exact ⟨rfl, rfl⟩

def JUnq (s : ByteArray) (N : Nat) (w : World) (X : List UInt8) (a' : Act) (w' : World) : Prop :=
  ∃ (t : ByteArray) (v : Value) (l : List UInt8), (l.length + t.size ≤ 1000000 ∧ l ++ unq t.data.toList = X ∧ Own w' w.heap.size v l ∧ Below w.heap.size w w') ∧ ∃ u5 u8 u9 u10 u11 u12 u13 u14 u15 u16 u17 u18 u19 u20 u21 u22 u23 u24 u25 u26 u27 u28 u29 u30 u31 u32 u33 u34 u35 u36 u37 u38 u39 u40 u41 u42 u43 u44 u45 : Value, a' = { tmps := #[.string s, undef, .string { data := #[] }, .int .i64 0, .int .i64 N, u5, .string t, v, u8, u9, u10, u11, u12, u13, u14, u15, u16, u17, u18, u19, u20, u21, u22, u23, u24, u25, u26, u27, u28, u29, u30, u31, u32, u33, u34, u35, u36, u37, u38, u39, u40, u41, u42, u43, u44, u45], defers := [] }

set_option maxHeartbeats 1000000 in
theorem unquote_yes (s : ByteArray) (w : World) (N : Nat) (hs : s.size ≤ 1000000) (hN : N = s.size) (hN2 : 2 ≤ N) (X : List UInt8) (hX : Hid (unq (s.extract 1 (N - 1)).data.toList = X))
    (HE : Hid (∀ w, Calls Try.prog 56 #[.string s] w fun e w' => e = .returned (.tuple #[.int .i64 (N : Nat), .bool true]) ∧ w = w')) :
    Calls Try.prog 57 #[.string s] w fun e w' => e = .returned (.tuple #[.string (bs X), .int .i64 0]) ∧ Below w.heap.size w w' := by
  obtain ⟨M, hM⟩ : ∃ M, N - 1 = M := ⟨_, rfl⟩
  rw [hM] at hX
  have hM' : (N : Int) - 1 = M := by omega
  have hM1 : 1 ≤ M := by omega
  have hM2 : M ≤ s.size := by omega
  have hlt : ¬ (N : Int) < s.size := by omega
  have hlt2 : ¬ N < s.size := by omega
  have hts : (s.extract 1 M).size ≤ 1000000 := by
    rw [← size_list, ext_list, List.length_take, List.length_drop, size_list]; omega
  have hM3 : M ≤ 1000000 := by omega
  have hNe := Lib.hid hN
  clear hM hN hs
  go_enter Try.func57, Try.ntmps57
  go_wp2
  refine wp_scope_goto 0 (JUnq s N w X) (fun a' _ => szOf (a'.tmps.getD 6 undef)) rfl ?_ ?_
  · rintro a' w' ⟨t, v, l, ⟨hsz, hX, ho, hb⟩, u5, u8, u9, u10, u11, u12, u13, u14, u15, u16, u17, u18, u19, u20, u21, u22, u23, u24, u25, u26, u27, u28, u29, u30, u31, u32, u33, u34, u35, u36, u37, u38, u39, u40, u41, u42, u43, u44, u45, rfl⟩
    obtain ⟨r, hr⟩ : ∃ r, rb t.data.toList = r := ⟨_, rfl⟩
    have HRB := Lib.hid (fun w => readByte_any t w (by omega))
    rw [hr] at HRB
    have hbs := hb.size
    cases hok : r.2.2 with
    | true =>
      have hz := rb_size t.data.toList (by rw [hr]; exact hok)
      have hst := unq_step t.data.toList (by rw [hr]; exact hok)
      rw [hr] at hz hst
      rw [size_list] at hz
      rw [← ext_end] at hst
      obtain ⟨b, m, tt⟩ := r
      simp only at hok hz hst
      subst hok
      have HX := Lib.hid (show l ++ [b] ++ unq (t.extract m t.size).data.toList = X by rw [← hX, hst]; simp)
      have hm1 : m ≤ t.size := hz.2
      have hm2 : (m : Int) ≤ t.size := by omega
      have hez : (t.extract m t.size).size = t.size - m := by rw [← size_list, ext_end, List.length_drop, size_list]
      replace hez := Lib.hid hez
      replace ho := Lib.hid ho
      replace hb := Lib.hid hb
      clear hX hst hr
      go_wp2_with fail
      refine (HRB.out _).mono ?_
      rintro e w1 ⟨rfl, rfl⟩
      go_wp2_with (at_builtin; refine wpList_app rfl _ _ rfl w.heap.size v l [b] 1 rfl rfl rfl rfl ho.out hbs (by omega) ?_; intro v2 w2 ho2 hb2; replace ho2 := Lib.hid ho2; replace hb2 := Lib.hid hb2)
      go_step3
      refine ⟨rfl, ⟨t.extract m t.size, v2, l ++ [b], ⟨by rw [hez.out]; simp; omega, HX.out, ho2.out, hb.out.trans hb2.out⟩, ?_⟩, ?_⟩
      · exact ⟨_, _, _, _, _, _, _, _, _, _, _, _, _, _, _, _, _, _, _, _, _, _, _, _, _, _, _, _, _, _, _, _, _, _, _, _, _, _, _, rfl⟩
      · show szOf (.string (t.extract m t.size)) < szOf (.string t)
        simp only [szOf, hez.out]
        omega
    | false =>
      have hst := unq_stop t.data.toList (by rw [hr]; exact hok)
      have HX := Lib.hid (show l = X by rw [← hX, hst]; simp)
      obtain ⟨b, m, tt⟩ := r
      simp only at hok
      subst hok
      have hcv := own_text ho
      replace hb := Lib.hid hb
      clear hX hst hr ho
      go_wp2_with fail
      refine (HRB.out _).mono ?_
      rintro e w1 ⟨rfl, rfl⟩
      go_wp2
      simp only [Exit.jump]
      go_ret2
      rw [← HX.out]
      exact ⟨rfl, hb.out⟩
  · intro F
    go_wp2_with fail
    refine (HE.out _).mono ?_
    rintro e w1 ⟨rfl, rfl⟩
    go_wp2_with (first
      | (at_make; refine wpList_make0 rfl _ _ rfl w.heap.size (M - 1) _ rfl rfl (by first | rfl | omega) (by omega) (Nat.le_refl _) ?_; intro v1 w1 ho1 hb1; replace ho1 := Lib.hid ho1; replace hb1 := Lib.hid hb1))
    go_step3
    rename_i hK
    apply hK
    exact F _ _ ⟨s.extract 1 M, v1, [], ⟨by simpa using hts, hX.out, ho1.out, hb1.out⟩, _, _, _, _, _, _, _, _, _, _, _, _, _, _, _, _, _, _, _, _, _, _, _, _, _, _, _, _, _, _, _, _, _, _, _, _, _, _, _, rfl⟩

theorem unquote_any (s : ByteArray) (w : World) (hs : s.size ≤ 1000000) : Calls Try.prog 57 #[.string s] w fun e w' => e = .returned (.tuple #[.string (bs (unqOf s.data.toList).1), .int .i64 (unqOf s.data.toList).2]) ∧ Below w.heap.size w w' := by
  have HE := Lib.hid (fun w => end_any s w hs _ rfl)
  unfold unqOf
  rw [size_list]
  cases hok : (readOf s.data.toList).2.2 with
  | false =>
    rw [hok] at HE
    rw [if_neg (by simp)]
    exact same_below (unquote_no s w _ HE)
  | true =>
    rw [hok] at HE
    obtain ⟨h1, h2, h3⟩ := unq_read s.data.toList hok
    rw [size_list] at h2
    by_cases hN : (readOf s.data.toList).2.1 = s.size
    · rw [if_pos ⟨rfl, hN⟩]
      refine unquote_yes s w _ hs hN h1 _ (Lib.hid ?_) HE
      rw [ext_list]
      exact h3
    · rw [if_neg (by simp [hN])]
      exact same_below (unquote_part s w _ (by omega) HE)

end Go.Proofs.Ytbknflaooemigaa
