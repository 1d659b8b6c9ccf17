/-
  Contract of lex.readToken. Conditions: texts of at most 100000 bytes that aren't empty.
-/
import Derived.Test.YtbknflaooemigaaRdn
import Derived.Deep.RegionWith
namespace Go.Proofs.Ytbknflaooemigaa
open Go.RowKit Go.Sort
set_option linter.unusedVariables false

abbrev Bool1 (f : Nat) (c : UInt8) (b : Bool) : Prop := ∀ w, Calls Try.prog f #[byt c] w fun e w' => e = .returned (.bool b) ∧ w = w'

set_option maxHeartbeats 1000000 in
theorem tok_name_s (s X : ByteArray) (w : World) (h0 : 0 < s.size) (hs : s.size ≤ 100000) (n k : Nat) (hn : n ≤ s.size) (hX : s.extract 0 n = X)
    (H25 : Hid (Bool1 30 s[0] true))
    (H16 : Hid (∀ w, Calls Try.prog 20 #[.string s, .func (.func 32) #[] #[]] w fun e w' => e = .returned (.int .i64 (n : Nat)) ∧ w = w'))
    (H29 : Hid (∀ w, Calls Try.prog 34 #[.string X] w fun e w' => e = .returned (.int .u8 (k : Nat)) ∧ w = w'))
    (H28 : Hid (∀ w, Calls Try.prog 33 #[.int .u8 (k : Nat), .string X] w fun e w' => e = .returned (tokV k 0 0 0 X) ∧ Below w.heap.size w w')) :
    Calls Try.prog 22 #[.string s] w fun x w' => x = .returned (.tuple #[tokV k 0 0 0 X, .int .i64 (n : Nat), .int .i64 0]) ∧ Below w.heap.size w w' := by
  have hne := not_nil s h0
  go_enter Try.func22, Try.ntmps22
  go_wp2_with fail
  refine (H25.out _).mono ?_
  rintro e w' ⟨rfl, rfl⟩
  go_wp2_with fail
  refine (H16.out _).mono ?_
  rintro e w' ⟨rfl, rfl⟩
  go_wp2_with fail
  go_region_with (first
    | (go_at_call 34; refine (H29.out _).mono ?_; rintro e w' ⟨rfl, rfl⟩)
    | (go_at_call 33; refine (H28.out _).mono ?_; rintro e w1 ⟨rfl, hb⟩; obtain ⟨hc, hf⟩ := bcell hb; have hz := hb.size; simp only [World.size_alloc, World.size_drew] at hc hf hz))
  go_wp2
  refine bodyPost_ret (v := .tuple #[tokV k 0 0 0 X, .int .i64 (n : Nat), .int .i64 0]) (by simp [results, Try.results22, go_sem, hc]) rfl ⟨rfl, ?_⟩
  have hb' := (by go_grown : Below w.heap.size w _).trans (hb.mono (by simp))
  go_grown

set_option maxHeartbeats 1000000 in
theorem tok_name_g (s X : ByteArray) (w : World) (h0 : 0 < s.size) (hs : s.size ≤ 100000) (n k : Nat) (hn : n ≤ s.size) (hX : s.extract 0 n = X)
    (H25 : Hid (Bool1 30 s[0] false)) (H26 : Hid (Bool1 31 s[0] true))
    (H16 : Hid (∀ w, Calls Try.prog 20 #[.string s, .func (.func 32) #[] #[]] w fun e w' => e = .returned (.int .i64 (n : Nat)) ∧ w = w'))
    (H29 : Hid (∀ w, Calls Try.prog 34 #[.string X] w fun e w' => e = .returned (.int .u8 (k : Nat)) ∧ w = w'))
    (H28 : Hid (∀ w, Calls Try.prog 33 #[.int .u8 (k : Nat), .string X] w fun e w' => e = .returned (tokV k 0 0 0 X) ∧ Below w.heap.size w w')) :
    Calls Try.prog 22 #[.string s] w fun x w' => x = .returned (.tuple #[tokV k 0 0 0 X, .int .i64 (n : Nat), .int .i64 0]) ∧ Below w.heap.size w w' := by
  have hne := not_nil s h0
  go_enter Try.func22, Try.ntmps22
  go_wp2_with fail
  refine (H25.out _).mono ?_
  rintro e w' ⟨rfl, rfl⟩
  go_wp2_with fail
  refine (H26.out _).mono ?_
  rintro e w' ⟨rfl, rfl⟩
  go_wp2_with fail
  refine (H16.out _).mono ?_
  rintro e w' ⟨rfl, rfl⟩
  go_wp2_with fail
  go_region_with (first
    | (go_at_call 34; refine (H29.out _).mono ?_; rintro e w' ⟨rfl, rfl⟩)
    | (go_at_call 33; refine (H28.out _).mono ?_; rintro e w1 ⟨rfl, hb⟩; obtain ⟨hc, hf⟩ := bcell hb; have hz := hb.size; simp only [World.size_alloc, World.size_drew] at hc hf hz))
  go_wp2
  refine bodyPost_ret (v := .tuple #[tokV k 0 0 0 X, .int .i64 (n : Nat), .int .i64 0]) (by simp [results, Try.results22, go_sem, hc]) rfl ⟨rfl, ?_⟩
  have hb' := (by go_grown : Below w.heap.size w _).trans (hb.mono (by simp))
  go_grown

set_option maxHeartbeats 1000000 in
theorem tok_number (s T : ByteArray) (w : World) (h0 : 0 < s.size) (k n : Nat) (m e : Int)
    (H25 : Hid (Bool1 30 s[0] false)) (H26 : Hid (Bool1 31 s[0] false)) (H30 : Hid (Bool1 35 s[0] true))
    (H : Hid (∀ w, Calls Try.prog 36 #[.string s] w fun x w' => x = .returned (.tuple #[tokV k 0 0 m T, .int .i64 (n : Nat), .int .i64 e]) ∧ Below w.heap.size w w')) :
    Calls Try.prog 22 #[.string s] w fun x w' => x = .returned (.tuple #[tokV k 0 0 m T, .int .i64 (n : Nat), .int .i64 e]) ∧ Below w.heap.size w w' := by
  have hne := not_nil s h0
  go_enter Try.func22, Try.ntmps22
  go_wp2_with fail
  refine (H25.out _).mono ?_
  rintro e w' ⟨rfl, rfl⟩
  go_wp2_with fail
  refine (H26.out _).mono ?_
  rintro e w' ⟨rfl, rfl⟩
  go_wp2_with fail
  refine (H30.out _).mono ?_
  rintro e w' ⟨rfl, rfl⟩
  go_wp2_with fail
  refine (H.out _).mono ?_
  rintro _ w1 ⟨rfl, hb⟩
  obtain ⟨hc, hf⟩ := bcell hb
  have hz := hb.size
  simp only [World.size_alloc] at hc hf hz
  go_wp2
  refine bodyPost_ret (v := .tuple #[tokV k 0 0 m T, .int .i64 (n : Nat), .int .i64 e]) (by simp [results, Try.results22, go_sem, hc]) rfl ⟨rfl, ?_⟩
  have hb' := (by go_grown : Below w.heap.size w _).trans (hb.mono (by simp))
  go_grown

set_option maxHeartbeats 1000000 in
theorem tok_literal (s T : ByteArray) (w : World) (h0 : 0 < s.size) (k n : Nat) (m e : Int)
    (e34 : ((s[0].toNat : Int) == 34) = true) (H25 : Hid (Bool1 30 s[0] false)) (H26 : Hid (Bool1 31 s[0] false)) (H30 : Hid (Bool1 35 s[0] false))
    (H : Hid (∀ w, Calls Try.prog 37 #[.string s] w fun x w' => x = .returned (.tuple #[tokV k 0 0 m T, .int .i64 (n : Nat), .int .i64 e]) ∧ Below w.heap.size w w')) :
    Calls Try.prog 22 #[.string s] w fun x w' => x = .returned (.tuple #[tokV k 0 0 m T, .int .i64 (n : Nat), .int .i64 e]) ∧ Below w.heap.size w w' := by
  have hne := not_nil s h0
  go_enter Try.func22, Try.ntmps22
  go_wp2_with fail
  refine (H25.out _).mono ?_
  rintro e w' ⟨rfl, rfl⟩
  go_wp2_with fail
  refine (H26.out _).mono ?_
  rintro e w' ⟨rfl, rfl⟩
  go_wp2_with fail
  refine (H30.out _).mono ?_
  rintro e w' ⟨rfl, rfl⟩
  go_wp2_with fail
  refine (H.out _).mono ?_
  rintro _ w1 ⟨rfl, hb⟩
  obtain ⟨hc, hf⟩ := bcell hb
  have hz := hb.size
  simp only [World.size_alloc] at hc hf hz
  go_wp2
  refine bodyPost_ret (v := .tuple #[tokV k 0 0 m T, .int .i64 (n : Nat), .int .i64 e]) (by simp [results, Try.results22, go_sem, hc]) rfl ⟨rfl, ?_⟩
  have hb' := (by go_grown : Below w.heap.size w _).trans (hb.mono (by simp))
  go_grown

set_option maxHeartbeats 1000000 in
theorem tok_none (s : ByteArray) (w : World) (h0 : 0 < s.size) (e34 : ((s[0].toNat : Int) == 34) = false) (H25 : Hid (Bool1 30 s[0] false)) (H26 : Hid (Bool1 31 s[0] false)) (H30 : Hid (Bool1 35 s[0] false))
    (H33 : Hid (∀ w, Calls Try.prog 38 #[.string s] w fun e w' => e = .returned (.int .i64 ((0 : Nat) : Int)) ∧ w = w')) :
    Calls Try.prog 22 #[.string s] w fun x w' => x = .returned (badV 4) ∧ Below w.heap.size w w' := by
  have hne := not_nil s h0
  go_enter Try.func22, Try.ntmps22
  go_wp2_with fail
  refine (H25.out _).mono ?_
  rintro e w' ⟨rfl, rfl⟩
  go_wp2_with fail
  refine (H26.out _).mono ?_
  rintro e w' ⟨rfl, rfl⟩
  go_wp2_with fail
  refine (H30.out _).mono ?_
  rintro e w' ⟨rfl, rfl⟩
  go_wp2_with fail
  refine (H33.out _).mono ?_
  rintro e w' ⟨rfl, rfl⟩
  go_wp2
  refine bodyPost_ret (v := badV 4) (by simp [results, Try.results22, go_sem]) rfl ⟨rfl, ?_⟩
  go_grown

set_option maxHeartbeats 1000000 in
theorem tok_sign (s X : ByteArray) (w : World) (h0 : 0 < s.size) (n : Nat) (hn0 : ((n : Int) == 0) = false) (hn : n ≤ s.size) (hs : s.size ≤ 100000) (hX : s.extract 0 n = X) (e34 : ((s[0].toNat : Int) == 34) = false) (H25 : Hid (Bool1 30 s[0] false)) (H26 : Hid (Bool1 31 s[0] false)) (H30 : Hid (Bool1 35 s[0] false))
    (H33 : Hid (∀ w, Calls Try.prog 38 #[.string s] w fun e w' => e = .returned (.int .i64 (n : Nat)) ∧ w = w'))
    (H28 : Hid (∀ w, Calls Try.prog 33 #[.int .u8 7, .string X] w fun e w' => e = .returned (tokV 7 0 0 0 X) ∧ Below w.heap.size w w')) :
    Calls Try.prog 22 #[.string s] w fun x w' => x = .returned (.tuple #[tokV 7 0 0 0 X, .int .i64 (n : Nat), .int .i64 0]) ∧ Below w.heap.size w w' := by
  have hne := not_nil s h0
  go_enter Try.func22, Try.ntmps22
  go_wp2_with fail
  refine (H25.out _).mono ?_
  rintro e w' ⟨rfl, rfl⟩
  go_wp2_with fail
  refine (H26.out _).mono ?_
  rintro e w' ⟨rfl, rfl⟩
  go_wp2_with fail
  refine (H30.out _).mono ?_
  rintro e w' ⟨rfl, rfl⟩
  go_wp2_with fail
  refine (H33.out _).mono ?_
  rintro e w' ⟨rfl, rfl⟩
  go_wp2_with fail
  refine (H28.out _).mono ?_
  rintro _ w1 ⟨rfl, hb⟩
  obtain ⟨hc, hf⟩ := bcell hb
  have hz := hb.size
  simp only [World.size_alloc] at hc hf hz
  go_wp2
  refine bodyPost_ret (v := .tuple #[tokV 7 0 0 0 X, .int .i64 (n : Nat), .int .i64 0]) (by simp [results, Try.results22, go_sem, hc]) rfl ⟨rfl, ?_⟩
  have hb' := (by go_grown : Below w.heap.size w _).trans (hb.mono (by simp))
  go_grown

theorem sgn_le (l : List UInt8) (hl : l ≠ []) : sgn l ≤ l.length := by
  unfold sgn
  split
  · rename_i h5
    have h6 : ∀ x ∈ twos, x.length = 2 := by decide
    have := h6 _ h5
    rw [List.length_take] at this; omega
  · split
    · cases l with
      | nil => exact absurd rfl hl
      | cons => simp
    · omega

theorem bs_take (s : ByteArray) (n : Nat) : bs (s.data.toList.take n) = s.extract 0 n := by rw [← ext_take, bs_eta]

theorem token_any (s : ByteArray) (w : World) (hs : s.size ≤ 100000) (h0 : 0 < s.size) :
    Calls Try.prog 22 #[.string s] w fun x w' => x = .returned (oneV (one s.data.toList)) ∧ Below w.heap.size w w' := by
  have hl : s.data.toList ≠ [] := fun e => by have := size_list s; rw [e] at this; simp at this; omega
  have hhd := head_list s h0
  have hrl : runL nam s.data.toList ≤ s.size := by rw [← size_list]; exact runL_le _ _
  have hsl : sgn s.data.toList ≤ s.size := by rw [← size_list]; exact sgn_le _ hl
  have H16 := Lib.hid (fun w => run_nam_at s (by omega) _ rfl w)
  have name : (sml s[0] || grt s[0]) = true → 1 ≤ runL nam s.data.toList := fun h => runL_pos (by rw [hhd]; unfold nam; rw [h]; rfl) hl
  have H29 : (sml s[0] || grt s[0]) = true → ∀ w, Calls Try.prog 34 #[.string (s.extract 0 (runL nam s.data.toList))] w fun e w' => e = .returned (.int .u8 (namK s.data.toList : Nat)) ∧ w = w' := fun h w => by
    have hx : 0 < (s.extract 0 (runL nam s.data.toList)).size := by rw [ext_take_size s _ hrl]; exact name h
    refine kindName_any _ w hx _ (Lib.hid ?_)
    rw [ext_take, namK, hhd]
    have e0 : (s.extract 0 (runL nam s.data.toList))[0] = s[0] := by
      have h1 := head_list _ hx
      rw [ext_take] at h1
      rw [← h1, ← hhd]
      have h2 := name h
      cases hc : s.data.toList with
      | nil => exact absurd hc hl
      | cons c t =>
        rw [hc] at h2
        rw [show runL nam (c :: t) = (runL nam (c :: t) - 1) + 1 by omega, List.take_succ_cons]; rfl
    rw [e0]
  have hX := ext_take_size s _ hrl
  unfold one
  rw [hhd]
  cases h1 : sml s[0] with
  | true =>
    rw [h1] at H29
    rw [if_pos (by simp)]; dsimp only [oneV]; rw [bs_take]
    exact tok_name_s s _ w h0 hs _ _ hrl rfl (Lib.hid fun w => small_at h1 w) H16 (Lib.hid (H29 (by simp))) (Lib.hid fun w => text_any _ _ w (by omega))
  | false =>
    have H25 : Hid (Bool1 30 s[0] false) := Lib.hid fun w => small_at h1 w
    cases h2 : grt s[0] with
    | true =>
      rw [h2] at H29
      rw [if_pos (by simp)]; dsimp only [oneV]; rw [bs_take]
      exact tok_name_g s _ w h0 hs _ _ hrl rfl H25 (Lib.hid fun w => great_at h2 w) H16 (Lib.hid (H29 (by simp))) (Lib.hid fun w => text_any _ _ w (by omega))
    | false =>
      have H26 : Hid (Bool1 31 s[0] false) := Lib.hid fun w => great_at h2 w
      rw [if_neg (by simp)]
      cases h3 : dgt s[0] with
      | true =>
        rw [if_pos rfl]
        exact tok_number s _ w h0 _ _ _ _ H25 H26 (Lib.hid fun w => digit_at h3 w) (Lib.hid fun w => number_lex s w hs h0 h3)
      | false =>
        have H30 : Hid (Bool1 35 s[0] false) := Lib.hid fun w => digit_at h3 w
        rw [if_neg (by simp)]
        by_cases h34 : s[0] = 34
        · rw [if_pos h34]
          exact tok_literal s _ w h0 _ _ _ _ (by rw [h34]; rfl) H25 H26 H30 (Lib.hid fun w => literal_lex s w hs)
        · rw [if_neg h34]
          have e34 : ((s[0].toNat : Int) == 34) = false := byte_ne (n := 34) (by decide) h34
          unfold sgnOne
          by_cases hn : sgn s.data.toList = 0
          · rw [if_pos hn]
            exact tok_none s w h0 e34 H25 H26 H30 (Lib.hid fun w => signSize_at s h0 0 hn w)
          · rw [if_neg hn]; dsimp only [oneV]; rw [bs_take]
            exact tok_sign s _ w h0 _ (by rw [beq_eq_false_iff_ne]; omega) hsl hs rfl e34 H25 H26 H30 (Lib.hid fun w => signSize_any s w h0) (Lib.hid fun w => text_any 7 _ w (by rw [ext_take_size s _ hsl]; omega))

end Go.Proofs.Ytbknflaooemigaa
