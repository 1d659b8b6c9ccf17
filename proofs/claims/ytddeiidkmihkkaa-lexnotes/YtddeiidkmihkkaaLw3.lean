/-
  The walk of LexNotes out of its callees' contracts. Conditions: those contracts.
-/
import Derived.Test.YtddeiidkmihkkaaLw0
import Derived.Test.YtddeiidkmihkkaaNts
namespace Go.Proofs.Ytddeiidkmihkkaa
open Go.RowKit Go.Sort
set_option linter.unusedVariables false

theorem both_list (s t : ByteArray) : (s ++ t).data.toList = s.data.toList ++ t.data.toList := by
  have h := bs_app s.data.toList t.data.toList
  rw [bs_eta, bs_eta] at h
  rw [h, bs_list]

set_option maxHeartbeats 400000 in
theorem notes_long1 (s note : ByteArray) (w : World) (h : (1000 : Int) < s.size) (H0 : Hid AwakeC) : Calls Try.prog 5 #[.string s, .string note] w fun e w' => e = .returned (.bool true) ∧ Below w.heap.size w w' := by
  go_enter Try.func5, Try.ntmps5
  go_wp2_with fail
  refine (H0.out _).mono ?_
  rintro e w1 ⟨rfl, hb⟩
  go_wp2
  go_ret
  exact ⟨rfl, hb⟩

set_option maxHeartbeats 400000 in
theorem notes_long2 (s note : ByteArray) (w : World) (h : ¬ (1000 : Int) < s.size) (h2 : (30 : Int) < note.size) (H0 : Hid AwakeC) : Calls Try.prog 5 #[.string s, .string note] w fun e w' => e = .returned (.bool true) ∧ Below w.heap.size w w' := by
  go_enter Try.func5, Try.ntmps5
  go_wp2_with fail
  refine (H0.out _).mono ?_
  rintro e w1 ⟨rfl, hb⟩
  go_wp2
  go_ret
  exact ⟨rfl, hb⟩

def NoLF (note : ByteArray) : Prop := ∀ c ∈ note.data.toList, c ≠ 10
def TextOf (s note : ByteArray) : List UInt8 := 32 :: 9 :: (trL note.data.toList s.data.toList ++ 32 :: 35 :: note.data.toList)

theorem mem_at {s : ByteArray} {c : UInt8} (h : c ∈ s.data.toList) : ∃ (j : Nat) (hj : j < s.size), s[j] = c := by
  obtain ⟨j, hj, he⟩ := List.getElem_of_mem h
  exact ⟨j, by rw [size_list] at hj; exact hj, he⟩

set_option maxHeartbeats 4000000 in
set_option maxRecDepth 100000 in
theorem notes_core (s note : ByteArray) (w : World) (h : ¬ (1000 : Int) < s.size) (h2 : ¬ (30 : Int) < note.size) (L : List Tok) (hL : Hid (L.length ≤ 100000000)) (a b c : Int) (H0 : Hid AwakeC)
    (H9 : Hid (∀ w, Calls Try.prog 9 #[.string s] w (RetP w L a b c)))
    (hR : ((a != 0) = true ∧ L = []) ∨ ((a != 0) = false ∧ (NoLF note → ∃ M : List Tok, AlikeL L M ∧ ∀ X : ByteArray, X.data.toList = TextOf s note → ∀ w, Calls Try.prog 9 #[.string X] w (RetP w M 0 0 0)))) :
    Calls Try.prog 5 #[.string s, .string note] w fun e w' => e = .returned (.bool true) ∧ Below w.heap.size w w' := by
  obtain ⟨A1, hA1⟩ : ∃ A : ByteArray, ({ data := #[32, 35] } : ByteArray) ++ note = A := ⟨_, rfl⟩
  obtain ⟨A2, hA2⟩ : ∃ A : ByteArray, A1 ++ ({ data := #[10, 32, 9] } : ByteArray) = A := ⟨_, rfl⟩
  have hA1l : A1.data.toList = 32 :: 35 :: note.data.toList := by rw [← hA1, both_list]; rfl
  have hA2l : A2.data.toList = 32 :: 35 :: (note.data.toList ++ [10, 32, 9]) := by rw [← hA2, both_list, hA1l]; rfl
  have hA1s : A1.size = note.size + 2 := by rw [← size_list, hA1l]; simp
  have hA2s : A2.size = note.size + 5 := by rw [← size_list, hA2l]; simp
  have r1 : ∀ w, (Op.stringOp .add ({ data := #[32, 35] } : ByteArray) note).run Try.prog w = .ok (.string A1) w := fun w => by
    rw [run_string_add_sum w _ _ (by show 2 + note.size ≤ _; omega), hA1]
  have r2 : ∀ w, (Op.stringOp .add A1 ({ data := #[10, 32, 9] } : ByteArray)).run Try.prog w = .ok (.string A2) w := fun w => by
    rw [run_string_add_sum w _ _ (by show A1.size + 3 ≤ _; omega), hA2]
  replace hA2l := Lib.hid hA2l
  clear hA1 hA2 hA1l hA1s
  go_enter Try.func5, Try.ntmps5
  go_wp2
  go_loop [5] (fun v => ∃ k : Nat, k ≤ note.size ∧ v = .int .i64 (k : Nat) ∧ ∀ j (hj : j < note.size), j < k → note[j] ≠ 10) (fun v => note.size - (intOf v).toNat)
  case atStart => exact ⟨0, Nat.zero_le _, rfl, fun j hj h => by omega⟩
  case round =>
    obtain ⟨k, hk, rfl, hno⟩ := hrel
    by_cases hlt : k < note.size
    · by_cases h10 : note[k] = 10
      · have e10 : ((note[k].toNat : Int) == 10) = true := by rw [h10]; rfl
        clear hno h10 hR r1 r2
        go_wp2_with fail
        refine (H0.out _).mono ?_
        rintro e w1 ⟨rfl, hb⟩
        go_wp2
        go_ret
        exact ⟨rfl, hb⟩
      · have e10 : ((note[k].toNat : Int) == 10) = false := byte_ne (n := 10) (by decide) h10
        have hno2 := Lib.hid (show ∀ j (hj : j < note.size), j < k + 1 → note[j] ≠ 10 from fun j hj hjk => by
          by_cases hje : j = k
          · subst hje; exact h10
          · exact hno j hj (by omega))
        clear hno h10 hR r1 r2
        go_wp2
        go_round
        case rel => exact ⟨k + 1, hlt, by go_num, hno2.out⟩
        case measure => simp [intOf]; omega
    · have hlt2 : ¬ (k : Int) < note.size := by omega
      have hNo := Lib.hid (show NoLF note from fun c hc => by
        obtain ⟨j, hj, rfl⟩ := mem_at hc
        exact hno j hj (by omega))
      clear hno
      go_wp2
      go_loop [6, 7] (fun u v => ∃ (k : Nat) (t : ByteArray), k ≤ s.size ∧ u = .string t ∧ v = .int .i64 (k : Nat) ∧ t.data.toList = 32 :: 9 :: trL note.data.toList (s.data.toList.take k)) (fun _ v => s.size - (intOf v).toNat)
      case atStart => exact ⟨0, _, Nat.zero_le _, rfl, rfl, rfl⟩
      case round =>
        obtain ⟨i, t, hi, rfl, rfl, ht⟩ := hrel
        have hts : t.size ≤ 36000 := by
          rw [← size_list, ht]
          have := trL_len note.data.toList (s.data.toList.take i)
          rw [List.length_take, size_list, size_list, Nat.min_eq_left hi] at this
          have h3 : i * (note.size + 5) ≤ 1000 * 35 := Nat.mul_le_mul (by omega) (by omega)
          simp only [List.length_cons]; omega
        by_cases hlt3 : i < s.size
        · have htk := take_snoc s i hlt3
          by_cases h10 : s[i] = 10
          · have e10 : ((s[i].toNat : Int) == 10) = true := by rw [h10]; rfl
            obtain ⟨t2, ht2⟩ : ∃ t2, t ++ A2 = t2 := ⟨_, rfl⟩
            have r3 : ∀ w, (Op.stringOp .add t A2).run Try.prog w = .ok (.string t2) w := fun w => by
              rw [run_string_add_sum w _ _ (by omega), ht2]
            have hl2 := Lib.hid (show t2.data.toList = 32 :: 9 :: trL note.data.toList (s.data.toList.take (i + 1)) by
              rw [← ht2, both_list, ht, hA2l.out, htk, trL_app, h10, trL_lf]; simp [trL])
            clear hR ht h10 htk ht2
            go_wp2
            go_round
            case rel => exact ⟨i + 1, t2, hlt3, rfl, by go_num, hl2.out⟩
            case measure => simp [intOf]; omega
          · have e10 : ((s[i].toNat : Int) == 10) = false := byte_ne (n := 10) (by decide) h10
            obtain ⟨i1, hi1⟩ : ∃ i1, i + 1 = i1 := ⟨_, rfl⟩
            obtain ⟨x, hx⟩ : ∃ x, s.extract i i1 = x := ⟨_, rfl⟩
            have hxl : x.data.toList = [s[i]] := by rw [← hx, ext_list, drop_cons s i hlt3, ← hi1]; simp
            have hxs : x.size = 1 := by rw [← size_list, hxl]; rfl
            obtain ⟨t2, ht2⟩ : ∃ t2, t ++ x = t2 := ⟨_, rfl⟩
            have r3 : ∀ w, (Op.stringOp .add t x).run Try.prog w = .ok (.string t2) w := fun w => by
              rw [run_string_add_sum w _ _ (by omega), ht2]
            have hl2 := Lib.hid (show t2.data.toList = 32 :: 9 :: trL note.data.toList (s.data.toList.take i1) by
              rw [← ht2, both_list, ht, hxl, ← hi1, htk, trL_app, trL_c _ _ h10]; rfl)
            have hi2 : (i : Int) + 1 = i1 := by omega
            have hi3 : i ≤ i1 := by omega
            have hi4 : i1 ≤ s.size := by omega
            clear hR ht h10 htk ht2 hxl hxs hi1 r1 r2
            go_wp2
            go_round
            case rel => exact ⟨i1, t2, hi4, rfl, rfl, hl2.out⟩
            case measure => simp [intOf]; omega
        · have hlt4 : ¬ (i : Int) < s.size := by omega
          have hie : i = s.size := by omega
          rw [hie, List.take_of_length_le (by rw [size_list]; exact Nat.le_refl _)] at ht
          rcases hR with ⟨ha, hLn⟩ | ⟨ha, hM⟩
          · subst hLn
            clear r1 r2 ht
            go_wp2_with fail
            refine (H9.out _).mono ?_
            rintro _ w1 ⟨v1, rfl, ho1, hb1⟩
            obtain ⟨a1, cap, rfl, hc⟩ := ownT_form ho1
            replace hb1 := Lib.hid hb1
            clear hc ho1 H9
            go_wp2_with fail
            refine (H0.out _).mono ?_
            rintro e w5 ⟨rfl, hb5⟩
            have hb6 := Lib.hid (below_step (below_step hb1.out (below_alloc _ _)) hb5)
            go_wp2
            go_ret
            exact ⟨rfl, hb6.out⟩
          · obtain ⟨M, hAl, HT⟩ := hM hNo.out
            obtain ⟨t2, ht2⟩ : ∃ t2, t ++ ({ data := #[32, 35] } : ByteArray) = t2 := ⟨_, rfl⟩
            obtain ⟨X, hX⟩ : ∃ X, t2 ++ note = X := ⟨_, rfl⟩
            have ht2l : t2.data.toList = 32 :: 9 :: (trL note.data.toList s.data.toList ++ [32, 35]) := by rw [← ht2, both_list, ht]; rfl
            have ht2s : t2.size ≤ 36002 := by
              rw [← ht2, ByteArray.size_append]; show t.size + 2 ≤ _; omega
            have HX := Lib.hid (HT X (by rw [← hX, both_list, ht2l, TextOf]; simp))
            have r3 : ∀ w, (Op.stringOp .add t ({ data := #[32, 35] } : ByteArray)).run Try.prog w = .ok (.string t2) w := fun w => by
              rw [run_string_add_sum w _ _ (by show t.size + 2 ≤ _; omega), ht2]
            have r4 : ∀ w, (Op.stringOp .add t2 note).run Try.prog w = .ok (.string X) w := fun w => by
              rw [run_string_add_sum w _ _ (by omega), hX]
            replace hAl := Lib.hid hAl
            clear HT ht ht2 hX ht2l r1 r2 hNo
            go_wp2_with fail
            refine (H9.out _).mono ?_
            rintro _ w1 ⟨v1, rfl, ho1, hb1⟩
            replace ho1 := Lib.hid ho1
            replace hb1 := Lib.hid hb1
            go_wp2_with fail
            refine (HX.out _).mono ?_
            rintro _ w2 ⟨v2, rfl, ho2, hb2⟩
            have hA := ownT_carry (ownT_carry (ownT_carry ho1.out (below_alloc w1 (FauO a b c))) hb2) (below_alloc w2 (FauO 0 0 0))
            have hB := ownT_carry ho2 (below_alloc w2 (FauO 0 0 0))
            have hS := Lib.hid (alike_true hA hB hAl.out hL.out)
            replace hb2 := Lib.hid (below_step (below_step (below_step hb1.out (below_alloc _ _)) hb2) (below_alloc w2 (FauO 0 0 0)))
            clear ho1 hb1 H9 HX hA hB ho2
            go_wp2_with fail
            refine hS.out.mono ?_
            rintro _ w3 ⟨rfl, hb3⟩
            have hb4 := Lib.hid (below_step hb2.out hb3)
            clear hS hb3 hb2
            go_wp2_with fail
            refine (H0.out _).mono ?_
            rintro e w5 ⟨rfl, hb5⟩
            replace hb5 := Lib.hid (below_step hb4.out hb5)
            go_wp2
            go_ret
            exact ⟨rfl, hb5.out⟩

theorem toks_code : ∀ n (l : List UInt8), l.length ≤ n → ∀ a b f, toks l a b = .error f → f.1 ≠ 0 := by
  intro n
  induction n with
  | zero =>
    intro l hl a b f h
    obtain rfl : l = [] := List.eq_nil_of_length_eq_zero (by omega)
    rw [toks_nil] at h; simp at h
  | succ n ih =>
    intro l hl a b f h
    cases l with
    | nil => rw [toks_nil] at h; simp at h
    | cons c t =>
      simp only [List.length_cons] at hl
      by_cases hg : isGap c
      · rcases hg with rfl | rfl | rfl | rfl | rfl
        · rw [toks_lf] at h; exact ih t (by omega) _ _ _ h
        · rw [toks_blank _ _ _ _ (.inl rfl)] at h; exact ih t (by omega) _ _ _ h
        · rw [toks_blank _ _ _ _ (.inr (.inl rfl))] at h; exact ih t (by omega) _ _ _ h
        · rw [toks_blank _ _ _ _ (.inr (.inr rfl))] at h; exact ih t (by omega) _ _ _ h
        · rw [toks_note] at h
          exact ih _ (by simp; omega) _ _ _ h
      · by_cases he : (one (c :: t)).err = 0
        · have hk := one_ok (c :: t) (by simp) he
          rw [toks_tok _ _ _ _ hg he] at h
          cases hx : toks ((c :: t).drop (one (c :: t)).size) a (b + (one (c :: t)).size) with
          | ok l => rw [hx] at h; simp [Except.map] at h
          | error g =>
            rw [hx] at h
            simp [Except.map] at h
            subst h
            exact ih _ (by simp at hk ⊢; omega) _ _ _ hx
        · rw [toks_bad _ _ _ _ hg he] at h
          simp at h
          rw [← h]; exact he

theorem toks_len : ∀ n (l : List UInt8), l.length ≤ n → ∀ a b, (tokR (toks l a b)).length ≤ l.length + 1 := by
  intro n
  induction n with
  | zero =>
    intro l hl a b
    obtain rfl : l = [] := List.eq_nil_of_length_eq_zero (by omega)
    rw [toks_nil]; simp [tokR]
  | succ n ih =>
    intro l hl a b
    cases l with
    | nil => rw [toks_nil]; simp [tokR]
    | cons c t =>
      simp only [List.length_cons] at hl ⊢
      by_cases hg : isGap c
      · rcases hg with rfl | rfl | rfl | rfl | rfl
        · rw [toks_lf]; have := ih t (by omega) (a + 1) 1; omega
        · rw [toks_blank _ _ _ _ (.inl rfl)]; have := ih t (by omega) a (b + 1); omega
        · rw [toks_blank _ _ _ _ (.inr (.inl rfl))]; have := ih t (by omega) a (b + 1); omega
        · rw [toks_blank _ _ _ _ (.inr (.inr rfl))]; have := ih t (by omega) a (b + 1); omega
        · rw [toks_note]
          have := ih (t.drop (runL nlf t)) (by simp; omega) a (b + (runL nlf t + 1))
          rw [List.length_drop] at this; omega
      · by_cases he : (one (c :: t)).err = 0
        · have hk := one_ok (c :: t) (by simp) he
          rw [toks_tok _ _ _ _ hg he]
          have := ih ((c :: t).drop (one (c :: t)).size) (by simp at hk ⊢; omega) a (b + (one (c :: t)).size)
          rw [List.length_drop] at this
          simp only [List.length_cons] at this hk
          cases hx : toks ((c :: t).drop (one (c :: t)).size) a (b + (one (c :: t)).size) with
          | ok l => rw [hx] at this; simp [tokR, Except.map] at this ⊢; omega
          | error f => simp [tokR, Except.map]
        · rw [toks_bad _ _ _ _ hg he]; simp [tokR]

theorem lexNotes_walk (s note : ByteArray) (w : World) : Calls Try.prog 5 #[.string s, .string note] w fun e w' => e = .returned (.bool true) ∧ Below w.heap.size w w' := by
  by_cases h1 : 1000 < s.size
  · exact notes_long1 s note w (by omega) (Lib.hid awake_any)
  by_cases h2 : 30 < note.size
  · exact notes_long2 s note w (by omega) (by omega) (Lib.hid awake_any)
  have hlen := toks_len _ s.data.toList (Nat.le_refl _) 1 1
  rw [size_list] at hlen
  have HT := fun w => tokens_core s w (by omega) _ (Lib.hid rfl)
  cases hR : toks s.data.toList 1 1 with
  | error f =>
    rw [hR] at HT
    exact notes_core s note w (by omega) (by omega) [] (Lib.hid (by simp)) _ _ _ (Lib.hid awake_any) (Lib.hid fun w => (HT w).mono fun _ _ h => retP_bad h)
      (.inl ⟨by simpa using toks_code _ _ (Nat.le_refl _) _ _ _ hR, rfl⟩)
  | ok L =>
    rw [hR] at HT hlen
    refine notes_core s note w (by omega) (by omega) L (Lib.hid (by simp [tokR] at hlen; omega)) _ _ _ (Lib.hid awake_any) (Lib.hid fun w => (HT w).mono fun _ _ h => retP_ok h) (.inr ⟨rfl, fun hno => ?_⟩)
    obtain ⟨M, hM, hA⟩ := notes_alike hno _ s.data.toList (Nat.le_refl _) 1 1 1 3 L hR
    refine ⟨M, hA, fun X hX w => ?_⟩
    refine (tokens_core X w ?_ _ (Lib.hid ?_)).mono fun _ _ h => retP_ok h
    · rw [← size_list, hX, TextOf]
      have := trL_len note.data.toList s.data.toList
      rw [size_list, size_list] at this
      have h3 : s.size * (note.size + 5) ≤ 1000 * 35 := Nat.mul_le_mul (by omega) (by omega)
      simp only [List.length_cons, List.length_append, size_list]; omega
    · rw [hX, TextOf, toks_blank _ _ _ _ (.inl rfl), toks_blank _ _ _ _ (.inr (.inl rfl))]
      exact hM

end Go.Proofs.Ytddeiidkmihkkaa
