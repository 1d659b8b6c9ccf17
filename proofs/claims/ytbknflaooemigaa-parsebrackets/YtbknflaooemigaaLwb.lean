/-
  The walk of ParseBrackets. Conditions: none.
-/
import Derived.Test.YtbknflaooemigaaCod
import Derived.Test.YtbknflaooemigaaAw
namespace Go.Proofs.Ytbknflaooemigaa
open Go.RowKit Go.Sort
set_option linter.unusedVariables false
set_option linter.unusedSimpArgs false

theorem expr_of (p : Nat → Pt) (hW : Whole 10 p) (s : ByteArray) (w : World) : Calls Try.prog 6 #[.string s] w (RetN w (readA p s.data.toList)) := by
  have H := Lib.hid (fun w => read_any s w 10 p hW)
  obtain ⟨⟨L, c, l, k⟩, hq⟩ : ∃ q, readA p s.data.toList = q := ⟨_, rfl⟩
  rw [hq] at H ⊢
  clear hq hW
  go_enter Try.func6, Try.ntmps6
  go_wp2_with fail
  refine (H.out _).mono ?_
  rintro e w1 ⟨a, n, cap, rfl, hn, hn2, hr, hg, hb⟩
  obtain ⟨z0, z1, z2, zf, hz⟩ := zfau hb
  have hz' : w.heap.size < w1.heap.size := by omega
  have HB := Lib.hid (below_step (below_alloc _ _) hb)
  replace hr := Lib.hid hr
  replace hn := Lib.hid hn
  replace hg := Lib.hid hg
  clear hb
  go_wp2_with fail
  refine bodyPost_ret (v := .tuple #[.slice a n cap, fV (c, l, k)]) (by simp [results, Try.results6, go_sem, z0, z1, z2]) rfl ⟨a, n, cap, rfl, hn.out, hn2, fun i hi => ?_, fun g o e => (by have := hg.out g o e; simp at this; omega), ?_⟩
  · obtain ⟨g, o, rfl, hat⟩ := hr.out i hi
    have hgg := hg.out g o rfl
    simp at hgg
    refine ⟨g, o, rfl, hat.of_block ?_⟩
    rw [Below.heap_setCell _ _ _ _ (by simp; omega), Below.heap_setCell _ _ _ _ (by simp; omega), Below.heap_setCell _ _ _ _ (by simp; omega)]
  · have hbb := HB.out
    clear HB hg hr
    go_grown

theorem bra_long (w : World) (s : ByteArray) (hs : 1000 < s.size) : Calls Try.prog 3 #[.string s] w fun e w' => e = .returned (.bool true) ∧ Below w.heap.size w w' := by
  have hA := Lib.hid awake_any
  have hi : (1000 : Int) < s.size := by omega
  go_enter Try.func3, Try.ntmps3
  go_wp2_with fail
  refine (hA.out _).mono ?_
  rintro e w2 ⟨rfl, hb2⟩
  replace hb2 := Lib.hid hb2
  go_wp2_with fail
  go_ret
  exact ⟨rfl, hb2.out⟩

set_option maxHeartbeats 2000000 in
theorem bra_walk (w : World) (s : ByteArray) (hs : s.size ≤ 1000) (Z : ByteArray) (hZ : Hid (∃ Y, ({ data := #[40] } : ByteArray) ++ s = Y ∧ Y ++ ({ data := #[10, 41] } : ByteArray) = Z)) (L : List Nd) (c : Int) (l k : Nat) (M : List Nd) (c' : Int) (l' k' : Nat)
    (H1 : Hid (∀ w, Calls Try.prog 6 #[.string s] w (RetN w (L, (c, l, k))))) (H2 : Hid (∀ w, Calls Try.prog 6 #[.string Z] w (RetN w (M, (c', l', k')))))
    (hbad : Hid (c' ≠ 0 → M.length = 0)) (hgood : Hid (c = 0 → c' ≠ 6 → c' = 0 ∧ sameB L M = true)) :
    Calls Try.prog 3 #[.string s] w fun e w' => e = .returned (.bool true) ∧ Below w.heap.size w w' := by
  have hA := Lib.hid awake_any
  have hi : ¬ (1000 : Int) < s.size := by omega
  obtain ⟨Y, hY, hZ2⟩ := hZ.out
  have hYs : Y.size ≤ 1001 := by rw [← hY, ByteArray.size_append]; show 1 + s.size ≤ 1001; omega
  have r1 : ∀ w, (Op.stringOp .add ({ data := #[40] } : ByteArray) s).run Try.prog w = .ok (.string Y) w := fun w => by
    rw [run_string_add_sum w _ _ (by show 1 + s.size ≤ _; omega), hY]
  have r2 : ∀ w, (Op.stringOp .add Y ({ data := #[10, 41] } : ByteArray)).run Try.prog w = .ok (.string Z) w := fun w => by
    rw [run_string_add_sum w _ _ (by show Y.size + 2 ≤ _; omega), hZ2]
  clear hY hZ2 hZ
  go_enter Try.func3, Try.ntmps3
  go_wp2_with fail
  refine (H1.out _).mono ?_
  rintro e w1 ⟨a, n, cap, rfl, hn, hn2, hr, -, hb1⟩
  replace hn := Lib.hid hn
  replace hr := Lib.hid hr
  replace hb1 := Lib.hid hb1
  go_wp2_with fail
  refine (H2.out _).mono ?_
  rintro e w2 ⟨a', n', cap', rfl, hn', hn2', hr', -, hb2⟩
  have q0 : w2.cell? ⟨w1.heap.size, 0, none⟩ = some (.int .i64 c) := cell_carry hb2 (by simp [go_sem])
  have q1 := cell_alloc q0 (FauO c' l' k')
  replace hn' := Lib.hid hn'
  replace hr' := Lib.hid hr'
  replace hb2 := Lib.hid hb2
  clear H1 H2 r1 r2
  by_cases h6 : c' = 6 ∨ c' = 3
  · have h0 : M.length = 0 := hbad.out (by rcases h6 with rfl | rfl <;> decide)
    obtain rfl : n' = 0 := by rw [← hn'.out]; exact h0
    clear hbad hgood h0
    rcases h6 with rfl | rfl
    · go_wp2_with fail
      refine (hA.out _).mono ?_
      rintro e w3 ⟨rfl, hb3⟩
      replace hb3 := Lib.hid hb3
      go_wp2_with fail
      go_ret
      exact ⟨rfl, below_step (below_step (below_step (below_step hb1.out (below_alloc _ _)) hb2.out) (below_alloc _ _)) hb3.out⟩
    · go_wp2_with fail
      refine (hA.out _).mono ?_
      rintro e w3 ⟨rfl, hb3⟩
      replace hb3 := Lib.hid hb3
      go_wp2_with fail
      go_ret
      exact ⟨rfl, below_step (below_step (below_step (below_step hb1.out (below_alloc _ _)) hb2.out) (below_alloc _ _)) hb3.out⟩
  · have h6' : ¬ c' = 6 := fun h => h6 (.inl h)
    have h3' : ¬ c' = 3 := fun h => h6 (.inr h)
    clear h6
    by_cases h0 : c = 0
    · obtain ⟨rfl, hS⟩ := hgood.out h0 h6'
      subst h0
      replace hS := Lib.hid hS
      clear hbad hgood h6' h3'
      go_wp2_with fail
      refine (rsame_any a n cap L a' n' cap' M _ hn hn' (by omega) (by omega) (Lib.hid ?_) (Lib.hid ?_) true hS).mono ?_
      · exact ((hr.out.carry (below_alloc _ _)).carry hb2.out).carry (below_alloc _ _)
      · exact hr'.out.carry (below_alloc _ _)
      rintro e w3 ⟨rfl, hb3⟩
      replace hb3 := Lib.hid hb3
      go_wp2_with fail
      refine (hA.out _).mono ?_
      rintro e w4 ⟨rfl, hb4⟩
      replace hb4 := Lib.hid hb4
      go_wp2_with fail
      go_ret
      exact ⟨rfl, below_step (below_step (below_step (below_step (below_step hb1.out (below_alloc _ _)) hb2.out) (below_alloc _ _)) hb3.out) hb4.out⟩
    · clear hbad hgood
      have e6 : (c' == 6) = false := by simp [h6']
      have e3 : (c' == 3) = false := by simp [h3']
      have e0 : (c != 0) = true := by simp [h0]
      go_wp2_with fail
      refine (hA.out _).mono ?_
      rintro e w3 ⟨rfl, hb3⟩
      replace hb3 := Lib.hid hb3
      go_wp2_with fail
      go_ret
      exact ⟨rfl, below_step (below_step (below_step (below_step hb1.out (below_alloc _ _)) hb2.out) (below_alloc _ _)) hb3.out⟩

theorem parseBrackets_walk (a0 : ByteArray) (w : World) : Calls Try.prog 3 #[.string a0] w fun e w' => e = .returned (.bool true) ∧ Below w.heap.size w w' := by
  by_cases hs : 1000 < a0.size
  · exact bra_long w a0 hs
  · obtain ⟨K, hK⟩ : ∃ K : Nat, 500000 = K := ⟨_, rfl⟩
    obtain ⟨⟨L, c, l, k⟩, e1⟩ : ∃ q, readA (fun _ => exprP K) a0.data.toList = q := ⟨_, rfl⟩
    obtain ⟨⟨M, c', l', k'⟩, e2⟩ : ∃ q, readA (fun _ => exprP (K + 1)) (40 :: (a0.data.toList ++ [10, 41])) = q := ⟨_, rfl⟩
    have H1 := fun w => expr_of _ (whole_at K (by omega)) a0 w
    have H2 := fun w => expr_of _ (whole_at (K + 1) (by omega)) (bs (40 :: (a0.data.toList ++ [10, 41]))) w
    rw [bs_list, e2] at H2
    rw [e1] at H1
    have h1 := brackets K a0.data.toList (by rw [← size_list] at hs; omega)
    have h2 := readA_bad (p := fun _ => exprP (K + 1)) (s := 40 :: (a0.data.toList ++ [10, 41]))
    rw [e1, e2] at h1
    rw [e2] at h2
    refine bra_walk w a0 (by omega) _ (Lib.hid ⟨_, rfl, ?_⟩) L c l k M c' l' k' (Lib.hid H1) (Lib.hid H2) (Lib.hid fun h => by have := h2 h; simp only at this; rw [this]; rfl) (Lib.hid fun h h' => h1 h h')
    apply bytes_eq
    simp [bs]

end Go.Proofs.Ytbknflaooemigaa
