/-
  The walk of ParseDeep. Conditions: none.
-/
import Derived.Test.YtbknflaooemigaaDp
namespace Go.Proofs.Ytbknflaooemigaa
open Go.RowKit Go.Sort
set_option linter.unusedVariables false
set_option linter.unusedSimpArgs false

/-- What is answered of an expression in so many brackets. -/
theorem deep_read (k : Nat) (hk : k < 100) : (k ≤ 40 → ∃ t, readA exprP (deepT k) = ([t], (0, 0, 0)) ∧ t.kind = 26 ∧ t.col = (k : Int) + 1) ∧ (40 < k → readA exprP (deepT k) = ([], (6, 1, 41))) := by
  have h := List.all_eq_true.1 deep_all k (List.mem_range.2 hk)
  unfold deepR at h
  have hl : (deepT k).length = 2 * k + 1 := by simp [deepT]; omega
  rw [toksF_eq 300 _ _ _ (by omega)] at h
  unfold readA
  rw [if_neg (by omega)]
  cases ht : toks (deepT k) 1 1 with
  | error f => rw [ht] at h; cases h
  | ok T =>
    rw [ht] at h
    simp only at h ⊢
    cases hw : wholeP (exprP T.length) T with
    | bad c l j =>
      rw [hw] at h
      simp at h
      obtain ⟨⟨⟨h1, h2⟩, h3⟩, h4⟩ := h
      exact ⟨fun h => absurd h1 (by omega), fun _ => by simp [h2, h3, h4]⟩
    | ok F r =>
      rw [hw] at h
      cases F with
      | nil => simp at h
      | cons i a b =>
        cases a with
        | cons _ _ _ => simp at h
        | nil =>
          cases b with
          | cons _ _ _ => simp at h
          | nil =>
            simp at h
            obtain ⟨⟨⟨h1, h2⟩, h3⟩, h4⟩ := h
            exact ⟨fun _ => ⟨i.nd 0, rfl, h2, by simp [Inf.nd, h4]⟩, fun h => absurd h1 (by omega)⟩

theorem deep_succ (i : Nat) : bs (40 :: (deepT i ++ [41])) = bs (deepT (i + 1)) := by
  congr 1
  unfold deepT
  rw [List.replicate_succ, List.replicate_succ']
  simp

set_option maxHeartbeats 2000000 in
theorem deep_walk (w : World) (n k : Nat) (hn : n < 256) (hk : n % 100 = k) (hk2 : k < 100) (b : Nat) (hb : k ≤ 40 ∧ b = 1 ∨ 40 < k ∧ b = 0) (L : List Nd) (c : Int) (l j : Nat) (H : Hid (∀ w, Calls Try.prog 6 #[.string (bs (deepT k))] w (RetN w (L, (c, l, j)))))
    (hL : Hid (L.length = b)) (hgood : Hid (k ≤ 40 → c = 0 ∧ (nd L 0).kind = 26 ∧ (nd L 0).col = (k : Int) + 1)) (hbad : Hid (40 < k → c = 6 ∧ l = 1 ∧ j = 41)) :
    Calls Try.prog 4 #[.int .u8 (n : Nat)] w fun e w' => e = .returned (.bool true) ∧ Below w.heap.size w w' := by
  have hmod : (n : Int).tmod 100 = k := by rw [Int.tmod_eq_emod_of_nonneg (by omega)]; omega
  have hA := Lib.hid awake_any
  go_enter Try.func4, Try.ntmps4
  go_wp2_with fail
  go_loop [4, 5] (fun s i => ∃ m : Nat, m ≤ k ∧ i = .int .i64 m ∧ s = .string (bs (deepT m))) (fun _ i => k - (intOf i).toNat)
  case atStart => exact ⟨0, Nat.zero_le _, rfl, rfl⟩
  case round =>
    obtain ⟨m, hm, rfl, rfl⟩ := hrel
    by_cases hlt : m < k
    · obtain ⟨X, hX⟩ : ∃ X, bs (deepT m) = X := ⟨_, rfl⟩
      have hXs : X.size ≤ 1000 := by rw [← hX, bs_size]; simp [deepT]; omega
      obtain ⟨Y, hY⟩ : ∃ Y, ({ data := #[40] } : ByteArray) ++ X = Y := ⟨_, rfl⟩
      have hYs : Y.size ≤ 1001 := by rw [← hY, ByteArray.size_append]; show 1 + X.size ≤ 1001; omega
      obtain ⟨Z, hZ⟩ : ∃ Z, Y ++ ({ data := #[41] } : ByteArray) = Z := ⟨_, rfl⟩
      have r1 : ∀ w, (Op.stringOp .add ({ data := #[40] } : ByteArray) X).run Try.prog w = .ok (.string Y) w := fun w => by
        rw [run_string_add_sum w _ _ (by show 1 + X.size ≤ _; omega), hY]
      have r2 : ∀ w, (Op.stringOp .add Y ({ data := #[41] } : ByteArray)).run Try.prog w = .ok (.string Z) w := fun w => by
        rw [run_string_add_sum w _ _ (by show Y.size + 1 ≤ _; omega), hZ]
      have hZ2 : Hid (Z = bs (deepT (m + 1))) := Lib.hid (by
        rw [← hZ, ← hY, ← hX, ← deep_succ]
        apply bytes_eq
        simp [bs])
      rw [hX]
      clear hX hY hZ
      go_wp2_with fail
      go_round
      case rel => exact ⟨m + 1, hlt, by go_num, by rw [hZ2.out]⟩
      case measure => simp [intOf]; omega
    · obtain rfl : m = k := by omega
      clear hlt hm hk
      rcases hb with ⟨h40, rfl⟩ | ⟨h40, rfl⟩
      · obtain ⟨rfl, hkd, hcl⟩ := hgood.out h40
        have h40i : ¬ (40 : Int) < m := by omega
        go_wp2_with fail
        refine (H.out _).mono ?_
        rintro e w1 ⟨a, n1, cap, rfl, hn1, -, hr, -, hb1⟩
        obtain rfl : n1 = 1 := by rw [← hn1]; exact hL.out
        obtain ⟨g, o, rfl, hat⟩ := hr 0 (by rw [hn1]; decide)
        obtain ⟨t0, t1, t2, t3, t4, t5⟩ := hat
        rw [hkd] at t0
        rw [hcl] at t2
        have hgl := block_lt_of_cell t0
        replace t0 : w1.cell? ⟨g, o, none⟩ = some (.int .u8 26) := by simpa using t0
        replace t2 : w1.cell? ⟨g, o + 2, none⟩ = some (.int .i64 ((m : Int) + 1)) := by simpa using t2
        clear t1 t3 t4 t5 hr hn1 hkd hcl
        replace hb1 := Lib.hid hb1
        go_wp2_with fail
        refine (hA.out _).mono ?_
        rintro e w2 ⟨rfl, hb2⟩
        replace hb2 := Lib.hid hb2
        go_wp2_with fail
        go_ret
        exact ⟨rfl, below_step (below_step hb1.out (below_alloc _ _)) hb2.out⟩
      · obtain ⟨rfl, rfl, rfl⟩ := hbad.out h40
        have h40i : (40 : Int) < m := by omega
        have hq := fun w => eql_fau 6 1 41 6 1 41 true rfl w
        have hgd := guard_fau
        go_wp2_with fail
        refine (H.out _).mono ?_
        rintro e w1 ⟨a, n1, cap, rfl, hn1, -, -, -, hb1⟩
        obtain rfl : n1 = 0 := by rw [← hn1]; exact hL.out
        clear hn1
        replace hb1 := Lib.hid hb1
        go_wp2_with fail
        refine (hA.out _).mono ?_
        rintro e w2 ⟨rfl, hb2⟩
        replace hb2 := Lib.hid hb2
        go_wp2_with fail
        go_ret
        exact ⟨rfl, below_step (below_step hb1.out (below_alloc _ _)) hb2.out⟩

theorem parseDeep_walk (a0 : Int) (w0 : (Lit.int .u8 a0).wf = true) (w : World) : Calls Try.prog 4 #[.int .u8 a0] w fun e w' => e = .returned (.bool true) ∧ Below w.heap.size w w' := by
  have h1 : IntKind.u8.min ≤ a0 ∧ a0 ≤ IntKind.u8.max := by simpa [Lit.wf] using w0
  have h0 : 0 ≤ a0 ∧ a0 ≤ 255 := h1
  obtain ⟨n, rfl⟩ : ∃ n : Nat, a0 = n := ⟨a0.toNat, by omega⟩
  have hk : n % 100 < 100 := Nat.mod_lt _ (by omega)
  have hE := fun w => expr_any (bs (deepT (n % 100))) w
  rw [bs_list] at hE
  by_cases h40 : n % 100 ≤ 40
  · obtain ⟨t, ht, hkd, hcl⟩ := (deep_read _ hk).1 h40
    rw [ht] at hE
    exact deep_walk w n (n % 100) (by omega) rfl hk 1 (.inl ⟨h40, rfl⟩) [t] 0 0 0 (Lib.hid hE) (Lib.hid rfl) (Lib.hid fun _ => ⟨rfl, hkd, hcl⟩) (Lib.hid fun h => absurd h (by omega))
  · rw [(deep_read _ hk).2 (by omega)] at hE
    exact deep_walk w n (n % 100) (by omega) rfl hk 0 (.inr ⟨by omega, rfl⟩) [] 6 1 41 (Lib.hid hE) (Lib.hid rfl) (Lib.hid fun h => absurd h (by omega)) (Lib.hid fun _ => ⟨rfl, rfl, rfl⟩)

end Go.Proofs.Ytbknflaooemigaa
