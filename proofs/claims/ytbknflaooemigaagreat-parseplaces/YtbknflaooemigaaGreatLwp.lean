/-
  The walk of ParsePlaces. Conditions: none.
-/
import Derived.Test.YtbknflaooemigaaGreatPlx
import Derived.Test.YtbknflaooemigaaGreatAw
namespace Go.Proofs.YtbknflaooemigaaGreat
open Go.RowKit Go.Sort
set_option linter.unusedVariables false
set_option linter.unusedSimpArgs false

theorem plc_long (w : World) (s : ByteArray) (hs : 1000 < s.size) : Calls Tryz.prog 4 #[.string s] w fun e w' => e = .returned (.bool true) ∧ Below w.heap.size w w' := by
  have hA := Lib.hid awake_any
  have hi : (1000 : Int) < s.size := by omega
  go_enter Tryz.func4, Tryz.ntmps4
  go_wp2_with fail
  refine (hA.out _).mono ?_
  rintro e w2 ⟨rfl, hb2⟩
  replace hb2 := Lib.hid hb2
  go_wp2_with fail
  go_ret
  exact ⟨rfl, hb2.out⟩

theorem plc_bad (w : World) (s : ByteArray) (hs : s.size ≤ 1000) (L : List Nd) (c : Int) (l k : Nat) (hc : c ≠ 0) (hL : L.length = 0)
    (H1 : Hid (∀ w, Calls Tryz.prog 10 #[.string s] w (RetN w (L, (c, l, k))))) : Calls Tryz.prog 4 #[.string s] w fun e w' => e = .returned (.bool true) ∧ Below w.heap.size w w' := by
  have hA := Lib.hid awake_any
  have hi : ¬ (1000 : Int) < s.size := by omega
  have e0 : (c != 0) = true := by simp [hc]
  go_enter Tryz.func4, Tryz.ntmps4
  go_wp2_with fail
  refine (H1.out _).mono ?_
  rintro e w1 ⟨a, n, cap, rfl, hn, hn2, hr, -, hb1⟩
  obtain rfl : n = 0 := by rw [← hn]; exact hL
  clear hr hn
  replace hb1 := Lib.hid hb1
  go_wp2_with fail
  refine (hA.out _).mono ?_
  rintro e w2 ⟨rfl, hb2⟩
  replace hb2 := Lib.hid hb2
  go_wp2_with fail
  go_ret
  exact ⟨rfl, below_step (below_step hb1.out (below_alloc _ _)) hb2.out⟩

set_option maxRecDepth 100000 in
set_option maxHeartbeats 16000000 in
theorem plc_walk (w : World) (s : ByteArray) (hs : s.size ≤ 1000) (L : List Nd) (T : List Tok) (hE : Ends T) (hTl : T.length ≤ 65537) (hL0 : 0 < L.length) (hL : Hid (∀ i, i < L.length → There L T i))
    (H1 : Hid (∀ w, Calls Tryz.prog 10 #[.string s] w (RetN w (L, (0, 0, 0))))) (H2 : Hid (∀ w, Calls Tryz.prog 11 #[.string s] w (RetT w (.ok T)))) : Calls Tryz.prog 4 #[.string s] w fun e w' => e = .returned (.bool true) ∧ Below w.heap.size w w' := by
  have hA := Lib.hid awake_any
  have hi : ¬ (1000 : Int) < s.size := by omega
  go_enter Tryz.func4, Tryz.ntmps4
  go_wp2_with fail
  refine (H1.out _).mono ?_
  rintro e w1 ⟨a, n, cap, rfl, hn, hn2, hr, -, hb1⟩
  have hn0 : 0 < n := by rw [← hn]; exact hL0
  replace hn := Lib.hid hn
  replace hr := Lib.hid hr
  replace hb1 := Lib.hid hb1
  go_wp2_with fail
  refine (H2.out _).mono ?_
  rintro e w2 ⟨v, rfl, hown, hb2⟩
  replace hown : OwnT w2 _ v T := hown
  obtain ⟨g, tc, rfl, ht⟩ : ∃ g tc, v = .slice (some ⟨g, 0, none⟩) T.length tc ∧ Hid (∀ i t, T[i]? = some t → TAt w2 g (0 + i * 5) t) := by
    rcases hown.2 with ⟨_, h0⟩ | ⟨g, cap, cur, hv, hg, hh, hrr⟩
    · obtain ⟨t, l, rfl⟩ := hE.ne
      simp at h0
    · rw [hv] at hown
      exact ⟨g, cap, hv, Lib.hid fun i t hi => own_tat hown hi⟩
  obtain ⟨tn, htn⟩ : ∃ tn, T.length = tn := ⟨_, rfl⟩
  rw [htn] at hTl ⊢
  replace htn := Lib.hid htn
  have hr2 := Lib.hid ((hr.out.carry (below_alloc _ _)).carry hb2)
  have HB := Lib.hid (below_step (below_step hb1.out (below_alloc _ _)) hb2)
  clear hr hown hb1 hb2 H1 H2
  go_wp2_with fail
  go_loopw [7] (fun j wr => ∃ i : Nat, i ≤ n ∧ j = .int .i64 i ∧ Below w2.heap.size w2 wr) (fun j _ => n - (intOf j).toNat)
  case atStart => exact ⟨0, Nat.zero_le _, rfl, below_alloc _ _⟩
  case round =>
    obtain ⟨i, hi2, rfl, hbel⟩ := hrel
    by_cases hlt : i < n
    · obtain ⟨gb, go0, rfl, hat⟩ := (hr2.out.carry hbel) i (by rw [hn.out]; exact hlt)
      have hTh := hL.out i (by rw [hn.out]; exact hlt)
      obtain ⟨c0, c1, c2, c3, c4, c5⟩ := hat
      obtain ⟨kd, ln, cl, sz, num, tx, hN⟩ : ∃ kd ln cl s num tx, nd L i = ⟨kd, ln, cl, s, num, tx⟩ := ⟨_, _, _, _, _, _, rfl⟩
      unfold There at hTh
      rw [hN] at c0 c1 c2 hTh
      simp only at c0 c1 c2 hTh
      clear c3 c4 c5 hN
      replace hbel := Lib.hid hbel
      by_cases hi0 : i = 0
      · subst hi0
        obtain ⟨hl1, hl2⟩ := hTh.1 rfl
        simp only [Nat.zero_mul, Nat.add_zero] at c0 c1 c2
        subst hl1 hl2
        go_wp2_with fail
        go_loopw [8, 9] (fun th kk wq => ∃ (k : Nat) (b : Bool), k ≤ tn ∧ kk = .int .i64 k ∧ th = .bool b ∧ Hid (b = true ∨ ∃ (m : Nat) (t : Tok), k ≤ m ∧ T[m]? = some t ∧ (t.line : Int) = 1 ∧ (t.col : Int) = 1) ∧ Below wr.heap.size wr wq) (fun _ kk _ => tn - (intOf kk).toNat)
        case atStart => exact ⟨0, true, Nat.zero_le _, rfl, rfl, Lib.hid (.inl rfl), Below.refl _ _⟩
        case round =>
          rename_i wq
          obtain ⟨k, b, hk, rfl, rfl, hmt, hbk⟩ := hrel
          by_cases hgo : k < tn ∧ b = false
          · obtain ⟨hkt, rfl⟩ := hgo
            obtain ⟨tk, hTk⟩ : ∃ tk, T[k]? = some tk := ⟨_, List.getElem?_eq_getElem (by rw [htn.out]; exact hkt)⟩
            have hbq := below_step hbel.out hbk
            have q0 := ht.out k tk hTk
            have q := q0.of (hbq.block g (block_lt_of_cell q0.1))
            obtain ⟨x0, x1, x2, x3, x4⟩ := q
            have z1 := cell_carry hbk c1
            have z2 := cell_carry hbk c2
            obtain ⟨tl, htl⟩ : ∃ tl : Nat, tk.line = tl := ⟨_, rfl⟩
            obtain ⟨tcl, htc⟩ : ∃ tcl : Nat, tk.col = tcl := ⟨_, rfl⟩
            rw [htl, Nat.zero_add] at x1
            rw [htc, Nat.zero_add] at x2
            have hnx : Hid (¬ ((tl : Int) = 1 ∧ (tcl : Int) = 1) → ∃ (m : Nat) (t : Tok), k + 1 ≤ m ∧ T[m]? = some t ∧ (t.line : Int) = 1 ∧ (t.col : Int) = 1) := Lib.hid fun h => by
              rcases hmt.out with h0 | ⟨m, t, hm, hT, h1, h2⟩
              · cases h0
              · refine ⟨m, t, ?_, hT, h1, h2⟩
                by_cases e : m = k
                · subst e
                  rw [hTk] at hT
                  cases hT
                  exact absurd ⟨by rw [← htl]; exact h1, by rw [← htc]; exact h2⟩ h
                · omega
            replace hbk := Lib.hid hbk
            clear x0 x3 x4 q0 hTk hmt hbq htl htc
            by_cases hl1 : (tl : Int) = 1
            · by_cases hl2 : (tcl : Int) = 1
              · have f1 : ((tl : Int) == 1) = true := by rw [hl1]; simp
                have f2 : ((tcl : Int) == 1) = true := by rw [hl2]; simp
                clear hl1 hl2
                go_wp2_with fail
                go_quiet (fail)
                have hb5 := Lib.hid (below_step hbk.out (below_drewN _ nq))
                go_wp2_with fail
                go_roundw
                case rel => exact ⟨k + 1, true, hkt, by go_num, rfl, Lib.hid (.inl rfl), hb5.out⟩
                case measure => simp [intOf]; omega
              · have HN := Lib.hid (hnx.out fun h => hl2 h.2)
                have f1 : ((tl : Int) == 1) = true := by rw [hl1]; simp
                have f2 : ((tcl : Int) == 1) = false := by simp [hl2]
                clear hl1 hl2
                go_wp2_with fail
                go_quiet (fail)
                have hb5 := Lib.hid (below_step hbk.out (below_drewN _ nq))
                go_wp2_with fail
                go_roundw
                case rel => exact ⟨k + 1, false, hkt, by go_num, rfl, Lib.hid (.inr HN.out), hb5.out⟩
                case measure => simp [intOf]; omega
            · have HN := Lib.hid (hnx.out fun h => hl1 h.1)
              have f1 : ((tl : Int) == 1) = false := by simp [hl1]
              clear hl1
              go_wp2_with fail
              go_quiet (fail)
              have hb5 := Lib.hid (below_step hbk.out (below_drewN _ nq))
              go_wp2_with fail
              go_roundw
              case rel => exact ⟨k + 1, false, hkt, by go_num, rfl, Lib.hid (.inr HN.out), hb5.out⟩
              case measure => simp [intOf]; omega
          · have hb : b = true := by
              cases b with
              | true => rfl
              | false =>
                exfalso
                rcases hmt.out with h | ⟨m, t, hm, hT, _⟩
                · cases h
                · have := (List.getElem?_eq_some_iff.1 hT).1
                  rw [htn.out] at this
                  exact hgo ⟨by omega, rfl⟩
            subst hb
            have HBQ := Lib.hid (below_step hbel.out hbk)
            replace hbk := Lib.hid hbk
            clear hmt hgo hTh c0 c1 c2 hbel
            by_cases hkk : (k : Int) < tn
            · go_wp2_with fail
              go_roundw
              case rel => exact ⟨0 + 1, hlt, by go_num, HBQ.out⟩
              case measure => simp [intOf]; omega
            · go_wp2_with fail
              go_roundw
              case rel => exact ⟨0 + 1, hlt, by go_num, HBQ.out⟩
              case measure => simp [intOf]; omega
      · have e1 : ((i : Int) == 0) = false := by simp [hi0]
        have hdj := Lib.hid (hTh.2 hi0)
        have HM : Hid (¬ (kd = 14 ∧ ln = 0 ∧ cl = 0) → ∃ (m : Nat) (t : Tok), 0 ≤ m ∧ T[m]? = some t ∧ (t.line : Int) = ln ∧ (t.col : Int) = cl) := Lib.hid fun h => by
          rcases hdj.out with h1 | ⟨m, t, h1, h2, h3⟩
          · exact absurd h1 h
          · exact ⟨m, t, Nat.zero_le _, h1, h2, h3⟩
        by_cases h14 : kd = 14
        · have e2 : ((kd : Int) == 14) = true := by rw [h14]; rfl
          by_cases hl0 : ln = 0
          · have e3 : (ln == 0) = true := by rw [hl0]; rfl
            have e3b : (ln == 1) = false := by rw [hl0]; rfl
            by_cases hc0 : cl = 0
            · have e4 : (cl == 0) = true := by rw [hc0]; rfl
              clear h14 hl0 hc0 HM hdj
              go_wp2_with fail
              go_loopw [8, 9] (fun th kk wq => ∃ (k : Nat) (b : Bool), k ≤ tn ∧ kk = .int .i64 k ∧ th = .bool b ∧ Hid (b = true ∨ ∃ (m : Nat) (t : Tok), k ≤ m ∧ T[m]? = some t ∧ (t.line : Int) = ln ∧ (t.col : Int) = cl) ∧ Below wr.heap.size wr wq) (fun _ kk _ => tn - (intOf kk).toNat)
              case atStart => exact ⟨0, true, Nat.zero_le _, rfl, rfl, Lib.hid (.inl rfl), Below.refl _ _⟩
              case round =>
                rename_i wq
                obtain ⟨k, b, hk, rfl, rfl, hmt, hbk⟩ := hrel
                by_cases hgo : k < tn ∧ b = false
                · obtain ⟨hkt, rfl⟩ := hgo
                  obtain ⟨tk, hTk⟩ : ∃ tk, T[k]? = some tk := ⟨_, List.getElem?_eq_getElem (by rw [htn.out]; exact hkt)⟩
                  have hbq := below_step hbel.out hbk
                  have q0 := ht.out k tk hTk
                  have q := q0.of (hbq.block g (block_lt_of_cell q0.1))
                  obtain ⟨x0, x1, x2, x3, x4⟩ := q
                  have z1 := cell_carry hbk c1
                  have z2 := cell_carry hbk c2
                  obtain ⟨tl, htl⟩ : ∃ tl : Nat, tk.line = tl := ⟨_, rfl⟩
                  obtain ⟨tcl, htc⟩ : ∃ tcl : Nat, tk.col = tcl := ⟨_, rfl⟩
                  rw [htl, Nat.zero_add] at x1
                  rw [htc, Nat.zero_add] at x2
                  have hnx : Hid (¬ ((tl : Int) = ln ∧ (tcl : Int) = cl) → ∃ (m : Nat) (t : Tok), k + 1 ≤ m ∧ T[m]? = some t ∧ (t.line : Int) = ln ∧ (t.col : Int) = cl) := Lib.hid fun h => by
                    rcases hmt.out with h0 | ⟨m, t, hm, hT, h1, h2⟩
                    · cases h0
                    · refine ⟨m, t, ?_, hT, h1, h2⟩
                      by_cases e : m = k
                      · subst e
                        rw [hTk] at hT
                        cases hT
                        exact absurd ⟨by rw [← htl]; exact h1, by rw [← htc]; exact h2⟩ h
                      · omega
                  replace hbk := Lib.hid hbk
                  clear x0 x3 x4 q0 hTk hmt hbq htl htc
                  by_cases hl1 : (tl : Int) = ln
                  · by_cases hl2 : (tcl : Int) = cl
                    · have f1 : ((tl : Int) == ln) = true := by rw [hl1]; simp
                      have f2 : ((tcl : Int) == cl) = true := by rw [hl2]; simp
                      clear hl1 hl2
                      go_wp2_with fail
                      go_quiet (fail)
                      have hb5 := Lib.hid (below_step hbk.out (below_drewN _ nq))
                      go_wp2_with fail
                      go_roundw
                      case rel => exact ⟨k + 1, true, hkt, by go_num, rfl, Lib.hid (.inl rfl), hb5.out⟩
                      case measure => simp [intOf]; omega
                    · have HN := Lib.hid (hnx.out fun h => hl2 h.2)
                      have f1 : ((tl : Int) == ln) = true := by rw [hl1]; simp
                      have f2 : ((tcl : Int) == cl) = false := by simp [hl2]
                      clear hl1 hl2
                      go_wp2_with fail
                      go_quiet (fail)
                      have hb5 := Lib.hid (below_step hbk.out (below_drewN _ nq))
                      go_wp2_with fail
                      go_roundw
                      case rel => exact ⟨k + 1, false, hkt, by go_num, rfl, Lib.hid (.inr HN.out), hb5.out⟩
                      case measure => simp [intOf]; omega
                  · have HN := Lib.hid (hnx.out fun h => hl1 h.1)
                    have f1 : ((tl : Int) == ln) = false := by simp [hl1]
                    clear hl1
                    go_wp2_with fail
                    go_quiet (fail)
                    have hb5 := Lib.hid (below_step hbk.out (below_drewN _ nq))
                    go_wp2_with fail
                    go_roundw
                    case rel => exact ⟨k + 1, false, hkt, by go_num, rfl, Lib.hid (.inr HN.out), hb5.out⟩
                    case measure => simp [intOf]; omega
                · have hb : b = true := by
                    cases b with
                    | true => rfl
                    | false =>
                      exfalso
                      rcases hmt.out with h | ⟨m, t, hm, hT, _⟩
                      · cases h
                      · have := (List.getElem?_eq_some_iff.1 hT).1
                        rw [htn.out] at this
                        exact hgo ⟨by omega, rfl⟩
                  subst hb
                  have HBQ := Lib.hid (below_step hbel.out hbk)
                  replace hbk := Lib.hid hbk
                  clear hmt hgo hTh c0 c1 c2 hbel
                  by_cases hkk : (k : Int) < tn
                  · go_wp2_with fail
                    go_roundw
                    case rel => exact ⟨i + 1, hlt, by go_num, HBQ.out⟩
                    case measure => simp [intOf]; omega
                  · go_wp2_with fail
                    go_roundw
                    case rel => exact ⟨i + 1, hlt, by go_num, HBQ.out⟩
                    case measure => simp [intOf]; omega
            · have e4 : (cl == 0) = false := by simp [hc0]
              have HM2 := Lib.hid (HM.out fun h => hc0 h.2.2)
              clear h14 hl0 hc0 HM hdj
              go_wp2_with fail
              go_loopw [8, 9] (fun th kk wq => ∃ (k : Nat) (b : Bool), k ≤ tn ∧ kk = .int .i64 k ∧ th = .bool b ∧ Hid (b = true ∨ ∃ (m : Nat) (t : Tok), k ≤ m ∧ T[m]? = some t ∧ (t.line : Int) = ln ∧ (t.col : Int) = cl) ∧ Below wr.heap.size wr wq) (fun _ kk _ => tn - (intOf kk).toNat)
              case atStart => exact ⟨0, false, Nat.zero_le _, rfl, rfl, Lib.hid (.inr HM2.out), Below.refl _ _⟩
              case round =>
                rename_i wq
                obtain ⟨k, b, hk, rfl, rfl, hmt, hbk⟩ := hrel
                by_cases hgo : k < tn ∧ b = false
                · obtain ⟨hkt, rfl⟩ := hgo
                  obtain ⟨tk, hTk⟩ : ∃ tk, T[k]? = some tk := ⟨_, List.getElem?_eq_getElem (by rw [htn.out]; exact hkt)⟩
                  have hbq := below_step hbel.out hbk
                  have q0 := ht.out k tk hTk
                  have q := q0.of (hbq.block g (block_lt_of_cell q0.1))
                  obtain ⟨x0, x1, x2, x3, x4⟩ := q
                  have z1 := cell_carry hbk c1
                  have z2 := cell_carry hbk c2
                  obtain ⟨tl, htl⟩ : ∃ tl : Nat, tk.line = tl := ⟨_, rfl⟩
                  obtain ⟨tcl, htc⟩ : ∃ tcl : Nat, tk.col = tcl := ⟨_, rfl⟩
                  rw [htl, Nat.zero_add] at x1
                  rw [htc, Nat.zero_add] at x2
                  have hnx : Hid (¬ ((tl : Int) = ln ∧ (tcl : Int) = cl) → ∃ (m : Nat) (t : Tok), k + 1 ≤ m ∧ T[m]? = some t ∧ (t.line : Int) = ln ∧ (t.col : Int) = cl) := Lib.hid fun h => by
                    rcases hmt.out with h0 | ⟨m, t, hm, hT, h1, h2⟩
                    · cases h0
                    · refine ⟨m, t, ?_, hT, h1, h2⟩
                      by_cases e : m = k
                      · subst e
                        rw [hTk] at hT
                        cases hT
                        exact absurd ⟨by rw [← htl]; exact h1, by rw [← htc]; exact h2⟩ h
                      · omega
                  replace hbk := Lib.hid hbk
                  clear x0 x3 x4 q0 hTk hmt hbq htl htc
                  by_cases hl1 : (tl : Int) = ln
                  · by_cases hl2 : (tcl : Int) = cl
                    · have f1 : ((tl : Int) == ln) = true := by rw [hl1]; simp
                      have f2 : ((tcl : Int) == cl) = true := by rw [hl2]; simp
                      clear hl1 hl2
                      go_wp2_with fail
                      go_quiet (fail)
                      have hb5 := Lib.hid (below_step hbk.out (below_drewN _ nq))
                      go_wp2_with fail
                      go_roundw
                      case rel => exact ⟨k + 1, true, hkt, by go_num, rfl, Lib.hid (.inl rfl), hb5.out⟩
                      case measure => simp [intOf]; omega
                    · have HN := Lib.hid (hnx.out fun h => hl2 h.2)
                      have f1 : ((tl : Int) == ln) = true := by rw [hl1]; simp
                      have f2 : ((tcl : Int) == cl) = false := by simp [hl2]
                      clear hl1 hl2
                      go_wp2_with fail
                      go_quiet (fail)
                      have hb5 := Lib.hid (below_step hbk.out (below_drewN _ nq))
                      go_wp2_with fail
                      go_roundw
                      case rel => exact ⟨k + 1, false, hkt, by go_num, rfl, Lib.hid (.inr HN.out), hb5.out⟩
                      case measure => simp [intOf]; omega
                  · have HN := Lib.hid (hnx.out fun h => hl1 h.1)
                    have f1 : ((tl : Int) == ln) = false := by simp [hl1]
                    clear hl1
                    go_wp2_with fail
                    go_quiet (fail)
                    have hb5 := Lib.hid (below_step hbk.out (below_drewN _ nq))
                    go_wp2_with fail
                    go_roundw
                    case rel => exact ⟨k + 1, false, hkt, by go_num, rfl, Lib.hid (.inr HN.out), hb5.out⟩
                    case measure => simp [intOf]; omega
                · have hb : b = true := by
                    cases b with
                    | true => rfl
                    | false =>
                      exfalso
                      rcases hmt.out with h | ⟨m, t, hm, hT, _⟩
                      · cases h
                      · have := (List.getElem?_eq_some_iff.1 hT).1
                        rw [htn.out] at this
                        exact hgo ⟨by omega, rfl⟩
                  subst hb
                  have HBQ := Lib.hid (below_step hbel.out hbk)
                  replace hbk := Lib.hid hbk
                  clear hmt hgo hTh c0 c1 c2 hbel
                  by_cases hkk : (k : Int) < tn
                  · go_wp2_with fail
                    go_roundw
                    case rel => exact ⟨i + 1, hlt, by go_num, HBQ.out⟩
                    case measure => simp [intOf]; omega
                  · go_wp2_with fail
                    go_roundw
                    case rel => exact ⟨i + 1, hlt, by go_num, HBQ.out⟩
                    case measure => simp [intOf]; omega
          · have e3 : (ln == 0) = false := by simp [hl0]
            have HM2 := Lib.hid (HM.out fun h => hl0 h.2.1)
            clear h14 hl0 HM hdj
            go_wp2_with fail
            go_loopw [8, 9] (fun th kk wq => ∃ (k : Nat) (b : Bool), k ≤ tn ∧ kk = .int .i64 k ∧ th = .bool b ∧ Hid (b = true ∨ ∃ (m : Nat) (t : Tok), k ≤ m ∧ T[m]? = some t ∧ (t.line : Int) = ln ∧ (t.col : Int) = cl) ∧ Below wr.heap.size wr wq) (fun _ kk _ => tn - (intOf kk).toNat)
            case atStart => exact ⟨0, false, Nat.zero_le _, rfl, rfl, Lib.hid (.inr HM2.out), Below.refl _ _⟩
            case round =>
              rename_i wq
              obtain ⟨k, b, hk, rfl, rfl, hmt, hbk⟩ := hrel
              by_cases hgo : k < tn ∧ b = false
              · obtain ⟨hkt, rfl⟩ := hgo
                obtain ⟨tk, hTk⟩ : ∃ tk, T[k]? = some tk := ⟨_, List.getElem?_eq_getElem (by rw [htn.out]; exact hkt)⟩
                have hbq := below_step hbel.out hbk
                have q0 := ht.out k tk hTk
                have q := q0.of (hbq.block g (block_lt_of_cell q0.1))
                obtain ⟨x0, x1, x2, x3, x4⟩ := q
                have z1 := cell_carry hbk c1
                have z2 := cell_carry hbk c2
                obtain ⟨tl, htl⟩ : ∃ tl : Nat, tk.line = tl := ⟨_, rfl⟩
                obtain ⟨tcl, htc⟩ : ∃ tcl : Nat, tk.col = tcl := ⟨_, rfl⟩
                rw [htl, Nat.zero_add] at x1
                rw [htc, Nat.zero_add] at x2
                have hnx : Hid (¬ ((tl : Int) = ln ∧ (tcl : Int) = cl) → ∃ (m : Nat) (t : Tok), k + 1 ≤ m ∧ T[m]? = some t ∧ (t.line : Int) = ln ∧ (t.col : Int) = cl) := Lib.hid fun h => by
                  rcases hmt.out with h0 | ⟨m, t, hm, hT, h1, h2⟩
                  · cases h0
                  · refine ⟨m, t, ?_, hT, h1, h2⟩
                    by_cases e : m = k
                    · subst e
                      rw [hTk] at hT
                      cases hT
                      exact absurd ⟨by rw [← htl]; exact h1, by rw [← htc]; exact h2⟩ h
                    · omega
                replace hbk := Lib.hid hbk
                clear x0 x3 x4 q0 hTk hmt hbq htl htc
                by_cases hl1 : (tl : Int) = ln
                · by_cases hl2 : (tcl : Int) = cl
                  · have f1 : ((tl : Int) == ln) = true := by rw [hl1]; simp
                    have f2 : ((tcl : Int) == cl) = true := by rw [hl2]; simp
                    clear hl1 hl2
                    go_wp2_with fail
                    go_quiet (fail)
                    have hb5 := Lib.hid (below_step hbk.out (below_drewN _ nq))
                    go_wp2_with fail
                    go_roundw
                    case rel => exact ⟨k + 1, true, hkt, by go_num, rfl, Lib.hid (.inl rfl), hb5.out⟩
                    case measure => simp [intOf]; omega
                  · have HN := Lib.hid (hnx.out fun h => hl2 h.2)
                    have f1 : ((tl : Int) == ln) = true := by rw [hl1]; simp
                    have f2 : ((tcl : Int) == cl) = false := by simp [hl2]
                    clear hl1 hl2
                    go_wp2_with fail
                    go_quiet (fail)
                    have hb5 := Lib.hid (below_step hbk.out (below_drewN _ nq))
                    go_wp2_with fail
                    go_roundw
                    case rel => exact ⟨k + 1, false, hkt, by go_num, rfl, Lib.hid (.inr HN.out), hb5.out⟩
                    case measure => simp [intOf]; omega
                · have HN := Lib.hid (hnx.out fun h => hl1 h.1)
                  have f1 : ((tl : Int) == ln) = false := by simp [hl1]
                  clear hl1
                  go_wp2_with fail
                  go_quiet (fail)
                  have hb5 := Lib.hid (below_step hbk.out (below_drewN _ nq))
                  go_wp2_with fail
                  go_roundw
                  case rel => exact ⟨k + 1, false, hkt, by go_num, rfl, Lib.hid (.inr HN.out), hb5.out⟩
                  case measure => simp [intOf]; omega
              · have hb : b = true := by
                  cases b with
                  | true => rfl
                  | false =>
                    exfalso
                    rcases hmt.out with h | ⟨m, t, hm, hT, _⟩
                    · cases h
                    · have := (List.getElem?_eq_some_iff.1 hT).1
                      rw [htn.out] at this
                      exact hgo ⟨by omega, rfl⟩
                subst hb
                have HBQ := Lib.hid (below_step hbel.out hbk)
                replace hbk := Lib.hid hbk
                clear hmt hgo hTh c0 c1 c2 hbel
                by_cases hkk : (k : Int) < tn
                · go_wp2_with fail
                  go_roundw
                  case rel => exact ⟨i + 1, hlt, by go_num, HBQ.out⟩
                  case measure => simp [intOf]; omega
                · go_wp2_with fail
                  go_roundw
                  case rel => exact ⟨i + 1, hlt, by go_num, HBQ.out⟩
                  case measure => simp [intOf]; omega
        · have e2 : ((kd : Int) == 14) = false := by simp; omega
          have HM2 := Lib.hid (HM.out fun h => h14 h.1)
          clear h14 HM hdj
          go_wp2_with fail
          go_loopw [8, 9] (fun th kk wq => ∃ (k : Nat) (b : Bool), k ≤ tn ∧ kk = .int .i64 k ∧ th = .bool b ∧ Hid (b = true ∨ ∃ (m : Nat) (t : Tok), k ≤ m ∧ T[m]? = some t ∧ (t.line : Int) = ln ∧ (t.col : Int) = cl) ∧ Below wr.heap.size wr wq) (fun _ kk _ => tn - (intOf kk).toNat)
          case atStart => exact ⟨0, false, Nat.zero_le _, rfl, rfl, Lib.hid (.inr HM2.out), Below.refl _ _⟩
          case round =>
            rename_i wq
            obtain ⟨k, b, hk, rfl, rfl, hmt, hbk⟩ := hrel
            by_cases hgo : k < tn ∧ b = false
            · obtain ⟨hkt, rfl⟩ := hgo
              obtain ⟨tk, hTk⟩ : ∃ tk, T[k]? = some tk := ⟨_, List.getElem?_eq_getElem (by rw [htn.out]; exact hkt)⟩
              have hbq := below_step hbel.out hbk
              have q0 := ht.out k tk hTk
              have q := q0.of (hbq.block g (block_lt_of_cell q0.1))
              obtain ⟨x0, x1, x2, x3, x4⟩ := q
              have z1 := cell_carry hbk c1
              have z2 := cell_carry hbk c2
              obtain ⟨tl, htl⟩ : ∃ tl : Nat, tk.line = tl := ⟨_, rfl⟩
              obtain ⟨tcl, htc⟩ : ∃ tcl : Nat, tk.col = tcl := ⟨_, rfl⟩
              rw [htl, Nat.zero_add] at x1
              rw [htc, Nat.zero_add] at x2
              have hnx : Hid (¬ ((tl : Int) = ln ∧ (tcl : Int) = cl) → ∃ (m : Nat) (t : Tok), k + 1 ≤ m ∧ T[m]? = some t ∧ (t.line : Int) = ln ∧ (t.col : Int) = cl) := Lib.hid fun h => by
                rcases hmt.out with h0 | ⟨m, t, hm, hT, h1, h2⟩
                · cases h0
                · refine ⟨m, t, ?_, hT, h1, h2⟩
                  by_cases e : m = k
                  · subst e
                    rw [hTk] at hT
                    cases hT
                    exact absurd ⟨by rw [← htl]; exact h1, by rw [← htc]; exact h2⟩ h
                  · omega
              replace hbk := Lib.hid hbk
              clear x0 x3 x4 q0 hTk hmt hbq htl htc
              by_cases hl1 : (tl : Int) = ln
              · by_cases hl2 : (tcl : Int) = cl
                · have f1 : ((tl : Int) == ln) = true := by rw [hl1]; simp
                  have f2 : ((tcl : Int) == cl) = true := by rw [hl2]; simp
                  clear hl1 hl2
                  go_wp2_with fail
                  go_quiet (fail)
                  have hb5 := Lib.hid (below_step hbk.out (below_drewN _ nq))
                  go_wp2_with fail
                  go_roundw
                  case rel => exact ⟨k + 1, true, hkt, by go_num, rfl, Lib.hid (.inl rfl), hb5.out⟩
                  case measure => simp [intOf]; omega
                · have HN := Lib.hid (hnx.out fun h => hl2 h.2)
                  have f1 : ((tl : Int) == ln) = true := by rw [hl1]; simp
                  have f2 : ((tcl : Int) == cl) = false := by simp [hl2]
                  clear hl1 hl2
                  go_wp2_with fail
                  go_quiet (fail)
                  have hb5 := Lib.hid (below_step hbk.out (below_drewN _ nq))
                  go_wp2_with fail
                  go_roundw
                  case rel => exact ⟨k + 1, false, hkt, by go_num, rfl, Lib.hid (.inr HN.out), hb5.out⟩
                  case measure => simp [intOf]; omega
              · have HN := Lib.hid (hnx.out fun h => hl1 h.1)
                have f1 : ((tl : Int) == ln) = false := by simp [hl1]
                clear hl1
                go_wp2_with fail
                go_quiet (fail)
                have hb5 := Lib.hid (below_step hbk.out (below_drewN _ nq))
                go_wp2_with fail
                go_roundw
                case rel => exact ⟨k + 1, false, hkt, by go_num, rfl, Lib.hid (.inr HN.out), hb5.out⟩
                case measure => simp [intOf]; omega
            · have hb : b = true := by
                cases b with
                | true => rfl
                | false =>
                  exfalso
                  rcases hmt.out with h | ⟨m, t, hm, hT, _⟩
                  · cases h
                  · have := (List.getElem?_eq_some_iff.1 hT).1
                    rw [htn.out] at this
                    exact hgo ⟨by omega, rfl⟩
              subst hb
              have HBQ := Lib.hid (below_step hbel.out hbk)
              replace hbk := Lib.hid hbk
              clear hmt hgo hTh c0 c1 c2 hbel
              by_cases hkk : (k : Int) < tn
              · go_wp2_with fail
                go_roundw
                case rel => exact ⟨i + 1, hlt, by go_num, HBQ.out⟩
                case measure => simp [intOf]; omega
              · go_wp2_with fail
                go_roundw
                case rel => exact ⟨i + 1, hlt, by go_num, HBQ.out⟩
                case measure => simp [intOf]; omega
    · obtain rfl : i = n := by omega
      have HBL := Lib.hid (below_step HB.out hbel)
      clear hbel hlt hi2
      have hn0i : (0 : Int) < i := by omega
      go_wp2_with fail
      refine (hA.out _).mono ?_
      rintro e w3 ⟨rfl, hb3⟩
      replace hb3 := Lib.hid hb3
      go_wp2_with fail
      go_ret
      exact ⟨rfl, below_step HBL.out hb3.out⟩

end Go.Proofs.YtbknflaooemigaaGreat
