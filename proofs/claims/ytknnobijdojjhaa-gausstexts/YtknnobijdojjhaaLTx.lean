/-
  The walk of the law GaussTexts out of its callees' contracts. Conditions: those contracts.
-/
import Derived.Test.YtknnobijdojjhaaAw
import Derived.Test.YtknnobijdojjhaaTx
namespace Go.Proofs.Ytknnobijdojjhaa
open Go.RowKit Go.Sort

set_option maxHeartbeats 2000000 in
theorem texts_core (a b x y : Int) (S : ByteArray) (w : World)
    (E1 : ∀ w, (binOp .eql 23 (cv x y) (cv x y)).run Try.prog w = .ok (.bool true) w)
    (hG : ∀ op o1 o2 a b c d w, (eqGuard op 23 o1 o2 (cv a b) (cv c d)).run Try.prog w = .ok () w)
    (H0 : Hid (∀ w, Calls Try.prog 25 #[cv a b] w fun e w' => e = .returned (.string S) ∧ Below w.heap.size w w'))
    (H1 : Hid (∀ w, Calls Try.prog 26 #[.string S] w fun e w' => e = .returned (pr x y 0) ∧ Below w.heap.size w w'))
    (H2 : Hid (∀ w, Calls Try.prog 27 #[cv a b] w fun e w' => e = .returned (.string S) ∧ Below w.heap.size w w'))
    (H3 : Hid (∀ w, Calls Try.prog 23 #[.int .i64 a, .int .i64 b] w fun e w' => e = .returned (cv x y) ∧ Below w.heap.size w w'))
    (H4 : Hid (∀ w, Calls Try.prog 18 #[] w fun e w' => e = .returned (.bool true) ∧ Below w.heap.size w w')) :
    Calls Try.prog 8 #[cv a b] w fun e w' => e = .returned (.bool true) ∧ Below w.heap.size w w' := by
  go_enter Try.func8, Try.ntmps8
  go_wp2_with fail
  refine (H0.out _).mono ?_
  rintro e w1 ⟨rfl, hb⟩
  have hB := (by go_grown : Below w.heap.size w _).trans (hb.mono (by simp))
  have g0 := cell_carry hb (b := w.heap.size) (o := 0) (v := .int .i64 a) (by simp [go_sem])
  have g1 := cell_carry hb (b := w.heap.size) (o := 1) (v := .int .i64 b) (by simp [go_sem])
  clear hb
  go_wp2_with fail
  refine (H1.out _).mono ?_
  rintro e w2 ⟨rfl, hb⟩
  replace hB := below_step hB hb
  replace g0 := cell_carry hb g0
  replace g1 := cell_carry hb g1
  clear hb
  go_wp2_with fail
  obtain ⟨W, hW⟩ : ∃ W, W = (w2.alloc (Obj.cells #[Value.int IntKind.i64 x, Value.int IntKind.i64 y] 23)) := ⟨_, rfl⟩
  replace hB : Below w.heap.size w W := by rw [hW]; have hz := hB.size; go_grown
  rw [← hW]
  have k0 := fun D os => cell_regrown (w := W) (a := ⟨w.heap.size, 0, none⟩) (v := .int .i64 a) (by rw [hW]; exact cell_alloc g0 _) D os
  have k1 := fun D os => cell_regrown (w := W) (a := ⟨w.heap.size, 1, none⟩) (v := .int .i64 b) (by rw [hW]; exact cell_alloc g1 _) D os
  have k2 := fun D os => cell_regrown (w := W) (a := ⟨w2.heap.size, 0, none⟩) (v := .int .i64 x) (by rw [hW]; simp [go_sem]) D os
  have k3 := fun D os => cell_regrown (w := W) (a := ⟨w2.heap.size, 1, none⟩) (v := .int .i64 y) (by rw [hW]; simp [go_sem]) D os
  clear hW g0 g1
  have c2 : ∀ D os, Calls Try.prog 27 #[cv a b] (grow (redrawn W D) os) fun e w'' => e = .returned (.string S) ∧ ∃ p : Regrown, w'' = grow (redrawn W p.d) p.os := fun D os => Calls.regrown_of (H2.out _)
  have c3 : ∀ D os, Calls Try.prog 23 #[.int .i64 a, .int .i64 b] (grow (redrawn W D) os) fun e w'' => e = .returned (cv x y) ∧ ∃ p : Regrown, w'' = grow (redrawn W p.d) p.os := fun D os => Calls.regrown_of (H3.out _)
  have c4 : ∀ D os, Calls Try.prog 18 #[] (grow (redrawn W D) os) fun e w'' => e = .returned (.bool true) ∧ ∃ p : Regrown, w'' = grow (redrawn W p.d) p.os := fun D os => Calls.regrown_of (H4.out _)
  refine wp_region_quiet_below (by kernel_rfl) (by kernel_rfl) ?_
  repeat (quiet_step (first | with_reducible exact c2 _ _ | with_reducible exact c3 _ _ | with_reducible exact c4 _ _))
  refine wpQuiet_nil ?_
  rintro _ ⟨⟨dq, osq⟩, rfl⟩
  have hb := below_regrown W dq osq
  generalize grow (redrawn W dq) osq = w' at *
  go_wp2
  go_ret
  exact ⟨rfl, below_step hB hb⟩

theorem head_dec (n : Nat) : (dec n).headD 0 ≠ 45 := dec_head_ne n
theorem text_good (x : Int) (h0 : -9223372036854775808 ≤ x) (h1 : x ≤ 9223372036854775807) : good (textL x) = true :=
  parseE_good (by rw [(parse_text x h0 h1).2]; decide)
theorem gtext_split (x y : Int) : Split (gtext x y) (textL x) (textL y) := by
  unfold gtext Split
  by_cases hy : y < 0
  · left
    refine ⟨dec y.natAbs, by unfold textL; rw [if_pos hy], ?_⟩
    rw [if_pos hy, List.append_nil]
    show _ = textL x ++ 45 :: dec y.natAbs ++ [105]
    congr 2
    unfold textL; rw [if_pos hy]
  · right
    refine ⟨by unfold textL; rw [if_neg hy]; exact dec_head_ne _, ?_⟩
    rw [if_neg hy]; simp
theorem gtext_spec (x y : Int) (hx : -8388608 ≤ x ∧ x ≤ 8388607) (hy : -8388608 ≤ y ∧ y ≤ 8388607) : Spec (gtext x y) (x, y, 0) := by
  have px := parse_text x (by omega) (by omega)
  have py := parse_text y (by omega) (by omega)
  refine .inl ⟨textL x, textL y, gtext_split x y, text_good x (by omega) (by omega), text_good y (by omega) (by omega), ?_⟩
  unfold comb
  rw [px.1, px.2, py.1, py.2, r24_in hx.1 hx.2, r24_in hy.1 hy.2]; simp
theorem gtext_len (x y : Int) (hx : -8388608 ≤ x ∧ x ≤ 8388607) (hy : -8388608 ≤ y ∧ y ≤ 8388607) : (gtext x y).length ≤ 100 := by
  have h1 := textL_len x hx
  have h2 := textL_len y hy
  unfold gtext
  split <;> simp <;> omega
/-- What is read has just this text. -/
theorem spec_text {l : List UInt8} {x y : Int} (h : Spec l (x, y, 0)) : gtext x y = l ∧ (-8388608 ≤ x ∧ x ≤ 8388607) ∧ (-8388608 ≤ y ∧ y ≤ 8388607) := by
  rcases h with ⟨a, b, h1, h2, h3, h4⟩ | ⟨_, h⟩
  · unfold comb at h4
    split at h4
    · simp at h4
    · split at h4
      · simp at h4
      · rename_i n1 n2
        simp only [Prod.mk.injEq] at h4
        obtain ⟨rfl, rfl, _⟩ := h4
        have ea : parseE a = 0 := Decidable.byContradiction fun h => n2 (.inl h)
        have eb : parseE b = 0 := Decidable.byContradiction fun h => n2 (.inr (.inl h))
        have ra : parseN a = r24 (parseN a) := Decidable.byContradiction fun h => n2 (.inr (.inr (.inl h)))
        have rb : parseN b = r24 (parseN b) := Decidable.byContradiction fun h => n2 (.inr (.inr (.inr h)))
        have ta := text_parse a ea
        have tb := text_parse b eb
        refine ⟨?_, by rw [ra]; exact r24_lo _, by rw [rb]; exact r24_lo _⟩
        unfold gtext
        rw [ta, tb]
        rcases h1 with ⟨w, hb, hl⟩ | ⟨hb, hl⟩
        · have : parseN b < 0 := Decidable.byContradiction fun hn => by
            unfold textL at tb
            rw [if_neg hn] at tb
            have := dec_head_ne (parseN b).natAbs
            rw [tb, hb] at this
            exact this rfl
          rw [if_pos this, hl, hb]; simp
        · have : ¬ parseN b < 0 := fun hn => by
            unfold textL at tb
            rw [if_pos hn] at tb
            rw [← tb] at hb
            exact hb rfl
          rw [if_neg this, hl]; simp
  · simp at h

end Go.Proofs.Ytknnobijdojjhaa
