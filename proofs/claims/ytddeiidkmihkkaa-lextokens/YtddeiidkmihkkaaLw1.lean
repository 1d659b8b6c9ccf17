/-
  The walks of LexTokens out of its callees' contracts. Conditions: those contracts.
-/
import Derived.Test.YtddeiidkmihkkaaLw0
import Derived.Test.YtddeiidkmihkkaaRts
namespace Go.Proofs.Ytddeiidkmihkkaa
open Go.RowKit Go.Sort
set_option linter.unusedVariables false

set_option maxHeartbeats 400000 in
theorem tokens_law_long (s : ByteArray) (w : World) (h : (3000 : Int) < s.size) (H0 : Hid AwakeC) : Calls Try.prog 3 #[.string s] w fun e w' => e = .returned (.bool true) ∧ Below w.heap.size w w' := by
  go_enter Try.func3, Try.ntmps3
  go_wp2_with fail
  refine (H0.out _).mono ?_
  rintro e w1 ⟨rfl, hb⟩
  go_wp2
  go_ret
  exact ⟨rfl, hb⟩

set_option maxHeartbeats 1000000 in
theorem tokens_law (s : ByteArray) (w : World) (h : ¬ (3000 : Int) < s.size) (L : List Tok) (hL : L.length ≤ 100000000) (a b c : Int) (H0 : Hid AwakeC)
    (H9 : Hid (∀ w, Calls Try.prog 9 #[.string s] w (RetP w L a b c))) (H10 : Hid (∀ w, Calls Try.prog 10 #[.string s] w (RetP w L a b c)))
    (hq : ∀ w, (binOp .eql 26 (.agg #[.int .i64 a, .int .i64 b, .int .i64 c]) (.agg #[.int .i64 a, .int .i64 b, .int .i64 c])).run Try.prog w = .ok (.bool true) w)
    (hgd : ∀ (op : BinOp) (x y : Operand) (A B : Array Value) (w : World), (eqGuard op 26 x y (.agg A) (.agg B)).run Try.prog w = .ok () w) :
    Calls Try.prog 3 #[.string s] w fun e w' => e = .returned (.bool true) ∧ Below w.heap.size w w' := by
  replace hL := Lib.hid hL
  go_enter Try.func3, Try.ntmps3
  go_wp2_with fail
  refine (H9.out _).mono ?_
  rintro _ w1 ⟨v1, rfl, ho1, hb1⟩
  replace ho1 := Lib.hid ho1
  replace hb1 := Lib.hid hb1
  go_wp2_with fail
  refine (H10.out _).mono ?_
  rintro _ w2 ⟨v2, rfl, ho2, hb2⟩
  obtain ⟨c0, c1, c2⟩ := fau3 hb2
  have hA := ownT_carry (ownT_carry (ownT_carry ho1.out (below_alloc w1 (FauO a b c))) hb2) (below_alloc w2 (FauO a b c))
  have hB := ownT_carry ho2 (below_alloc w2 (FauO a b c))
  have hS := Lib.hid (same_true hA hB hL.out)
  have d0 := Lib.hid (cell_alloc c0 (FauO a b c))
  have d1 := Lib.hid (cell_alloc c1 (FauO a b c))
  have d2 := Lib.hid (cell_alloc c2 (FauO a b c))
  have e0 := Lib.hid (show (w2.alloc (FauO a b c)).cell? ⟨w2.heap.size, 0, none⟩ = some (.int .i64 a) by simp [go_sem])
  have e1 := Lib.hid (show (w2.alloc (FauO a b c)).cell? ⟨w2.heap.size, 1, none⟩ = some (.int .i64 b) by simp [go_sem])
  have e2 := Lib.hid (show (w2.alloc (FauO a b c)).cell? ⟨w2.heap.size, 2, none⟩ = some (.int .i64 c) by simp [go_sem])
  replace hb2 := Lib.hid (below_step (below_step (below_step hb1.out (below_alloc _ _)) hb2) (below_alloc w2 (FauO a b c)))
  clear ho1 hb1 H9 H10 hA hB ho2 c0 c1 c2
  go_wp2_with fail
  refine hS.out.mono ?_
  rintro _ w3 ⟨rfl, hb3⟩
  have f0 := cell_carry hb3 d0.out
  have f1 := cell_carry hb3 d1.out
  have f2 := cell_carry hb3 d2.out
  have g0 := cell_carry hb3 e0.out
  have g1 := cell_carry hb3 e1.out
  have g2 := cell_carry hb3 e2.out
  have hb4 := Lib.hid (below_step hb2.out hb3)
  clear hS d0 d1 d2 e0 e1 e2 hb3 hb2
  go_wp2_with fail
  refine (H0.out _).mono ?_
  rintro e w5 ⟨rfl, hb5⟩
  replace hb5 := Lib.hid (below_step hb4.out hb5)
  go_wp2
  go_ret
  exact ⟨rfl, hb5.out⟩

theorem toks_len : ∀ n (l : List UInt8), l.length ≤ n → ∀ a b, (tokR (toks l a b)).length ≤ l.length + 1 := by
  intro n
  induction n with
  | zero =>
    intro l hl a b
    obtain rfl : l = [] := List.eq_nil_of_length_eq_zero (by omega)
    rw [toks_nil]; simp [tokR]
  | succ n ih =>
    intro l hl a b
    cases l with
    | nil => rw [toks_nil]; simp [tokR]
    | cons c t =>
      simp only [List.length_cons] at hl ⊢
      by_cases hg : isGap c
      · rcases hg with rfl | rfl | rfl | rfl | rfl
        · rw [toks_lf]; have := ih t (by omega) (a + 1) 1; omega
        · rw [toks_blank _ _ _ _ (.inl rfl)]; have := ih t (by omega) a (b + 1); omega
        · rw [toks_blank _ _ _ _ (.inr (.inl rfl))]; have := ih t (by omega) a (b + 1); omega
        · rw [toks_blank _ _ _ _ (.inr (.inr rfl))]; have := ih t (by omega) a (b + 1); omega
        · rw [toks_note]
          have := ih (t.drop (runL nlf t)) (by simp; omega) a (b + (runL nlf t + 1))
          rw [List.length_drop] at this; omega
      · by_cases he : (one (c :: t)).err = 0
        · have hk := one_ok (c :: t) (by simp) he
          rw [toks_tok _ _ _ _ hg he]
          have := ih ((c :: t).drop (one (c :: t)).size) (by simp at hk ⊢; omega) a (b + (one (c :: t)).size)
          rw [List.length_drop] at this
          simp only [List.length_cons] at this hk
          cases hx : toks ((c :: t).drop (one (c :: t)).size) a (b + (one (c :: t)).size) with
          | ok l => rw [hx] at this; simp [tokR, Except.map] at this ⊢; omega
          | error f => simp [tokR, Except.map]
        · rw [toks_bad _ _ _ _ hg he]; simp [tokR]

theorem ret_P {w : World} {R : Res} {e : Ending} {w' : World} (h : RetT w R e w') : RetP w (tokR R) (fauR R).1 ((fauR R).2.1 : Nat) ((fauR R).2.2 : Nat) e w' := h

theorem lexTokens_walk (s : ByteArray) (w : World) : Calls Try.prog 3 #[.string s] w fun e w' => e = .returned (.bool true) ∧ Below w.heap.size w w' := by
  by_cases hl : 3000 < s.size
  · exact tokens_law_long s w (by omega) (Lib.hid awake_any)
  · have hlen := toks_len _ s.data.toList (Nat.le_refl _) 1 1
    rw [size_list] at hlen
    exact tokens_law s w (by omega) (tokR (toks s.data.toList 1 1)) (by omega) _ _ _ (Lib.hid awake_any) (Lib.hid fun w => (tokens_core s w (by omega) _ (Lib.hid rfl)).mono fun _ _ h => ret_P h)
      (Lib.hid fun w => (rtokens_core s w (by omega) _ (Lib.hid rfl)).mono fun _ _ h => ret_P h) (fun w => eql_fau _ _ _ _ _ _ true (by simp) w) guard_fau

end Go.Proofs.Ytddeiidkmihkkaa
