/-
  Contract of awake: the document's examples of layer 4. Conditions: none.
-/
import Derived.Test.YtddeiidkmihkkaaTks
import Derived.Test.YtddeiidkmihkkaaEq
namespace Go.Proofs.Ytddeiidkmihkkaa
open Go.RowKit Go.Sort
set_option linter.unusedVariables false

theorem aw_x1 (t : List UInt8) : one (120 :: 49 :: 32 :: t) = ⟨0, 2, 1, 0, [120, 49]⟩ := rfl
theorem aw_le (t : List UInt8) : one (60 :: 61 :: 32 :: t) = ⟨0, 2, 7, 0, [60, 61]⟩ := rfl
theorem aw_3i (t : List UInt8) : one (51 :: 105 :: 32 :: t) = ⟨0, 2, 4, 3, []⟩ := rfl
theorem aw_12a : one [49, 50, 97] = bad 4 := rfl

abbrev awL : List Tok := [⟨1, 1, 1, 0, [120, 49]⟩, ⟨7, 1, 4, 0, [60, 61]⟩, ⟨4, 1, 7, 3, []⟩, ⟨8, 1, 16, 0, []⟩]

theorem aw_toks : toks [120, 49, 32, 60, 61, 32, 51, 105, 32, 35, 32, 110, 111, 116, 101] 1 1 = .ok awL := by
  rw [toks_tok _ _ _ _ (by unfold isGap; decide) (by rw [aw_x1]), aw_x1]
  simp only [List.drop_succ_cons, List.drop_zero]
  rw [toks_blank _ _ _ _ (.inl rfl), toks_tok _ _ _ _ (by unfold isGap; decide) (by rw [aw_le]), aw_le]
  simp only [List.drop_succ_cons, List.drop_zero]
  rw [toks_blank _ _ _ _ (.inl rfl), toks_tok _ _ _ _ (by unfold isGap; decide) (by rw [aw_3i]), aw_3i]
  simp only [List.drop_succ_cons, List.drop_zero]
  rw [toks_blank _ _ _ _ (.inl rfl), toks_note]
  have h : runL nlf [32, 110, 111, 116, 101] = 5 := by decide
  rw [h]
  simp only [List.drop_succ_cons, List.drop_zero]
  rw [toks_nil]
  rfl

theorem aw_bad : toks [49, 50, 97] 1 1 = .error (4, 1, 1) := by
  rw [toks_bad _ _ _ _ (by unfold isGap; decide) (by rw [aw_12a]; decide), aw_12a]
  rfl

theorem ownT_lit {w : World} {B : Nat} (l : List Tok) (cs : Array Value) (h : cs.toList = rowT l) (hB : B ≤ w.heap.size) (n : Nat) (hn : l.length = n) (hn2 : n ≤ 100) : OwnT (w.alloc (.cells cs 33)) B (.slice (some ⟨w.heap.size, 0, none⟩) n n) l := by
  subst hn
  have := World.ownsRow_lit (base := B) (e := 33) (size := 5) w cs l.length hB (by unfold maxLen; omega) (by rw [← Array.length_toList, h, rowT_len])
  rw [h] at this
  exact this

abbrev FauO (a b c : Int) : Obj := Obj.cells #[Value.int IntKind.i64 a, Value.int IntKind.i64 b, Value.int IntKind.i64 c] 26
theorem fau3 {w w' : World} {a b c : Int} (h : Below (w.alloc (FauO a b c)).heap.size (w.alloc (FauO a b c)) w') : w'.cell? ⟨w.heap.size, 0, none⟩ = some (.int .i64 a) ∧ w'.cell? ⟨w.heap.size, 1, none⟩ = some (.int .i64 b) ∧ w'.cell? ⟨w.heap.size, 2, none⟩ = some (.int .i64 c) := by
  refine ⟨?_, ?_, ?_⟩
  · rw [(bcell h).1 _ _ (by simp)]; simp [go_sem]
  · rw [(bcell h).1 _ _ (by simp)]; simp [go_sem]
  · rw [(bcell h).1 _ _ (by simp)]; simp [go_sem]

/-- What Tokens answers, said plainly. -/
abbrev RetP (w : World) (l : List Tok) (a b c : Int) (e : Ending) (w' : World) : Prop := ∃ v, e = .returned (.tuple #[v, .agg #[.int .i64 a, .int .i64 b, .int .i64 c]]) ∧ OwnT w' w.heap.size v l ∧ Below w.heap.size w w'
theorem retP_ok {w : World} {l : List Tok} {e : Ending} {w' : World} (h : RetT w (.ok l) e w') : RetP w l 0 0 0 e w' := h
theorem retP_bad {w : World} {f : Int × Nat × Nat} {e : Ending} {w' : World} (h : RetT w (.error f) e w') : RetP w [] f.1 (f.2.1 : Nat) (f.2.2 : Nat) e w' := h

set_option maxHeartbeats 400000 in
theorem awake_core (w : World) (L : List Tok) (hL : Hid (L = awL)) (H1 : Hid (∀ w, Calls Try.prog 9 #[.string { data := #[120, 49, 32, 60, 61, 32, 51, 105, 32, 35, 32, 110, 111, 116, 101] }] w (RetP w L 0 0 0)))
    (H2 : Hid (∀ w, Calls Try.prog 9 #[.string { data := #[49, 50, 97] }] w (RetP w [] 4 1 1)))
    (hq : ∀ w, (binOp .eql 26 (.agg #[.int .i64 4, .int .i64 1, .int .i64 1]) (.agg #[.int .i64 4, .int .i64 1, .int .i64 1])).run Try.prog w = .ok (.bool true) w)
    (hgd : ∀ (op : BinOp) (x y : Operand) (A B : Array Value) (w : World), (eqGuard op 26 x y (.agg A) (.agg B)).run Try.prog w = .ok () w) :
    Calls Try.prog 8 #[] w fun e w' => e = .returned (.bool true) ∧ Below w.heap.size w w' := by
  go_enter Try.func8, Try.ntmps8
  go_wp2_with fail
  refine (H1.out _).mono ?_
  rintro _ w1 ⟨v1, rfl, ho1, hb1⟩
  replace ho1 := Lib.hid ho1
  replace hb1 := Lib.hid hb1
  go_wp2_with fail
  refine (H2.out _).mono ?_
  rintro _ w2 ⟨v2, rfl, -, hb2⟩
  obtain ⟨c0, -, -⟩ := fau3 hb2
  have d0 := fun O O' => cell_alloc (cell_alloc c0 O) O'
  have ho2 := Lib.hid (ownT_carry (ownT_carry ho1.out (below_alloc w1 _)) hb2)
  replace hb2 := Lib.hid (below_step (below_step hb1.out (below_alloc _ _)) hb2)
  clear ho1 hb1 H1 H2
  have hS : Calls Try.prog 11 #[v1, .slice (some ⟨w2.heap.size + 1, 0, none⟩) 4 4] ((w2.alloc (FauO 4 1 1)).alloc (Obj.cells #[Value.int IntKind.u8 1, Value.int IntKind.i64 1, Value.int IntKind.i64 1, Value.int IntKind.i64 0, Value.string { data := #[120, 49] }, Value.int IntKind.u8 7, Value.int IntKind.i64 1, Value.int IntKind.i64 4, Value.int IntKind.i64 0, Value.string { data := #[60, 61] }, Value.int IntKind.u8 4, Value.int IntKind.i64 1, Value.int IntKind.i64 7, Value.int IntKind.i64 3, Value.string { data := #[] }, Value.int IntKind.u8 8, Value.int IntKind.i64 1, Value.int IntKind.i64 16, Value.int IntKind.i64 0, Value.string { data := #[] }] 33)) fun e w' => e = .returned (.bool true) ∧ Below ((w2.alloc (FauO 4 1 1)).alloc (Obj.cells #[Value.int IntKind.u8 1, Value.int IntKind.i64 1, Value.int IntKind.i64 1, Value.int IntKind.i64 0, Value.string { data := #[120, 49] }, Value.int IntKind.u8 7, Value.int IntKind.i64 1, Value.int IntKind.i64 4, Value.int IntKind.i64 0, Value.string { data := #[60, 61] }, Value.int IntKind.u8 4, Value.int IntKind.i64 1, Value.int IntKind.i64 7, Value.int IntKind.i64 3, Value.string { data := #[] }, Value.int IntKind.u8 8, Value.int IntKind.i64 1, Value.int IntKind.i64 16, Value.int IntKind.i64 0, Value.string { data := #[] }] 33)).heap.size ((w2.alloc (FauO 4 1 1)).alloc (Obj.cells #[Value.int IntKind.u8 1, Value.int IntKind.i64 1, Value.int IntKind.i64 1, Value.int IntKind.i64 0, Value.string { data := #[120, 49] }, Value.int IntKind.u8 7, Value.int IntKind.i64 1, Value.int IntKind.i64 4, Value.int IntKind.i64 0, Value.string { data := #[60, 61] }, Value.int IntKind.u8 4, Value.int IntKind.i64 1, Value.int IntKind.i64 7, Value.int IntKind.i64 3, Value.string { data := #[] }, Value.int IntKind.u8 8, Value.int IntKind.i64 1, Value.int IntKind.i64 16, Value.int IntKind.i64 0, Value.string { data := #[] }] 33)) w' := by
    have hA := ownT_carry (ownT_carry ho2.out (below_alloc w2 (FauO 4 1 1))) (below_alloc (w2.alloc (FauO 4 1 1)) (Obj.cells #[Value.int IntKind.u8 1, Value.int IntKind.i64 1, Value.int IntKind.i64 1, Value.int IntKind.i64 0, Value.string { data := #[120, 49] }, Value.int IntKind.u8 7, Value.int IntKind.i64 1, Value.int IntKind.i64 4, Value.int IntKind.i64 0, Value.string { data := #[60, 61] }, Value.int IntKind.u8 4, Value.int IntKind.i64 1, Value.int IntKind.i64 7, Value.int IntKind.i64 3, Value.string { data := #[] }, Value.int IntKind.u8 8, Value.int IntKind.i64 1, Value.int IntKind.i64 16, Value.int IntKind.i64 0, Value.string { data := #[] }] 33))
    have hB := ownT_lit (w := w2.alloc (FauO 4 1 1)) (B := 0) awL #[Value.int IntKind.u8 1, Value.int IntKind.i64 1, Value.int IntKind.i64 1, Value.int IntKind.i64 0, Value.string { data := #[120, 49] }, Value.int IntKind.u8 7, Value.int IntKind.i64 1, Value.int IntKind.i64 4, Value.int IntKind.i64 0, Value.string { data := #[60, 61] }, Value.int IntKind.u8 4, Value.int IntKind.i64 1, Value.int IntKind.i64 7, Value.int IntKind.i64 3, Value.string { data := #[] }, Value.int IntKind.u8 8, Value.int IntKind.i64 1, Value.int IntKind.i64 16, Value.int IntKind.i64 0, Value.string { data := #[] }] rfl (Nat.zero_le _) 4 rfl (by decide)
    rw [show (w2.alloc (FauO 4 1 1)).heap.size = w2.heap.size + 1 by simp] at hB
    rw [← hL.out] at hB
    exact same_true hA hB (by rw [hL.out]; decide)
  have hbL := Lib.hid (below_step (below_step hb2.out (below_alloc w2 (FauO 4 1 1))) (below_alloc (w2.alloc (FauO 4 1 1)) (Obj.cells #[Value.int IntKind.u8 1, Value.int IntKind.i64 1, Value.int IntKind.i64 1, Value.int IntKind.i64 0, Value.string { data := #[120, 49] }, Value.int IntKind.u8 7, Value.int IntKind.i64 1, Value.int IntKind.i64 4, Value.int IntKind.i64 0, Value.string { data := #[60, 61] }, Value.int IntKind.u8 4, Value.int IntKind.i64 1, Value.int IntKind.i64 7, Value.int IntKind.i64 3, Value.string { data := #[] }, Value.int IntKind.u8 8, Value.int IntKind.i64 1, Value.int IntKind.i64 16, Value.int IntKind.i64 0, Value.string { data := #[] }] 33)))
  have e0 : ((w2.alloc (FauO 4 1 1)).alloc (Obj.cells #[Value.int IntKind.u8 1, Value.int IntKind.i64 1, Value.int IntKind.i64 1, Value.int IntKind.i64 0, Value.string { data := #[120, 49] }, Value.int IntKind.u8 7, Value.int IntKind.i64 1, Value.int IntKind.i64 4, Value.int IntKind.i64 0, Value.string { data := #[60, 61] }, Value.int IntKind.u8 4, Value.int IntKind.i64 1, Value.int IntKind.i64 7, Value.int IntKind.i64 3, Value.string { data := #[] }, Value.int IntKind.u8 8, Value.int IntKind.i64 1, Value.int IntKind.i64 16, Value.int IntKind.i64 0, Value.string { data := #[] }] 33)).cell? ⟨w2.heap.size, 0, none⟩ = some (.int .i64 4) := cell_alloc (by simp [go_sem]) _
  have e1 : ((w2.alloc (FauO 4 1 1)).alloc (Obj.cells #[Value.int IntKind.u8 1, Value.int IntKind.i64 1, Value.int IntKind.i64 1, Value.int IntKind.i64 0, Value.string { data := #[120, 49] }, Value.int IntKind.u8 7, Value.int IntKind.i64 1, Value.int IntKind.i64 4, Value.int IntKind.i64 0, Value.string { data := #[60, 61] }, Value.int IntKind.u8 4, Value.int IntKind.i64 1, Value.int IntKind.i64 7, Value.int IntKind.i64 3, Value.string { data := #[] }, Value.int IntKind.u8 8, Value.int IntKind.i64 1, Value.int IntKind.i64 16, Value.int IntKind.i64 0, Value.string { data := #[] }] 33)).cell? ⟨w2.heap.size, 1, none⟩ = some (.int .i64 1) := cell_alloc (by simp [go_sem]) _
  have e2 : ((w2.alloc (FauO 4 1 1)).alloc (Obj.cells #[Value.int IntKind.u8 1, Value.int IntKind.i64 1, Value.int IntKind.i64 1, Value.int IntKind.i64 0, Value.string { data := #[120, 49] }, Value.int IntKind.u8 7, Value.int IntKind.i64 1, Value.int IntKind.i64 4, Value.int IntKind.i64 0, Value.string { data := #[60, 61] }, Value.int IntKind.u8 4, Value.int IntKind.i64 1, Value.int IntKind.i64 7, Value.int IntKind.i64 3, Value.string { data := #[] }, Value.int IntKind.u8 8, Value.int IntKind.i64 1, Value.int IntKind.i64 16, Value.int IntKind.i64 0, Value.string { data := #[] }] 33)).cell? ⟨w2.heap.size, 2, none⟩ = some (.int .i64 1) := cell_alloc (by simp [go_sem]) _
  replace e0 := Lib.hid e0
  replace e1 := Lib.hid e1
  replace e2 := Lib.hid e2
  replace hS := Lib.hid hS
  clear ho2 hL c0 hb2
  go_wp2_with fail
  refine hS.out.mono ?_
  rintro _ w3 ⟨rfl, hb3⟩
  have f0 := cell_carry hb3 e0.out
  have f1 := cell_carry hb3 e1.out
  have f2 := cell_carry hb3 e2.out
  have hb4 := Lib.hid (below_step hbL.out hb3)
  clear hS e0 e1 e2 hb3 hbL d0
  go_wp2
  go_ret
  exact ⟨rfl, hb4.out⟩

theorem awake_any (w : World) : Calls Try.prog 8 #[] w fun e w' => e = .returned (.bool true) ∧ Below w.heap.size w w' :=
  awake_core w awL (Lib.hid rfl) (Lib.hid fun w => (tokens_core _ w (by decide) _ (Lib.hid aw_toks)).mono fun _ _ h => retP_ok h)
    (Lib.hid fun w => (tokens_core _ w (by decide) _ (Lib.hid aw_bad)).mono fun _ _ h => retP_bad h) (fun w => eql_fau 4 1 1 4 1 1 true rfl w) guard_fau

end Go.Proofs.Ytddeiidkmihkkaa
