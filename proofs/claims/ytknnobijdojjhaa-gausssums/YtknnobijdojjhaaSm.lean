/-
  The walk of the law GaussSums out of its callees' contracts. Conditions: those contracts.
-/
import Derived.Test.YtknnobijdojjhaaAw
import Derived.Test.YtknnobijdojjhaaFresh
namespace Go.Proofs.Ytknnobijdojjhaa
open Go.RowKit Go.Sort

theorem cell_other {w : World} {b b' : Nat} (o o' : Nat) (v : Value) (h : ¬ b = b') : (w.setCell ⟨b', o', none⟩ v).cell? ⟨b, o, none⟩ = w.cell? ⟨b, o, none⟩ := by
  exact World.cell?_setCell_other (h := fun e => h (by injection e with e1; exact e1.symm)) ..

def Fr (H b : Nat) (w : World) : Prop := H ≤ b ∧ w.cell? ⟨b, 0, none⟩ = some (.int .i64 0) ∧ w.cell? ⟨b, 1, none⟩ = some (.int .i64 0) ∧ ∀ o, w.frozen? ⟨b, o, none⟩ = false
theorem Fr.carry {H b : Nat} {w w' : World} (h : Fr H b w) (hb : Below w.heap.size w w') : Fr H b w' :=
  ⟨h.1, cell_carry hb h.2.1, cell_carry hb h.2.2.1, fun o => froz_carry hb h.2.1 (h.2.2.2 o)⟩
theorem Fr.made (H : Nat) (w : World) (h : H ≤ w.heap.size) : Fr H w.heap.size (w.alloc (Obj.cells #[Value.int IntKind.i64 0, Value.int IntKind.i64 0] 23)) :=
  ⟨h, by simp [go_sem], by simp [go_sem], fun o => by simp [go_sem]⟩

set_option maxHeartbeats 2000000 in
theorem sums_core (a b c d x y m p q s s1 t t1 u u1 r r1 : Int) (w : World)
    (hm : IntKind.i64.wrap (-y) = m)
    (E1 : ∀ w, (binOp .eql 23 (cv s s1) (cv s s1)).run Try.prog w = .ok (.bool true) w)
    (E2 : ∀ w, (binOp .eql 23 (cv t t1) (cv t t1)).run Try.prog w = .ok (.bool true) w)
    (E3 : ∀ w, (binOp .eql 23 (cv r r1) (cv r r1)).run Try.prog w = .ok (.bool true) w)
    (E4 : ∀ w, (binOp .eql 23 (cv p q) (cv p q)).run Try.prog w = .ok (.bool true) w)
    (hG : ∀ op o1 o2 a b c d w, (eqGuard op 23 o1 o2 (cv a b) (cv c d)).run Try.prog w = .ok () w)
    (H1 : Hid (∀ w, Calls Try.prog 11 #[.int .i64 a] w fun e w' => e = .returned (.int .i64 x) ∧ Below w.heap.size w w'))
    (H2 : Hid (∀ w, Calls Try.prog 11 #[.int .i64 b] w fun e w' => e = .returned (.int .i64 y) ∧ Below w.heap.size w w'))
    (H3 : Hid (∀ w, Calls Try.prog 10 #[.int .i64 x, .int .i64 m] w fun e w' => e = .returned (cv p q) ∧ Below w.heap.size w w'))
    (H4 : Hid (∀ w, Calls Try.prog 12 #[cv a b, cv c d] w fun e w' => e = .returned (cv s s1) ∧ Below w.heap.size w w'))
    (H5 : Hid (∀ w, Calls Try.prog 13 #[cv a b, cv c d] w fun e w' => e = .returned (cv s s1) ∧ Below w.heap.size w w'))
    (H6 : Hid (∀ w, Calls Try.prog 14 #[cv a b, cv c d] w fun e w' => e = .returned (cv t t1) ∧ Below w.heap.size w w'))
    (H7 : Hid (∀ w, Calls Try.prog 15 #[cv c d] w fun e w' => e = .returned (cv u u1) ∧ Below w.heap.size w w'))
    (H8 : Hid (∀ w, Calls Try.prog 13 #[cv a b, cv u u1] w fun e w' => e = .returned (cv t t1) ∧ Below w.heap.size w w'))
    (H9 : Hid (∀ w, Calls Try.prog 16 #[cv a b] w fun e w' => e = .returned (cv r r1) ∧ Below w.heap.size w w'))
    (H10 : Hid (∀ w, Calls Try.prog 15 #[cv a b] w fun e w' => e = .returned (cv r r1) ∧ Below w.heap.size w w'))
    (H11 : Hid (∀ w, Calls Try.prog 17 #[cv a b] w fun e w' => e = .returned (cv p q) ∧ Below w.heap.size w w'))
    (H12 : Hid (∀ w, Calls Try.prog 18 #[] w fun e w' => e = .returned (.bool true) ∧ Below w.heap.size w w'))
    : Calls Try.prog 3 #[cv a b, cv c d] w fun e w' => e = .returned (.bool true) ∧ Below w.heap.size w w' := by
  go_enter Try.func3, Try.ntmps3
  go_wp2_with fail
  obtain ⟨W, hW⟩ : ∃ W, W = ((w.alloc (Obj.cells #[Value.int IntKind.i64 a, Value.int IntKind.i64 b] 23)).alloc (Obj.cells #[Value.int IntKind.i64 c, Value.int IntKind.i64 d] 23)) := ⟨_, rfl⟩
  have hB : Below w.heap.size w W := by rw [hW]; go_grown
  have hz : W.heap.size = w.heap.size + 1 + 1 := by rw [hW]; simp
  rw [← hW]
  have g00 : W.cell? ⟨w.heap.size, 0, none⟩ = some (.int .i64 a) := by rw [hW]; simp [go_sem]
  have g01 : W.cell? ⟨w.heap.size, 1, none⟩ = some (.int .i64 b) := by rw [hW]; simp [go_sem]
  have g10 : W.cell? ⟨w.heap.size + 1, 0, none⟩ = some (.int .i64 c) := by rw [hW]; simp [go_sem]
  have g11 : W.cell? ⟨w.heap.size + 1, 1, none⟩ = some (.int .i64 d) := by rw [hW]; simp [go_sem]
  clear hW
  have k00 := fun D os => cell_regrown g00 D os
  have k01 := fun D os => cell_regrown g01 D os
  have c1 : ∀ D os, Calls Try.prog 11 #[.int .i64 a] (grow (redrawn W D) os) fun e w'' => e = .returned (.int .i64 x) ∧ Aft (grow (redrawn W D) os) w'' := fun D os => H1.out _
  have c2 : ∀ D os, Calls Try.prog 11 #[.int .i64 b] (grow (redrawn W D) os) fun e w'' => e = .returned (.int .i64 y) ∧ Aft (grow (redrawn W D) os) w'' := fun D os => H2.out _
  have c3 : ∀ D os, Calls Try.prog 10 #[.int .i64 x, .int .i64 m] (grow (redrawn W D) os) fun e w'' => e = .returned (cv p q) ∧ Aft (grow (redrawn W D) os) w'' := fun D os => H3.out _
  refine region_fresh 8 _ (Obj.cells #[Value.int IntKind.i64 0, Value.int IntKind.i64 0] 23) (Fr W.heap.size) (by kernel_rfl) (by kernel_rfl) rfl rfl ?al (fun b w w' h1 h2 => h1.carry h2) (fun w' h => Fr.made _ w' h) ?go
  case al =>
    intro a w K h
    refine wpOp_of rfl rfl ?_
    go_simp
    exact h
  case go =>
    simp only [List.take_succ_cons, List.take_zero, List.drop_succ_cons, List.drop_zero]
    repeat (refine wpU_step (fun K hK => ?_); go_simp; first | (refine hK _ ?_; clear hK K) | (apply Exists.intro; refine ⟨fun _ => ?_, hK _ ?_⟩; (first | with_reducible exact c1 _ _ | with_reducible exact c2 _ _ | with_reducible exact c3 _ _); clear hK K))
    refine wpU_nil ?_
    intro B V hb hfr
    obtain ⟨hBz, f0, f1, f2⟩ := hfr
    clear k00 k01 c1 c2 c3
    replace g00 := cell_carry hb g00
    replace g01 := cell_carry hb g01
    replace g10 := cell_carry hb g10
    replace g11 := cell_carry hb g11
    replace hB := below_step hB hb
    have hn0 : ¬ w.heap.size = B := by omega
    have hn1 : ¬ w.heap.size + 1 = B := by omega
    have hle : w.heap.size ≤ B := by omega
    clear hb hz hBz W
    go_wp2_with fail
    obtain ⟨X, hX⟩ : ∃ X, X = ((V.setCell ⟨B, 0, none⟩ (.int .i64 p)).setCell ⟨B, 1, none⟩ (.int .i64 q)) := ⟨_, rfl⟩
    have hBX : Below w.heap.size w X := by rw [hX]; go_grown
    rw [← hX]
    have k0 := fun D os => cell_regrown (w := X) (a := ⟨w.heap.size, 0, none⟩) (v := .int .i64 a) (by rw [hX, cell_other _ _ _ hn0, cell_other _ _ _ hn0]; exact g00) D os
    have k1 := fun D os => cell_regrown (w := X) (a := ⟨w.heap.size, 1, none⟩) (v := .int .i64 b) (by rw [hX, cell_other _ _ _ hn0, cell_other _ _ _ hn0]; exact g01) D os
    have k2 := fun D os => cell_regrown (w := X) (a := ⟨w.heap.size + 1, 0, none⟩) (v := .int .i64 c) (by rw [hX, cell_other _ _ _ hn1, cell_other _ _ _ hn1]; exact g10) D os
    have k3 := fun D os => cell_regrown (w := X) (a := ⟨w.heap.size + 1, 1, none⟩) (v := .int .i64 d) (by rw [hX, cell_other _ _ _ hn1, cell_other _ _ _ hn1]; exact g11) D os
    have k4 := fun D os => cell_regrown (w := X) (a := ⟨B, 0, none⟩) (v := .int .i64 p) (by rw [hX]; simp [go_sem, f0]) D os
    have k5 := fun D os => cell_regrown (w := X) (a := ⟨B, 1, none⟩) (v := .int .i64 q) (by rw [hX]; simp [go_sem, f1]) D os
    clear hX g00 g01 g10 g11 f0 f1 f2
    have c4 : ∀ D os, Calls Try.prog 12 #[cv a b, cv c d] (grow (redrawn X D) os) fun e w'' => e = .returned (cv s s1) ∧ ∃ p : Regrown, w'' = grow (redrawn X p.d) p.os := fun D os => Calls.regrown_of (H4.out _)
    have c5 : ∀ D os, Calls Try.prog 13 #[cv a b, cv c d] (grow (redrawn X D) os) fun e w'' => e = .returned (cv s s1) ∧ ∃ p : Regrown, w'' = grow (redrawn X p.d) p.os := fun D os => Calls.regrown_of (H5.out _)
    have c6 : ∀ D os, Calls Try.prog 14 #[cv a b, cv c d] (grow (redrawn X D) os) fun e w'' => e = .returned (cv t t1) ∧ ∃ p : Regrown, w'' = grow (redrawn X p.d) p.os := fun D os => Calls.regrown_of (H6.out _)
    have c7 : ∀ D os, Calls Try.prog 15 #[cv c d] (grow (redrawn X D) os) fun e w'' => e = .returned (cv u u1) ∧ ∃ p : Regrown, w'' = grow (redrawn X p.d) p.os := fun D os => Calls.regrown_of (H7.out _)
    have c8 : ∀ D os, Calls Try.prog 13 #[cv a b, cv u u1] (grow (redrawn X D) os) fun e w'' => e = .returned (cv t t1) ∧ ∃ p : Regrown, w'' = grow (redrawn X p.d) p.os := fun D os => Calls.regrown_of (H8.out _)
    have c9 : ∀ D os, Calls Try.prog 16 #[cv a b] (grow (redrawn X D) os) fun e w'' => e = .returned (cv r r1) ∧ ∃ p : Regrown, w'' = grow (redrawn X p.d) p.os := fun D os => Calls.regrown_of (H9.out _)
    have c10 : ∀ D os, Calls Try.prog 15 #[cv a b] (grow (redrawn X D) os) fun e w'' => e = .returned (cv r r1) ∧ ∃ p : Regrown, w'' = grow (redrawn X p.d) p.os := fun D os => Calls.regrown_of (H10.out _)
    have c11 : ∀ D os, Calls Try.prog 17 #[cv a b] (grow (redrawn X D) os) fun e w'' => e = .returned (cv p q) ∧ ∃ p : Regrown, w'' = grow (redrawn X p.d) p.os := fun D os => Calls.regrown_of (H11.out _)
    have c12 : ∀ D os, Calls Try.prog 18 #[] (grow (redrawn X D) os) fun e w'' => e = .returned (.bool true) ∧ ∃ p : Regrown, w'' = grow (redrawn X p.d) p.os := fun D os => Calls.regrown_of (H12.out _)
    refine wp_region_quiet_below (by kernel_rfl) (by kernel_rfl) ?_
    repeat (quiet_step (first | with_reducible exact c4 _ _ | with_reducible exact c5 _ _ | with_reducible exact c6 _ _ | with_reducible exact c7 _ _ | with_reducible exact c8 _ _ | with_reducible exact c9 _ _ | with_reducible exact c10 _ _ | with_reducible exact c11 _ _ | with_reducible exact c12 _ _))
    refine wpQuiet_nil ?_
    rintro _ ⟨⟨dq, osq⟩, rfl⟩
    have hb := below_regrown X dq osq
    generalize grow (redrawn X dq) osq = w' at *
    go_wp2
    go_ret
    exact ⟨rfl, below_step hBX hb⟩

end Go.Proofs.Ytknnobijdojjhaa
