/-
 Contract of awake: the document's examples of layer 6. Conditions: none.
-/
import Derived.Test.YtbknflaooemigaaGreatRei
import Derived.Test.YtbknflaooemigaaGreatSms
namespace Go.Proofs.YtbknflaooemigaaGreat
open Go.RowKit Go.Sort
set_option linter.unusedVariables false
set_option linter.unusedSimpArgs false

/-- A text's tokens, so many steps at most. -/
def toksF : Nat → List UInt8 → Nat → Nat → Res
 | 0, _, _, _ => .error (0, 0, 0)
 | n + 1, l, line, col =>
  if l.isEmpty then .ok [⟨8, line, col, 0, []⟩]
  else if l.headD 0 = 10 then toksF n l.tail (line + 1) 1
  else if l.headD 0 = 32 ∨ l.headD 0 = 9 ∨ l.headD 0 = 13 then toksF n l.tail line (col + 1)
  else if l.headD 0 = 35 then toksF n (l.tail.drop (runL nlf l.tail)) line (col + (runL nlf l.tail + 1))
  else if (one l).err = 0 then (toksF n (l.drop (one l).size) line (col + (one l).size)).map (⟨(one l).kind, line, col, (one l).num, (one l).text⟩ :: ·)
  else .error ((one l).err, line, col)

theorem toksF_eq (n : Nat) : ∀ (l : List UInt8) (a b : Nat), l.length < n → toksF n l a b = toks l a b := by
 induction n with
 | zero => intro l a b h; omega
 | succ n ih =>
  intro l a b h
  rw [toksF, toks]
  by_cases hl : l = []
  ·subst hl; rfl
  ·have hp : 0 < l.length := List.length_pos_iff.2 hl
   rw [if_neg (by simpa using hl), dif_neg hl]
   split
   ·exact ih _ _ _ (by simp; omega)
   ·split
    ·exact ih _ _ _ (by simp; omega)
    ·split
     ·exact ih _ _ _ (by simp; omega)
     ·split
      ·rename_i h4
       have := one_ok l hl h4
       rw [ih _ _ _ (by simp; omega)]
      ·rfl

theorem aw_1 : readA exprP [49, 32, 43, 32, 50, 32, 42, 32, 120] = ((Fo.cons ⟨31, 1, 3, 1, []⟩ (.cons ⟨21, 1, 1, 1, []⟩ .nil (.cons ⟨31, 1, 7, 3, []⟩ (.cons ⟨21, 1, 5, 2, []⟩ .nil (.cons ⟨26, 1, 9, 0, [120]⟩ .nil .nil)) .nil)) .nil).pre, (0, 0, 0)) := by
 unfold readA
 rw [if_neg (by decide), ← toksF_eq 20 _ _ _ (by decide)]
 rfl
theorem aw_2 : readA exprP [97, 32, 61, 61, 32, 98, 32, 61, 61, 32, 99] = ([], (5, 1, 8)) := by
 unfold readA
 rw [if_neg (by decide), ← toksF_eq 20 _ _ _ (by decide)]
 rfl
theorem aw_3 : readA progP [102, 110, 32, 102, 40, 41, 32, 123, 32, 51, 32, 61, 32, 120, 59, 32, 125] = ([], (5, 1, 12)) := by
 unfold readA
 rw [if_neg (by decide), ← toksF_eq 20 _ _ _ (by decide)]
 rfl

abbrev FauO (a b c : Int) : Obj := Obj.cells #[Value.int IntKind.i64 a, Value.int IntKind.i64 b, Value.int IntKind.i64 c] 26

set_option maxHeartbeats 1000000 in
theorem awake_any (w : World) : Calls Tryz.prog 5 #[] w fun e w' => e = .returned (.bool true) ∧ Below w.heap.size w w' := by
 have H1 := Lib.hid (fun w => expr_any { data := #[49, 32, 43, 32, 50, 32, 42, 32, 120] } w)
 have H2 := Lib.hid (fun w => expr_any { data := #[97, 32, 61, 61, 32, 98, 32, 61, 61, 32, 99] } w)
 have H3 := Lib.hid (fun w => parse_prog { data := #[102, 110, 32, 102, 40, 41, 32, 123, 32, 51, 32, 61, 32, 120, 59, 32, 125] } w)
 rw [show (#[49, 32, 43, 32, 50, 32, 42, 32, 120] : Array UInt8).toList = [49, 32, 43, 32, 50, 32, 42, 32, 120] from rfl, aw_1] at H1
 rw [show (#[97, 32, 61, 61, 32, 98, 32, 61, 61, 32, 99] : Array UInt8).toList = [97, 32, 61, 61, 32, 98, 32, 61, 61, 32, 99] from rfl, aw_2] at H2
 rw [show (#[102, 110, 32, 102, 40, 41, 32, 123, 32, 51, 32, 61, 32, 120, 59, 32, 125] : Array UInt8).toList = [102, 110, 32, 102, 40, 41, 32, 123, 32, 51, 32, 61, 32, 120, 59, 32, 125] from rfl, aw_3] at H3
 have hq1 := eql_self 31 1 3 4 1 { data := #[] }
 have hg1 := guard_nd
 have hq2 := fun w => eql_fau 5 1 8 5 1 8 true rfl w
 have hq3 := fun w => eql_fau 5 1 12 5 1 12 true rfl w
 have hg2 := guard_fau
 go_enter Tryz.func5, Tryz.ntmps5
 go_wp2_with fail
 refine (H1.out _).mono ?_
 rintro e w1 ⟨a, n, cap, rfl, hn, hn2, hr, -, hb1⟩
 have hn5 : n = 5 := by rw [← hn]; rfl
 subst hn5
 obtain ⟨g, o, rfl, hat⟩ := hr 0 (by rw [hn]; decide)
 obtain ⟨t0, t1, t2, t3, t4, t5⟩ := hat
 clear hr hn
 replace hb1 := Lib.hid hb1
 go_wp2_with fail
 refine (H2.out _).mono ?_
 rintro e w2 ⟨a2, n2, cap2, rfl, -, -, -, -, hb2⟩
 have q0 : w2.cell? ⟨w1.heap.size, 0, none⟩ = some (.int .i64 0) := cell_carry hb2 (by simp [go_sem])
 have u0 := cell_carry hb2 (cell_alloc t0 (FauO 0 0 0))
 have u1 := cell_carry hb2 (cell_alloc t1 (FauO 0 0 0))
 have u2 := cell_carry hb2 (cell_alloc t2 (FauO 0 0 0))
 have u3 := cell_carry hb2 (cell_alloc t3 (FauO 0 0 0))
 have u4 := cell_carry hb2 (cell_alloc t4 (FauO 0 0 0))
 have u5 := cell_carry hb2 (cell_alloc t5 (FauO 0 0 0))
 clear t0 t1 t2 t3 t4 t5
 replace hb2 := Lib.hid (below_step (below_step hb1.out (below_alloc _ _)) hb2)
 go_wp2_with fail
 refine (H3.out _).mono ?_
 rintro e w3 ⟨a3, n3, cap3, rfl, -, -, -, -, hb3⟩
 have p0 := cell_carry hb3 (cell_alloc q0 (FauO 5 1 8))
 have f0 : w3.cell? ⟨w2.heap.size, 0, none⟩ = some (.int .i64 5) := cell_carry hb3 (by simp [go_sem])
 have f1 : w3.cell? ⟨w2.heap.size, 1, none⟩ = some (.int .i64 1) := cell_carry hb3 (by simp [go_sem])
 have f2 : w3.cell? ⟨w2.heap.size, 2, none⟩ = some (.int .i64 8) := cell_carry hb3 (by simp [go_sem])
 have v0 := cell_carry hb3 (cell_alloc u0 (FauO 5 1 8))
 have v1 := cell_carry hb3 (cell_alloc u1 (FauO 5 1 8))
 have v2 := cell_carry hb3 (cell_alloc u2 (FauO 5 1 8))
 have v3 := cell_carry hb3 (cell_alloc u3 (FauO 5 1 8))
 have v4 := cell_carry hb3 (cell_alloc u4 (FauO 5 1 8))
 have v5 := cell_carry hb3 (cell_alloc u5 (FauO 5 1 8))
 clear u0 u1 u2 u3 u4 u5 q0
 replace hb3 := Lib.hid (below_step (below_step hb2.out (below_alloc _ _)) hb3)
 have gg := block_lt_of_cell v0
 have gf := block_lt_of_cell f0
 have gp := block_lt_of_cell p0
 replace v0 : w3.cell? ⟨g, o, none⟩ = some (.int .u8 31) := v0
 replace v1 : w3.cell? ⟨g, o + 1, none⟩ = some (.int .i64 1) := v1
 replace v2 : w3.cell? ⟨g, o + 2, none⟩ = some (.int .i64 3) := v2
 replace v3 : w3.cell? ⟨g, o + 3, none⟩ = some (.int .i64 4) := v3
 replace v4 : w3.cell? ⟨g, o + 4, none⟩ = some (.int .i64 1) := v4
 replace v5 : w3.cell? ⟨g, o + 5, none⟩ = some (.string { data := #[] }) := v5
 go_wp2_with fail
 go_ret
 exact ⟨rfl, below_step hb3.out (below_alloc _ _)⟩

end Go.Proofs.YtbknflaooemigaaGreat
