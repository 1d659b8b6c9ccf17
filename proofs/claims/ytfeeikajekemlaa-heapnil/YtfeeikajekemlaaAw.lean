/-
  Contract of awake: the document's example. Conditions: none.
-/
import Derived.Test.YtfeeikajekemlaaNi
import Derived.Test.YtfeeikajekemlaaWj
import Derived.Test.YtfeeikajekemlaaWl
namespace Go.Proofs.Ytfeeikajekemlaa
open Go.RowKit
set_option linter.unusedVariables false
set_option linter.unusedSimpArgs false
set_option maxRecDepth 100000

def nine : ByteArray := { data := #[110, 105, 110, 101, 98, 121, 116, 101, 115] }
def own00 : Owns := fun _ => (0, 0)
theorem fz00 (w : World) : Fz w own00 := fun _ _ => rfl
theorem nine_size : nine.size = 9 := rfl
def m9 : M := mkM m0 (strO nine)
theorem m9_cells : m9.cells = 3 := rfl
theorem m9_add : addB 3 m0 (strO nine) = true := by decide
theorem m9_full (z : Vl) : addB 3 m9 (listO 1 0 z) = false := by
  unfold addB
  rw [m9_cells]
  simp [cost, listO]
theorem m9_val : mkV m0 (strO nine) = ⟨3, 1, 0, 0⟩ := rfl
theorem m9_name (re im : Int) : nameB m9.L ⟨3, 1, re, im⟩ = true := by simp [nameB, m9, mkM, m0, ob, strO]
theorem m9_means (re im : Int) : meansB m9.L ⟨3, 1, re, im⟩ = true := by unfold meansB; rw [m9_name]; simp
theorem m9_meant (re im : Int) : meant m9.L ⟨3, 1, re, im⟩ = strO nine := by
  unfold meant; rw [if_neg (by simp), if_pos (m9_name re im)]; rfl

set_option maxHeartbeats 4000000 in
theorem awake_any (w : World) : Calls Try.prog 10 #[] w fun e w' => e = .returned (.bool true) ∧ Below w.heap.size w w' := by
  have HN : Hid (Calls Try.prog 9 #[.int .i64 3] w fun e w' => e = .returned (.tuple #[.pointer (some ⟨w.heap.size, 0, none⟩), .int .i64 0]) ∧ ∃ own', Hp w' own' 1 w.heap.size 3 m0 ∧ Fz w' own' ∧ Stp w.heap.size 1 own00 own' w w' ∧ Below w.heap.size w w') := Lib.hid (new_ok 3 w (by decide) own00 1 (by decide) (fz00 w))
  go_enter Try.func10, Try.ntmps10
  go_wp2_with (first | ((with_reducible refine HN.out.mono ?_); rintro e w1 ⟨rfl, own1, h1, f1, s1, hb1⟩; have HS : Hid (Calls Try.prog 23 #[.pointer (some ⟨w.heap.size, 0, none⟩), .string { data := #[110, 105, 110, 101, 98, 121, 116, 101, 115] }] w1 fun e w' => e = .returned (.tuple #[.agg #[.int .u8 3, .int .i64 1, .int .i64 0, .int .i64 0], .bool true]) ∧ MadeP w1 own1 1 w.heap.size 3 m9 w') := Lib.hid (str_ok h1 f1 nine (by decide) (by decide) m9_add); have hS1 := Lib.hid s1; clear h1 f1 s1 hb1) | ((with_reducible refine HS.out.mono ?_); rintro e w2 ⟨rfl, hM⟩; obtain ⟨own2, h2, f2, s2⟩ := hM; have hB2 := Lib.hid ((hS1.out.trans (s2.mono hS1.out.size)).below (Nat.le_refl _) (by decide) (fun b _ => rfl)); have HL : Hid (∀ w' : World, Below w2.heap.size w2 w' → Calls Try.prog 24 #[.pointer (some ⟨w.heap.size, 0, none⟩), .int .i64 1, .int .i64 0, .agg #[.int .u8 1, .int .i64 0, .int .i64 0, .int .i64 0]] w' fun e w'' => e = .returned (.tuple #[.agg #[.int .u8 0, .int .i64 0, .int .i64 0, .int .i64 0], .bool false]) ∧ Below w'.heap.size w' w'') := Lib.hid (fun w' hb => list_full (h2.below hb) (f2.below hb.size) 1 0 ⟨1, 0, 0, 0⟩ (by decide) (m9_full _)); have HZ : Hid (∀ w' : World, Below w2.heap.size w2 w' → Calls Try.prog 27 #[.pointer (some ⟨w.heap.size, 0, none⟩), .agg #[.int .u8 3, .int .i64 1, .int .i64 0, .int .i64 0]] w' fun e w'' => e = .returned (.tuple #[.int .i64 9, .int .u8 0]) ∧ Below w'.heap.size w' w'') := Lib.hid (fun w' hb => by have q := size_any (h2.below hb) ⟨3, 1, 0, 0⟩ (by rw [m9_meant]; decide) (by rw [m9_meant]; decide); rw [m9_means, m9_meant] at q; exact q); have HC : Hid (∀ w' : World, Below w2.heap.size w2 w' → Calls Try.prog 13 #[.pointer (some ⟨w.heap.size, 0, none⟩)] w' fun e w'' => e = .returned (.int .i64 3) ∧ w' = w'') := Lib.hid (fun w' hb => cells_any (h2.below hb)); clear h2 f2 s2) | ((with_reducible refine (HL.out _ (by go_grown)).mono ?_); rintro e w3 ⟨rfl, hb3⟩; have hz3 := Lib.hid hb3; have g3 : Below w2.heap.size w2 w3 := (below_step (by go_grown) hb3); have v3 : w3.cell? ⟨w2.heap.size, 0, none⟩ = some (.int .u8 3) := (by rw [(bcell hb3).1 _ _ (by simp)]; simp [go_sem]); have v4 : w3.cell? ⟨w2.heap.size, 1, none⟩ = some (.int .i64 1) := (by rw [(bcell hb3).1 _ _ (by simp)]; simp [go_sem]); have v5 : w3.cell? ⟨w2.heap.size, 2, none⟩ = some (.int .i64 0) := (by rw [(bcell hb3).1 _ _ (by simp)]; simp [go_sem]); have v6 : w3.cell? ⟨w2.heap.size, 3, none⟩ = some (.int .i64 0) := (by rw [(bcell hb3).1 _ _ (by simp)]; simp [go_sem]); have v7 : w2.heap.size < w3.heap.size := (by have := hb3.size; simp at this; omega); clear hb3) | ((with_reducible refine (HZ.out _ (by exact g3.alloc g3.size _)).mono ?_); rintro e w4 ⟨rfl, hb4⟩; have g4 : Below w2.heap.size w2 w4 := (g3.alloc g3.size _).trans (hb4.mono (by simp; have := g3.size; omega)); clear hb4) | ((with_reducible refine (HC.out _ g4).mono ?_); rintro e w5 ⟨rfl, rfl⟩))
  go_ret
  exact ⟨rfl, hB2.out.trans (g4.mono hB2.out.size)⟩

end Go.Proofs.Ytfeeikajekemlaa
