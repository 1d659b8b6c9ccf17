/-
  Contracts of strings.Clone (the library's contract of internal/stringslite.Clone, laid at this program), and of lex.textToken: the same bytes, in memory of their own. Conditions: texts of at most 1000000 bytes.
-/
import Derived.Test.YtbknflaooemigaaBytes
import Derived.Shelf.Pu.Clone
namespace Go.Proofs.Ytbknflaooemigaa
open Go.RowKit Go.Shelf
set_option linter.unusedVariables false

/-- Which numbers the library's functions and types have here. -/
def here : Ren := { f := fun i => if i = 25 then 67 else i, t := fun i => if i = 37 then 82 else if i = 47 then 83 else i, g := fun i => i }

theorem laid : LaysPu.n25 Try.prog here where
  mixed := by kernel_rfl
  f25 := by kernel_rfl
  t0 := by kernel_rfl
  a0 := fun w => by kernel_rfl
  z0 := fun w => by kernel_rfl
  v0 := fun w => by kernel_rfl
  i0 := by kernel_rfl
  t3 := by kernel_rfl
  a3 := fun w => by kernel_rfl
  z3 := fun w => by kernel_rfl
  v3 := fun w => by kernel_rfl
  i3 := by kernel_rfl
  t4 := by kernel_rfl
  a4 := fun w => by kernel_rfl
  z4 := fun w => by kernel_rfl
  v4 := fun w => by kernel_rfl
  i4 := by kernel_rfl
  t5 := by kernel_rfl
  a5 := fun w => by kernel_rfl
  z5 := fun w => by kernel_rfl
  v5 := fun w => by kernel_rfl
  i5 := by kernel_rfl
  t9 := by kernel_rfl
  a9 := fun w => by kernel_rfl
  z9 := fun w => by kernel_rfl
  v9 := fun w => by kernel_rfl
  i9 := by kernel_rfl
  t37 := by kernel_rfl
  a37 := fun w => by kernel_rfl
  z37 := fun w => by kernel_rfl
  v37 := fun w => by kernel_rfl
  i37 := by kernel_rfl
  t47 := by kernel_rfl
  a47 := fun w => by kernel_rfl
  z47 := fun w => by kernel_rfl
  v47 := fun w => by kernel_rfl
  i47 := by kernel_rfl

theorem clone_in (s : ByteArray) (w : World) (hs : s.size ≤ 1000000) : Calls Try.prog 67 #[.string s] w fun e w' => e = .returned (.string s) ∧ Below w.heap.size w w' :=
  AnyPu.stringslite_Clone laid s w (by omega)

theorem clone_any (s : ByteArray) (w : World) (hs : s.size ≤ 1000000) : Calls Try.prog 52 #[.string s] w fun e w' => e = .returned (.string s) ∧ Below w.heap.size w w' := by
  have H := Lib.hid (fun w => clone_in s w hs)
  go_enter Try.func52, Try.ntmps52
  go_wp2_with fail
  refine (H.out _).mono ?_
  rintro e w1 ⟨rfl, hb⟩
  go_wp2
  go_ret
  exact ⟨rfl, hb⟩

/-- A token as a value. -/
abbrev tokV (k a b : Nat) (n : Int) (s : ByteArray) : Value := .agg #[.int .u8 k, .int .i64 a, .int .i64 b, .int .i64 n, .string s]

set_option maxHeartbeats 1000000 in
theorem text_any (k : Nat) (s : ByteArray) (w : World) (hs : s.size ≤ 1000000) : Calls Try.prog 33 #[.int .u8 k, .string s] w fun e w' => e = .returned (tokV k 0 0 0 s) ∧ Below w.heap.size w w' := by
  have H := Lib.hid (fun w => clone_any s w hs)
  go_enter Try.func33, Try.ntmps33
  go_wp2_with fail
  refine (H.out _).mono ?_
  rintro e w1 ⟨rfl, hb⟩
  obtain ⟨hc, hf⟩ := bcell hb
  have hz := hb.size
  simp only [World.size_alloc] at hc hf hz
  go_wp2
  refine bodyPost_ret (v := tokV k 0 0 0 s) (by simp [results, Try.results33, go_sem, hc]) rfl ⟨rfl, ?_⟩
  have hb' := (by go_grown : Below w.heap.size w _).trans (hb.mono (by simp))
  go_grown

end Go.Proofs.Ytbknflaooemigaa
