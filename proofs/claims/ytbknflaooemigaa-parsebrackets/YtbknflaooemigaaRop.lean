/-
  Contract of parse.operation: the operation of a sign. Conditions: none.
-/
import Derived.Test.YtbknflaooemigaaRde
namespace Go.Proofs.Ytbknflaooemigaa
open Go.RowKit Go.Sort
set_option linter.unusedVariables false

theorem op_0 (s : ByteArray) (w : World)  (e0 : (s.toList == [43]) = true) : Calls Try.prog 40 #[.string s] w fun e w' => e = .returned (.int .i64 1) ∧ w = w' := by
  go_enter Try.func40, Try.ntmps40
  go_wp2_with fail
  go_ret
  exact ⟨rfl, rfl⟩

theorem op_1 (s : ByteArray) (w : World) (e0 : (s.toList == [43]) = false) (e1 : (s.toList == [45]) = true) : Calls Try.prog 40 #[.string s] w fun e w' => e = .returned (.int .i64 2) ∧ w = w' := by
  go_enter Try.func40, Try.ntmps40
  go_wp2_with fail
  go_ret
  exact ⟨rfl, rfl⟩

theorem op_2 (s : ByteArray) (w : World) (e0 : (s.toList == [43]) = false) (e1 : (s.toList == [45]) = false) (e2 : (s.toList == [42]) = true) : Calls Try.prog 40 #[.string s] w fun e w' => e = .returned (.int .i64 3) ∧ w = w' := by
  go_enter Try.func40, Try.ntmps40
  go_wp2_with fail
  go_ret
  exact ⟨rfl, rfl⟩

theorem op_3 (s : ByteArray) (w : World) (e0 : (s.toList == [43]) = false) (e1 : (s.toList == [45]) = false) (e2 : (s.toList == [42]) = false) (e3 : (s.toList == [47]) = true) : Calls Try.prog 40 #[.string s] w fun e w' => e = .returned (.int .i64 4) ∧ w = w' := by
  go_enter Try.func40, Try.ntmps40
  go_wp2_with fail
  go_ret
  exact ⟨rfl, rfl⟩

theorem op_4 (s : ByteArray) (w : World) (e0 : (s.toList == [43]) = false) (e1 : (s.toList == [45]) = false) (e2 : (s.toList == [42]) = false) (e3 : (s.toList == [47]) = false) (e4 : (s.toList == [37]) = true) : Calls Try.prog 40 #[.string s] w fun e w' => e = .returned (.int .i64 5) ∧ w = w' := by
  go_enter Try.func40, Try.ntmps40
  go_wp2_with fail
  go_ret
  exact ⟨rfl, rfl⟩

theorem op_5 (s : ByteArray) (w : World) (e0 : (s.toList == [43]) = false) (e1 : (s.toList == [45]) = false) (e2 : (s.toList == [42]) = false) (e3 : (s.toList == [47]) = false) (e4 : (s.toList == [37]) = false) (e5 : (s.toList == [61, 61]) = true) : Calls Try.prog 40 #[.string s] w fun e w' => e = .returned (.int .i64 6) ∧ w = w' := by
  go_enter Try.func40, Try.ntmps40
  go_wp2_with fail
  go_ret
  exact ⟨rfl, rfl⟩

theorem op_6 (s : ByteArray) (w : World) (e0 : (s.toList == [43]) = false) (e1 : (s.toList == [45]) = false) (e2 : (s.toList == [42]) = false) (e3 : (s.toList == [47]) = false) (e4 : (s.toList == [37]) = false) (e5 : (s.toList == [61, 61]) = false) (e6 : (s.toList == [33, 61]) = true) : Calls Try.prog 40 #[.string s] w fun e w' => e = .returned (.int .i64 7) ∧ w = w' := by
  go_enter Try.func40, Try.ntmps40
  go_wp2_with fail
  go_ret
  exact ⟨rfl, rfl⟩

theorem op_7 (s : ByteArray) (w : World) (e0 : (s.toList == [43]) = false) (e1 : (s.toList == [45]) = false) (e2 : (s.toList == [42]) = false) (e3 : (s.toList == [47]) = false) (e4 : (s.toList == [37]) = false) (e5 : (s.toList == [61, 61]) = false) (e6 : (s.toList == [33, 61]) = false) (e7 : (s.toList == [60]) = true) : Calls Try.prog 40 #[.string s] w fun e w' => e = .returned (.int .i64 8) ∧ w = w' := by
  go_enter Try.func40, Try.ntmps40
  go_wp2_with fail
  go_ret
  exact ⟨rfl, rfl⟩

theorem op_8 (s : ByteArray) (w : World) (e0 : (s.toList == [43]) = false) (e1 : (s.toList == [45]) = false) (e2 : (s.toList == [42]) = false) (e3 : (s.toList == [47]) = false) (e4 : (s.toList == [37]) = false) (e5 : (s.toList == [61, 61]) = false) (e6 : (s.toList == [33, 61]) = false) (e7 : (s.toList == [60]) = false) (e8 : (s.toList == [60, 61]) = true) : Calls Try.prog 40 #[.string s] w fun e w' => e = .returned (.int .i64 9) ∧ w = w' := by
  go_enter Try.func40, Try.ntmps40
  go_wp2_with fail
  go_ret
  exact ⟨rfl, rfl⟩

theorem op_9 (s : ByteArray) (w : World) (e0 : (s.toList == [43]) = false) (e1 : (s.toList == [45]) = false) (e2 : (s.toList == [42]) = false) (e3 : (s.toList == [47]) = false) (e4 : (s.toList == [37]) = false) (e5 : (s.toList == [61, 61]) = false) (e6 : (s.toList == [33, 61]) = false) (e7 : (s.toList == [60]) = false) (e8 : (s.toList == [60, 61]) = false) (e9 : (s.toList == [62]) = true) : Calls Try.prog 40 #[.string s] w fun e w' => e = .returned (.int .i64 10) ∧ w = w' := by
  go_enter Try.func40, Try.ntmps40
  go_wp2_with fail
  go_ret
  exact ⟨rfl, rfl⟩

theorem op_10 (s : ByteArray) (w : World) (e0 : (s.toList == [43]) = false) (e1 : (s.toList == [45]) = false) (e2 : (s.toList == [42]) = false) (e3 : (s.toList == [47]) = false) (e4 : (s.toList == [37]) = false) (e5 : (s.toList == [61, 61]) = false) (e6 : (s.toList == [33, 61]) = false) (e7 : (s.toList == [60]) = false) (e8 : (s.toList == [60, 61]) = false) (e9 : (s.toList == [62]) = false) (e10 : (s.toList == [62, 61]) = true) : Calls Try.prog 40 #[.string s] w fun e w' => e = .returned (.int .i64 11) ∧ w = w' := by
  go_enter Try.func40, Try.ntmps40
  go_wp2_with fail
  go_ret
  exact ⟨rfl, rfl⟩

theorem op_11 (s : ByteArray) (w : World) (e0 : (s.toList == [43]) = false) (e1 : (s.toList == [45]) = false) (e2 : (s.toList == [42]) = false) (e3 : (s.toList == [47]) = false) (e4 : (s.toList == [37]) = false) (e5 : (s.toList == [61, 61]) = false) (e6 : (s.toList == [33, 61]) = false) (e7 : (s.toList == [60]) = false) (e8 : (s.toList == [60, 61]) = false) (e9 : (s.toList == [62]) = false) (e10 : (s.toList == [62, 61]) = false) (e11 : (s.toList == [38, 38]) = true) : Calls Try.prog 40 #[.string s] w fun e w' => e = .returned (.int .i64 14) ∧ w = w' := by
  go_enter Try.func40, Try.ntmps40
  go_wp2_with fail
  go_ret
  exact ⟨rfl, rfl⟩

theorem op_none (s : ByteArray) (w : World) (e0 : (s.toList == [43]) = false) (e1 : (s.toList == [45]) = false) (e2 : (s.toList == [42]) = false) (e3 : (s.toList == [47]) = false) (e4 : (s.toList == [37]) = false) (e5 : (s.toList == [61, 61]) = false) (e6 : (s.toList == [33, 61]) = false) (e7 : (s.toList == [60]) = false) (e8 : (s.toList == [60, 61]) = false) (e9 : (s.toList == [62]) = false) (e10 : (s.toList == [62, 61]) = false) (e11 : (s.toList == [38, 38]) = false) : Calls Try.prog 40 #[.string s] w fun e w' => e = .returned (.int .i64 15) ∧ w = w' := by
  go_enter Try.func40, Try.ntmps40
  go_wp2_with fail
  go_ret
  exact ⟨rfl, rfl⟩

theorem op_any (s : ByteArray) (x : List UInt8) (hx : s.toList = x) (w : World) : Calls Try.prog 40 #[.string s] w fun e w' => e = .returned (.int .i64 (opOf x)) ∧ w = w' := by
  subst hx
  by_cases h0 : s.toList = [43]
  · rw [show opOf s.toList = 1 by unfold opOf; rw [if_pos h0]]
    exact op_0 s w  (by rw [h0]; rfl)
  by_cases h1 : s.toList = [45]
  · rw [show opOf s.toList = 2 by unfold opOf; rw [if_neg h0, if_pos h1]]
    exact op_1 s w (by simpa using h0) (by rw [h1]; rfl)
  by_cases h2 : s.toList = [42]
  · rw [show opOf s.toList = 3 by unfold opOf; rw [if_neg h0, if_neg h1, if_pos h2]]
    exact op_2 s w (by simpa using h0) (by simpa using h1) (by rw [h2]; rfl)
  by_cases h3 : s.toList = [47]
  · rw [show opOf s.toList = 4 by unfold opOf; rw [if_neg h0, if_neg h1, if_neg h2, if_pos h3]]
    exact op_3 s w (by simpa using h0) (by simpa using h1) (by simpa using h2) (by rw [h3]; rfl)
  by_cases h4 : s.toList = [37]
  · rw [show opOf s.toList = 5 by unfold opOf; rw [if_neg h0, if_neg h1, if_neg h2, if_neg h3, if_pos h4]]
    exact op_4 s w (by simpa using h0) (by simpa using h1) (by simpa using h2) (by simpa using h3) (by rw [h4]; rfl)
  by_cases h5 : s.toList = [61, 61]
  · rw [show opOf s.toList = 6 by unfold opOf; rw [if_neg h0, if_neg h1, if_neg h2, if_neg h3, if_neg h4, if_pos h5]]
    exact op_5 s w (by simpa using h0) (by simpa using h1) (by simpa using h2) (by simpa using h3) (by simpa using h4) (by rw [h5]; rfl)
  by_cases h6 : s.toList = [33, 61]
  · rw [show opOf s.toList = 7 by unfold opOf; rw [if_neg h0, if_neg h1, if_neg h2, if_neg h3, if_neg h4, if_neg h5, if_pos h6]]
    exact op_6 s w (by simpa using h0) (by simpa using h1) (by simpa using h2) (by simpa using h3) (by simpa using h4) (by simpa using h5) (by rw [h6]; rfl)
  by_cases h7 : s.toList = [60]
  · rw [show opOf s.toList = 8 by unfold opOf; rw [if_neg h0, if_neg h1, if_neg h2, if_neg h3, if_neg h4, if_neg h5, if_neg h6, if_pos h7]]
    exact op_7 s w (by simpa using h0) (by simpa using h1) (by simpa using h2) (by simpa using h3) (by simpa using h4) (by simpa using h5) (by simpa using h6) (by rw [h7]; rfl)
  by_cases h8 : s.toList = [60, 61]
  · rw [show opOf s.toList = 9 by unfold opOf; rw [if_neg h0, if_neg h1, if_neg h2, if_neg h3, if_neg h4, if_neg h5, if_neg h6, if_neg h7, if_pos h8]]
    exact op_8 s w (by simpa using h0) (by simpa using h1) (by simpa using h2) (by simpa using h3) (by simpa using h4) (by simpa using h5) (by simpa using h6) (by simpa using h7) (by rw [h8]; rfl)
  by_cases h9 : s.toList = [62]
  · rw [show opOf s.toList = 10 by unfold opOf; rw [if_neg h0, if_neg h1, if_neg h2, if_neg h3, if_neg h4, if_neg h5, if_neg h6, if_neg h7, if_neg h8, if_pos h9]]
    exact op_9 s w (by simpa using h0) (by simpa using h1) (by simpa using h2) (by simpa using h3) (by simpa using h4) (by simpa using h5) (by simpa using h6) (by simpa using h7) (by simpa using h8) (by rw [h9]; rfl)
  by_cases h10 : s.toList = [62, 61]
  · rw [show opOf s.toList = 11 by unfold opOf; rw [if_neg h0, if_neg h1, if_neg h2, if_neg h3, if_neg h4, if_neg h5, if_neg h6, if_neg h7, if_neg h8, if_neg h9, if_pos h10]]
    exact op_10 s w (by simpa using h0) (by simpa using h1) (by simpa using h2) (by simpa using h3) (by simpa using h4) (by simpa using h5) (by simpa using h6) (by simpa using h7) (by simpa using h8) (by simpa using h9) (by rw [h10]; rfl)
  by_cases h11 : s.toList = [38, 38]
  · rw [show opOf s.toList = 14 by unfold opOf; rw [if_neg h0, if_neg h1, if_neg h2, if_neg h3, if_neg h4, if_neg h5, if_neg h6, if_neg h7, if_neg h8, if_neg h9, if_neg h10, if_pos h11]]
    exact op_11 s w (by simpa using h0) (by simpa using h1) (by simpa using h2) (by simpa using h3) (by simpa using h4) (by simpa using h5) (by simpa using h6) (by simpa using h7) (by simpa using h8) (by simpa using h9) (by simpa using h10) (by rw [h11]; rfl)
  rw [show opOf s.toList = 15 by unfold opOf; rw [if_neg h0, if_neg h1, if_neg h2, if_neg h3, if_neg h4, if_neg h5, if_neg h6, if_neg h7, if_neg h8, if_neg h9, if_neg h10, if_neg h11]]
  exact op_none s w (by simpa using h0) (by simpa using h1) (by simpa using h2) (by simpa using h3) (by simpa using h4) (by simpa using h5) (by simpa using h6) (by simpa using h7) (by simpa using h8) (by simpa using h9) (by simpa using h10) (by simpa using h11)

end Go.Proofs.Ytbknflaooemigaa
