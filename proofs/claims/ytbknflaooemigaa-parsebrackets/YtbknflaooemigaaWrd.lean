/-
  Contracts of lex.Word and of the document's Word. Conditions: none.
-/
import Derived.Test.YtbknflaooemigaaRun
namespace Go.Proofs.Ytbknflaooemigaa
open Go.RowKit
set_option linter.unusedVariables false

theorem str_ne {s : ByteArray} {l : List UInt8} (h : s.data.toList ≠ l) : (s.toList == l) = false := by rw [ByteArray.toList_eq]; simpa using h
theorem str_ne' {s : ByteArray} {l : List UInt8} (h : s.data.toList ≠ l) : (l == s.toList) = false := by rw [ByteArray.toList_eq]; simpa using fun e => h e.symm
theorem str_is {s : ByteArray} {l : List UInt8} (h : s.data.toList = l) : s = bs l := by rw [← h, bs_eta]

theorem word_0 (w : World) : Calls Try.prog 53 #[.string { data := #[114, 101, 99] }] w fun e w' => e = .returned (.bool true) ∧ w = w' := by
  go_enter Try.func53, Try.ntmps53
  go_wp2
  go_ret
  exact ⟨rfl, rfl⟩

theorem word_1 (w : World) : Calls Try.prog 53 #[.string { data := #[102, 110] }] w fun e w' => e = .returned (.bool true) ∧ w = w' := by
  go_enter Try.func53, Try.ntmps53
  go_wp2
  go_ret
  exact ⟨rfl, rfl⟩

theorem word_2 (w : World) : Calls Try.prog 53 #[.string { data := #[118, 97, 114] }] w fun e w' => e = .returned (.bool true) ∧ w = w' := by
  go_enter Try.func53, Try.ntmps53
  go_wp2
  go_ret
  exact ⟨rfl, rfl⟩

theorem word_3 (w : World) : Calls Try.prog 53 #[.string { data := #[105, 102] }] w fun e w' => e = .returned (.bool true) ∧ w = w' := by
  go_enter Try.func53, Try.ntmps53
  go_wp2
  go_ret
  exact ⟨rfl, rfl⟩

theorem word_4 (w : World) : Calls Try.prog 53 #[.string { data := #[101, 108, 115, 101] }] w fun e w' => e = .returned (.bool true) ∧ w = w' := by
  go_enter Try.func53, Try.ntmps53
  go_wp2
  go_ret
  exact ⟨rfl, rfl⟩

theorem word_5 (w : World) : Calls Try.prog 53 #[.string { data := #[119, 104, 105, 108, 101] }] w fun e w' => e = .returned (.bool true) ∧ w = w' := by
  go_enter Try.func53, Try.ntmps53
  go_wp2
  go_ret
  exact ⟨rfl, rfl⟩

theorem word_6 (w : World) : Calls Try.prog 53 #[.string { data := #[114, 101, 116, 117, 114, 110] }] w fun e w' => e = .returned (.bool true) ∧ w = w' := by
  go_enter Try.func53, Try.ntmps53
  go_wp2
  go_ret
  exact ⟨rfl, rfl⟩

theorem word_7 (w : World) : Calls Try.prog 53 #[.string { data := #[112, 114, 105, 110, 116] }] w fun e w' => e = .returned (.bool true) ∧ w = w' := by
  go_enter Try.func53, Try.ntmps53
  go_wp2
  go_ret
  exact ⟨rfl, rfl⟩

theorem word_8 (w : World) : Calls Try.prog 53 #[.string { data := #[116, 114, 117, 101] }] w fun e w' => e = .returned (.bool true) ∧ w = w' := by
  go_enter Try.func53, Try.ntmps53
  go_wp2
  go_ret
  exact ⟨rfl, rfl⟩

theorem word_9 (w : World) : Calls Try.prog 53 #[.string { data := #[102, 97, 108, 115, 101] }] w fun e w' => e = .returned (.bool true) ∧ w = w' := by
  go_enter Try.func53, Try.ntmps53
  go_wp2
  go_ret
  exact ⟨rfl, rfl⟩

theorem word_10 (w : World) : Calls Try.prog 53 #[.string { data := #[110, 105, 108] }] w fun e w' => e = .returned (.bool true) ∧ w = w' := by
  go_enter Try.func53, Try.ntmps53
  go_wp2
  go_ret
  exact ⟨rfl, rfl⟩

theorem word_11 (w : World) : Calls Try.prog 53 #[.string { data := #[109, 97, 107, 101] }] w fun e w' => e = .returned (.bool true) ∧ w = w' := by
  go_enter Try.func53, Try.ntmps53
  go_wp2
  go_ret
  exact ⟨rfl, rfl⟩

theorem word_12 (w : World) : Calls Try.prog 53 #[.string { data := #[105, 110, 116] }] w fun e w' => e = .returned (.bool true) ∧ w = w' := by
  go_enter Try.func53, Try.ntmps53
  go_wp2
  go_ret
  exact ⟨rfl, rfl⟩

theorem word_13 (w : World) : Calls Try.prog 53 #[.string { data := #[98, 111, 111, 108] }] w fun e w' => e = .returned (.bool true) ∧ w = w' := by
  go_enter Try.func53, Try.ntmps53
  go_wp2
  go_ret
  exact ⟨rfl, rfl⟩

theorem word_14 (w : World) : Calls Try.prog 53 #[.string { data := #[115, 116, 114] }] w fun e w' => e = .returned (.bool true) ∧ w = w' := by
  go_enter Try.func53, Try.ntmps53
  go_wp2
  go_ret
  exact ⟨rfl, rfl⟩

theorem word_15 (w : World) : Calls Try.prog 53 #[.string { data := #[99, 111, 109, 112] }] w fun e w' => e = .returned (.bool true) ∧ w = w' := by
  go_enter Try.func53, Try.ntmps53
  go_wp2
  go_ret
  exact ⟨rfl, rfl⟩

set_option maxHeartbeats 1000000 in
theorem word_none (s : ByteArray) (w : World) (e0 : (s.toList == [114, 101, 99]) = false) (e1 : (s.toList == [102, 110]) = false) (e2 : (s.toList == [118, 97, 114]) = false) (e3 : (s.toList == [105, 102]) = false) (e4 : (s.toList == [101, 108, 115, 101]) = false) (e5 : (s.toList == [119, 104, 105, 108, 101]) = false) (e6 : (s.toList == [114, 101, 116, 117, 114, 110]) = false) (e7 : (s.toList == [112, 114, 105, 110, 116]) = false) (e8 : (s.toList == [116, 114, 117, 101]) = false) (e9 : (s.toList == [102, 97, 108, 115, 101]) = false) (e10 : (s.toList == [110, 105, 108]) = false) (e11 : (s.toList == [109, 97, 107, 101]) = false) (e12 : (s.toList == [105, 110, 116]) = false) (e13 : (s.toList == [98, 111, 111, 108]) = false) (e14 : (s.toList == [115, 116, 114]) = false) (e15 : (s.toList == [99, 111, 109, 112]) = false) : Calls Try.prog 53 #[.string s] w fun e w' => e = .returned (.bool false) ∧ w = w' := by
  go_enter Try.func53, Try.ntmps53
  go_wp2
  go_ret
  exact ⟨rfl, rfl⟩

theorem word_any (s : ByteArray) (w : World) : Calls Try.prog 53 #[.string s] w fun e w' => e = .returned (.bool (isWord s.data.toList)) ∧ w = w' := by
  by_cases h0 : s.data.toList = [114, 101, 99]
  · rw [str_is h0]; exact word_0 w
  by_cases h1 : s.data.toList = [102, 110]
  · rw [str_is h1]; exact word_1 w
  by_cases h2 : s.data.toList = [118, 97, 114]
  · rw [str_is h2]; exact word_2 w
  by_cases h3 : s.data.toList = [105, 102]
  · rw [str_is h3]; exact word_3 w
  by_cases h4 : s.data.toList = [101, 108, 115, 101]
  · rw [str_is h4]; exact word_4 w
  by_cases h5 : s.data.toList = [119, 104, 105, 108, 101]
  · rw [str_is h5]; exact word_5 w
  by_cases h6 : s.data.toList = [114, 101, 116, 117, 114, 110]
  · rw [str_is h6]; exact word_6 w
  by_cases h7 : s.data.toList = [112, 114, 105, 110, 116]
  · rw [str_is h7]; exact word_7 w
  by_cases h8 : s.data.toList = [116, 114, 117, 101]
  · rw [str_is h8]; exact word_8 w
  by_cases h9 : s.data.toList = [102, 97, 108, 115, 101]
  · rw [str_is h9]; exact word_9 w
  by_cases h10 : s.data.toList = [110, 105, 108]
  · rw [str_is h10]; exact word_10 w
  by_cases h11 : s.data.toList = [109, 97, 107, 101]
  · rw [str_is h11]; exact word_11 w
  by_cases h12 : s.data.toList = [105, 110, 116]
  · rw [str_is h12]; exact word_12 w
  by_cases h13 : s.data.toList = [98, 111, 111, 108]
  · rw [str_is h13]; exact word_13 w
  by_cases h14 : s.data.toList = [115, 116, 114]
  · rw [str_is h14]; exact word_14 w
  by_cases h15 : s.data.toList = [99, 111, 109, 112]
  · rw [str_is h15]; exact word_15 w
  rw [show isWord s.data.toList = false by simp [isWord, words, h0, h1, h2, h3, h4, h5, h6, h7, h8, h9, h10, h11, h12, h13, h14, h15]]
  exact word_none s w (str_ne h0) (str_ne h1) (str_ne h2) (str_ne h3) (str_ne h4) (str_ne h5) (str_ne h6) (str_ne h7) (str_ne h8) (str_ne h9) (str_ne h10) (str_ne h11) (str_ne h12) (str_ne h13) (str_ne h14) (str_ne h15)

theorem word_at (s : ByteArray) (b : Bool) (h : isWord s.data.toList = b) (w : World) : Calls Try.prog 53 #[.string s] w fun e w' => e = .returned (.bool b) ∧ w = w' := h ▸ word_any s w

theorem wcells (w : World) (k : Nat) (h : k < 16) : (w.alloc (Obj.cells #[Value.string { data := #[114, 101, 99] }, Value.string { data := #[102, 110] }, Value.string { data := #[118, 97, 114] }, Value.string { data := #[105, 102] }, Value.string { data := #[101, 108, 115, 101] }, Value.string { data := #[119, 104, 105, 108, 101] }, Value.string { data := #[114, 101, 116, 117, 114, 110] }, Value.string { data := #[112, 114, 105, 110, 116] }, Value.string { data := #[116, 114, 117, 101] }, Value.string { data := #[102, 97, 108, 115, 101] }, Value.string { data := #[110, 105, 108] }, Value.string { data := #[109, 97, 107, 101] }, Value.string { data := #[105, 110, 116] }, Value.string { data := #[98, 111, 111, 108] }, Value.string { data := #[115, 116, 114] }, Value.string { data := #[99, 111, 109, 112] }] 9)).cell? ⟨w.heap.size, k, none⟩ = some (.string (bs (words[k]'h))) := by
  have e : (w.alloc (Obj.cells #[Value.string { data := #[114, 101, 99] }, Value.string { data := #[102, 110] }, Value.string { data := #[118, 97, 114] }, Value.string { data := #[105, 102] }, Value.string { data := #[101, 108, 115, 101] }, Value.string { data := #[119, 104, 105, 108, 101] }, Value.string { data := #[114, 101, 116, 117, 114, 110] }, Value.string { data := #[112, 114, 105, 110, 116] }, Value.string { data := #[116, 114, 117, 101] }, Value.string { data := #[102, 97, 108, 115, 101] }, Value.string { data := #[110, 105, 108] }, Value.string { data := #[109, 97, 107, 101] }, Value.string { data := #[105, 110, 116] }, Value.string { data := #[98, 111, 111, 108] }, Value.string { data := #[115, 116, 114] }, Value.string { data := #[99, 111, 109, 112] }] 9)).cell? ⟨w.heap.size, k, none⟩ = (#[Value.string { data := #[114, 101, 99] }, Value.string { data := #[102, 110] }, Value.string { data := #[118, 97, 114] }, Value.string { data := #[105, 102] }, Value.string { data := #[101, 108, 115, 101] }, Value.string { data := #[119, 104, 105, 108, 101] }, Value.string { data := #[114, 101, 116, 117, 114, 110] }, Value.string { data := #[112, 114, 105, 110, 116] }, Value.string { data := #[116, 114, 117, 101] }, Value.string { data := #[102, 97, 108, 115, 101] }, Value.string { data := #[110, 105, 108] }, Value.string { data := #[109, 97, 107, 101] }, Value.string { data := #[105, 110, 116] }, Value.string { data := #[98, 111, 111, 108] }, Value.string { data := #[115, 116, 114] }, Value.string { data := #[99, 111, 109, 112] }] : Array Value)[k]? := by simp [go_sem]
  rw [e]
  match k, h with
  | 0, _ => rfl
  | 1, _ => rfl
  | 2, _ => rfl
  | 3, _ => rfl
  | 4, _ => rfl
  | 5, _ => rfl
  | 6, _ => rfl
  | 7, _ => rfl
  | 8, _ => rfl
  | 9, _ => rfl
  | 10, _ => rfl
  | 11, _ => rfl
  | 12, _ => rfl
  | 13, _ => rfl
  | 14, _ => rfl
  | 15, _ => rfl
  | n + 16, h => omega

end Go.Proofs.Ytbknflaooemigaa
