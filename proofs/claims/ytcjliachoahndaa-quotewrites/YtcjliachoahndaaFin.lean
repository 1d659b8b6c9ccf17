/-
  What the laws of layer 3 want to know of literals, as bytes. Conditions: as said.
-/
import Derived.Test.YtcjliachoahndaaLaw
namespace Go.Proofs.Ytcjliachoahndaa
open Go.RowKit
set_option linter.unusedVariables false

theorem unq_lit (l : List UInt8) : unqOf (lit l) = (l, 0) := by
  have h := read_lit l []
  rw [List.append_nil] at h
  rw [unqOf, h]
  simp

theorem lit_size (s : ByteArray) (n : Nat) (h : s.size ≤ n) : (bs (lit s.data.toList)).size ≤ 4 * n + 2 := by
  rw [bs_size, lit_len]
  have := body_len s.data.toList
  rw [size_list] at this
  omega

theorem lit_two (s : ByteArray) : 2 ≤ (bs (lit s.data.toList)).size := by
  rw [bs_size, lit_len]; omega

theorem unquote_lit (s : ByteArray) (hs : s.size ≤ 3000) (w : World) : Calls Try.prog 9 #[.string (bs (lit s.data.toList))] w fun e w' => e = .returned (.tuple #[.string s, .int .i64 0]) ∧ Below w.heap.size w w' := by
  have h := unquote_any (bs (lit s.data.toList)) w (by have := lit_size s 3000 hs; omega)
  rw [bs_list, unq_lit, bs_eta] at h
  exact h

theorem size_lit (s : ByteArray) (hs : s.size ≤ 3000) (w : World) : Calls Try.prog 11 #[.string s] w fun e w' => e = .returned (.int .i64 ((bs (lit s.data.toList)).size : Nat)) ∧ w = w' := by
  rw [bs_size]
  exact size_any s w (by omega)

theorem end_part (s : ByteArray) (hs : s.size ≤ 3000) (i : Nat) (hi : i < (bs (lit s.data.toList)).size) (w : World) :
    Calls Try.prog 12 #[.string ((bs (lit s.data.toList)).extract 0 i)] w fun e w' => e = .returned (.tuple #[.int .i64 (i : Nat), .bool false]) ∧ w = w' := by
  have e : ((bs (lit s.data.toList)).extract 0 i).data.toList = (lit s.data.toList).take i := by rw [ext_list, bs_list, List.drop_zero, Nat.sub_zero]
  have h := end_any ((bs (lit s.data.toList)).extract 0 i) w (by
    rw [← size_list, e, List.length_take]
    have := lit_size s 3000 hs
    rw [bs_size] at this
    omega) _ rfl
  rw [bs_size] at hi
  rw [e, read_part _ i hi] at h
  exact h

theorem app_list (l : List UInt8) (t : ByteArray) : bs l ++ t = bs (l ++ t.data.toList) := by
  rw [← bs_app, bs_eta]

theorem end_more (s t : ByteArray) (hs : s.size ≤ 3000) (ht : t.size ≤ 3000) (w : World) :
    Calls Try.prog 12 #[.string (bs (lit s.data.toList) ++ t)] w fun e w' => e = .returned (.tuple #[.int .i64 ((bs (lit s.data.toList)).size : Nat), .bool true]) ∧ w = w' := by
  have h := end_any (bs (lit s.data.toList) ++ t) w (by
    rw [app_list, bs_size, List.length_append, size_list]
    have := lit_size s 3000 hs
    rw [bs_size] at this
    omega) _ rfl
  rw [app_list, bs_list, read_lit] at h
  rw [app_list, bs_size]
  exact h

theorem both_list (s t : ByteArray) : (s ++ t).data.toList = s.data.toList ++ t.data.toList := by
  have h := bs_app s.data.toList t.data.toList
  rw [bs_eta, bs_eta] at h
  rw [h, bs_list]

theorem join_lit (s t : ByteArray) : (bs (lit s.data.toList)).extract 0 ((bs (lit s.data.toList)).size - 1) ++ (bs (lit t.data.toList)).extract 1 (bs (lit t.data.toList)).size = bs (lit (s ++ t).data.toList) := by
  apply bytes_eq
  rw [both_list, both_list, ext_list, ext_end, bs_list, bs_list, bs_list, bs_size, lit_len, List.drop_zero, lit, lit, lit, body_app]
  rw [show (body s.data.toList).length + 2 - 1 - 0 = (body s.data.toList).length + 1 by omega, List.take_succ_cons, List.take_left']
  · simp
  · rfl

end Go.Proofs.Ytcjliachoahndaa
