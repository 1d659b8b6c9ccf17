/-
  Contracts of num.Text and of the document's Text. Conditions: numbers fit their kinds.
-/
import Derived.Test.YtknnobijdojjhaaText
namespace Go.Proofs.Ytknnobijdojjhaa
open Go.RowKit

/-- A number's text. -/
def textL (a : Int) : List UInt8 := if a < 0 then 45 :: dec a.natAbs else dec a.natAbs

set_option maxHeartbeats 400000 in
theorem text_neg (a u : Int) (m : Nat) (w : World) (ha : a < 0) (hm : Hid (m ≤ 18446744073709551615)) (hu : IntKind.u64.wrap a = u) (hv : IntKind.u64.wrap (-u) = m) :
    Calls Try.prog 34 #[.int .i64 a] w fun e w' => e = .returned (.string (bs (45 :: dec m))) ∧ Below w.heap.size w w' := by
  have hs : (bs (dec m)).size ≤ 20 := by rw [bs_size]; exact dec_len_le m hm.out
  have hcat : ({ data := #[45] } : ByteArray) ++ bs (dec m) = bs (45 :: dec m) := bs_app [45] (dec m)
  have HC := Lib.hid hcat
  clear hcat
  go_enter Try.func34, Try.ntmps34
  go_wp2_with fail
  refine (digitsOf_any m _ hm).mono ?_
  rintro e w1 ⟨rfl, hb⟩
  go_wp2
  go_ret
  refine ⟨?_, hb⟩
  exact congrArg (fun s => Ending.returned (.string s)) HC.out

set_option maxHeartbeats 400000 in
theorem text_pos (a : Int) (m : Nat) (w : World) (ha : ¬ a < 0) (hm : Hid (m ≤ 18446744073709551615)) (hu : IntKind.u64.wrap a = m) :
    Calls Try.prog 34 #[.int .i64 a] w fun e w' => e = .returned (.string (bs (dec m))) ∧ Below w.heap.size w w' := by
  go_enter Try.func34, Try.ntmps34
  go_wp2_with fail
  refine (digitsOf_any m _ hm).mono ?_
  rintro e w1 ⟨rfl, hb⟩
  go_wp2
  go_ret
  exact ⟨rfl, hb⟩

theorem text_any (a : Int) (w : World) (h0 : -9223372036854775808 ≤ a) (h1 : a ≤ 9223372036854775807) :
    Calls Try.prog 34 #[.int .i64 a] w fun e w' => e = .returned (.string (bs (textL a))) ∧ Below w.heap.size w w' := by
  unfold textL
  by_cases h : a < 0
  · rw [if_pos h]
    refine text_neg a (a + 18446744073709551616) a.natAbs w h ?_ ?_ ?_
    · show _ ≤ _
      omega
    · rw [IntKind.wrap_u64]; omega
    · rw [IntKind.wrap_u64]; omega
  · rw [if_neg h]
    refine text_pos a a.natAbs w h ?_ ?_
    · show _ ≤ _
      omega
    · rw [IntKind.wrap_u64]; omega

theorem ext_dig (d : Nat) (h : d < 10) : ({ data := #[48, 49, 50, 51, 52, 53, 54, 55, 56, 57] } : ByteArray).extract d (d + 1) = bs [dch d] := by
  have : d = 0 ∨ d = 1 ∨ d = 2 ∨ d = 3 ∨ d = 4 ∨ d = 5 ∨ d = 6 ∨ d = 7 ∨ d = 8 ∨ d = 9 := by omega
  rcases this with rfl | rfl | rfl | rfl | rfl | rfl | rfl | rfl | rfl | rfl <;> rfl
theorem dig_cat (d : Nat) (l : List UInt8) (h : d < 10) : ({ data := #[48, 49, 50, 51, 52, 53, 54, 55, 56, 57] } : ByteArray).extract d (d + 1) ++ bs l = bs (dch d :: l) := by
  rw [ext_dig d h, bs_app]; rfl

set_option maxHeartbeats 400000 in
theorem rtext_neg (a : Int) (N : Nat) (w : World) (ha : a < 0) (hN : Hid (N ≤ 18446744073709551615))
    (H : Hid (∀ w, Calls Try.prog 44 #[.int .i64 a] w fun e w' => e = .returned (.int .u64 N) ∧ Below w.heap.size w w')) :
    Calls Try.prog 37 #[.int .i64 a] w fun e w' => e = .returned (.string (bs (45 :: dec N))) ∧ Below w.heap.size w w' := by
  go_enter Try.func37, Try.ntmps37
  go_wp2_with fail
  refine (H.out _).mono ?_
  rintro e w1 ⟨rfl, hb⟩
  go_wp2
  go_loop [3, 4] (fun v s => ∃ (m : Nat) (l : List UInt8), m ≤ N ∧ v = .int .u64 m ∧ s = .string (bs l) ∧ dec m ++ l = dec N) (fun v _ => (intOf v).toNat)
  case atStart => exact ⟨N, [], Nat.le_refl _, rfl, rfl, by simp⟩
  case round =>
    obtain ⟨m, l, hm, rfl, rfl, hk⟩ := hrel
    have HK := Lib.hid hk
    have hsz : (bs l).size ≤ 20 := by
      have h1 := congrArg List.length hk
      have h2 := dec_len_le N hN.out
      rw [List.length_append] at h1
      rw [bs_size]; omega
    clear hk
    have hmb : (m : Int) ≤ 18446744073709551615 := by have := hN.out; omega
    by_cases hlt : m < 10
    · have e : dch m :: l = dec N := by rw [← HK.out, dec_small hlt]; rfl
      have E := Lib.hid (show ({ data := #[48, 49, 50, 51, 52, 53, 54, 55, 56, 57] } : ByteArray).extract m (m + 1) ++ bs l = bs (dec N) by rw [dig_cat m l hlt, e])
      clear e
      have hmin : min (m + 1) 10 - m = 1 := by omega
      go_wp2
      go_ret
      refine ⟨?_, hb⟩
      exact congrArg (fun s => Ending.returned (.string s)) ((congrArg (fun s => ({ data := #[45] } : ByteArray) ++ s) E.out).trans (bs_app [45] (dec N)))
    · have hlt2 : ¬ (m : Int) < 10 := by omega
      have hmin : min (m % 10 + 1) 10 - m % 10 = 1 := by omega
      have E := Lib.hid (dig_cat (m % 10) l (by omega))
      have HK2 : Hid (dec (m / 10) ++ (dch (m % 10) :: l) = dec N) := Lib.hid (by rw [← HK.out, dec_big hlt, List.append_assoc]; rfl)
      go_wp2
      go_round
      case rel => exact ⟨m / 10, dch (m % 10) :: l, by omega, by go_num, by rw [E.out], HK2.out⟩
      case measure => simp [intOf]; omega

set_option maxHeartbeats 400000 in
theorem rtext_pos (a : Int) (N : Nat) (w : World) (ha : ¬ a < 0) (hN : Hid (N ≤ 18446744073709551615))
    (H : Hid (∀ w, Calls Try.prog 44 #[.int .i64 a] w fun e w' => e = .returned (.int .u64 N) ∧ Below w.heap.size w w')) :
    Calls Try.prog 37 #[.int .i64 a] w fun e w' => e = .returned (.string (bs (dec N))) ∧ Below w.heap.size w w' := by
  go_enter Try.func37, Try.ntmps37
  go_wp2_with fail
  refine (H.out _).mono ?_
  rintro e w1 ⟨rfl, hb⟩
  go_wp2
  go_loop [3, 4] (fun v s => ∃ (m : Nat) (l : List UInt8), m ≤ N ∧ v = .int .u64 m ∧ s = .string (bs l) ∧ dec m ++ l = dec N) (fun v _ => (intOf v).toNat)
  case atStart => exact ⟨N, [], Nat.le_refl _, rfl, rfl, by simp⟩
  case round =>
    obtain ⟨m, l, hm, rfl, rfl, hk⟩ := hrel
    have HK := Lib.hid hk
    have hsz : (bs l).size ≤ 20 := by
      have h1 := congrArg List.length hk
      have h2 := dec_len_le N hN.out
      rw [List.length_append] at h1
      rw [bs_size]; omega
    clear hk
    have hmb : (m : Int) ≤ 18446744073709551615 := by have := hN.out; omega
    by_cases hlt : m < 10
    · have e : dch m :: l = dec N := by rw [← HK.out, dec_small hlt]; rfl
      have E := Lib.hid (show ({ data := #[48, 49, 50, 51, 52, 53, 54, 55, 56, 57] } : ByteArray).extract m (m + 1) ++ bs l = bs (dec N) by rw [dig_cat m l hlt, e])
      clear e
      have hmin : min (m + 1) 10 - m = 1 := by omega
      go_wp2
      go_ret
      refine ⟨?_, hb⟩
      exact congrArg (fun s => Ending.returned (.string s)) E.out
    · have hlt2 : ¬ (m : Int) < 10 := by omega
      have hmin : min (m % 10 + 1) 10 - m % 10 = 1 := by omega
      have E := Lib.hid (dig_cat (m % 10) l (by omega))
      have HK2 : Hid (dec (m / 10) ++ (dch (m % 10) :: l) = dec N) := Lib.hid (by rw [← HK.out, dec_big hlt, List.append_assoc]; rfl)
      go_wp2
      go_round
      case rel => exact ⟨m / 10, dch (m % 10) :: l, by omega, by go_num, by rw [E.out], HK2.out⟩
      case measure => simp [intOf]; omega

theorem rtext_any (a : Int) (w : World) (h0 : -9223372036854775808 ≤ a) (h1 : a ≤ 9223372036854775807) :
    Calls Try.prog 37 #[.int .i64 a] w fun e w' => e = .returned (.string (bs (textL a))) ∧ Below w.heap.size w w' := by
  unfold textL
  have hN : a.natAbs ≤ 18446744073709551615 := by omega
  by_cases h : a < 0
  · rw [if_pos h]
    exact rtext_neg a a.natAbs w h hN (fun w => size_any a w h0 h1)
  · rw [if_neg h]
    exact rtext_pos a a.natAbs w h hN (fun w => size_any a w h0 h1)

end Go.Proofs.Ytknnobijdojjhaa
