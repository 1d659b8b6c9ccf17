/-
 Contracts and plain facts on the way to PrettyWrites. Conditions: as each says.
-/
import Derived.Test.YtoaplbljflhheaaGreatWaf
set_option maxHeartbeats 40000000
set_option maxRecDepth 100000
set_option linter.unusedVariables false
set_option linter.unusedSimpArgs false
namespace Go.Proofs.YtoaplbljflhheaaGreat.Nm
open Go.RowKit
def textL (a : Int) : List UInt8 := if a < 0 then 45 :: dec a.natAbs else dec a.natAbs
theorem a1b (a u : Int) (m : Nat) (w : World) (ha : a < 0) (hm : Hid (m ≤ 18446744073709551615)) (hu : IntKind.u64.wrap a = u) (hv : IntKind.u64.wrap (-u) = m) :
  Calls Tryz.prog 153 #[.int .i64 a] w fun e w' => e = .returned (.string (bs (45 :: dec m))) ∧ Below w.heap.size w w' := by
 have hs : (bs (dec m)).size ≤ 20 := by rw [An]; exact dec_len_le m hm.out
 have hcat : ({ data := #[45] } : ByteArray) ++ bs (dec m) = bs (45 :: dec m) := P9 [45] (dec m)
 have HC := zz hcat
 clear hcat
 go_enter Tryz.func153, Tryz.ntmps153
 go_wp2_with fail
 refine (Jj m _ hm).mono ?_
 rintro e w1 ⟨rfl, hb⟩
 go_wp2
 go_ret
 refine ⟨?_, hb⟩
 exact congrArg (fun s => Ending.returned (.string s)) HC.out
theorem a1a (a : Int) (m : Nat) (w : World) (ha : ¬ a < 0) (hm : Hid (m ≤ 18446744073709551615)) (hu : IntKind.u64.wrap a = m) :
  Calls Tryz.prog 153 #[.int .i64 a] w fun e w' => e = .returned (.string (bs (dec m))) ∧ Below w.heap.size w w' := by
 go_enter Tryz.func153, Tryz.ntmps153
 go_wp2_with fail
 refine (Jj m _ hm).mono ?_
 rintro e w1 ⟨rfl, hb⟩
 go_wp2
 go_ret
 exact ⟨rfl, hb⟩
theorem ntext_any (a : Int) (w : World) (h0 : -9223372036854775808 ≤ a) (h1 : a ≤ 9223372036854775807) :
  Calls Tryz.prog 153 #[.int .i64 a] w fun e w' => e = .returned (.string (bs (textL a))) ∧ Below w.heap.size w w' := by
 unfold textL
 by_cases h : a < 0
 ·rw [if_pos h]
  refine a1b a (a + 18446744073709551616) a.natAbs w h ?_ ?_ ?_
  ·show _ ≤ _
   omega
  ·rw [IntKind.wrap_u64]; omega
  ·rw [IntKind.wrap_u64]; omega
 ·rw [if_neg h]
  refine a1a a a.natAbs w h ?_ ?_
  ·show _ ≤ _
   omega
  ·rw [IntKind.wrap_u64]; omega
theorem a71 (d : Nat) (h : d < 10) : ({ data := #[48, 49, 50, 51, 52, 53, 54, 55, 56, 57] } : ByteArray).extract d (d + 1) = bs [dch d] := by
 have : d = 0 ∨ d = 1 ∨ d = 2 ∨ d = 3 ∨ d = 4 ∨ d = 5 ∨ d = 6 ∨ d = 7 ∨ d = 8 ∨ d = 9 := by omega
 rcases this with rfl | rfl | rfl | rfl | rfl | rfl | rfl | rfl | rfl | rfl <;> rfl
theorem Nr (d : Nat) (l : List UInt8) (h : d < 10) : ({ data := #[48, 49, 50, 51, 52, 53, 54, 55, 56, 57] } : ByteArray).extract d (d + 1) ++ bs l = bs (dch d :: l) := by
 rw [a71 d h, P9]; rfl
theorem Xx (a : Int) (N : Nat) (w : World) (ha : a < 0) (hN : Hid (N ≤ 18446744073709551615))
  (H : Hid (∀ w, Calls Tryz.prog 59 #[.int .i64 a] w fun e w' => e = .returned (.int .u64 N) ∧ Below w.heap.size w w')) :
  Calls Tryz.prog 32 #[.int .i64 a] w fun e w' => e = .returned (.string (bs (45 :: dec N))) ∧ Below w.heap.size w w' := by
 go_enter Tryz.func32, Tryz.ntmps32
 go_wp2_with fail
 refine (H.out _).mono ?_
 rintro e w1 ⟨rfl, hb⟩
 go_wp2
 go_loop [3, 4] (fun v s => ∃ (m : Nat) (l : List UInt8), m ≤ N ∧ v = .int .u64 m ∧ s = .string (bs l) ∧ dec m ++ l = dec N) (fun v _ => (intOf v).toNat)
 case atStart => exact ⟨N, [], Nat.le_refl _, rfl, rfl, by simp⟩
 case round =>
  obtain ⟨m, l, hm, rfl, rfl, hk⟩ := hrel
  have HK := zz hk
  have hsz : (bs l).size ≤ 20 := by
   have h1 := congrArg List.length hk
   have h2 := dec_len_le N hN.out
   rw [List.length_append] at h1
   rw [An]; omega
  clear hk
  have hmb : (m : Int) ≤ 18446744073709551615 := by have := hN.out; omega
  by_cases hlt : m < 10
  ·have e : dch m :: l = dec N := by rw [← HK.out, Dw hlt]; rfl
   have E := zz (show ({ data := #[48, 49, 50, 51, 52, 53, 54, 55, 56, 57] } : ByteArray).extract m (m + 1) ++ bs l = bs (dec N) by rw [Nr m l hlt, e])
   clear e
   have hmin : min (m + 1) 10 - m = 1 := by omega
   go_wp2
   go_ret
   refine ⟨?_, hb⟩
   exact congrArg (fun s => Ending.returned (.string s)) ((congrArg (fun s => ({ data := #[45] } : ByteArray) ++ s) E.out).trans (P9 [45] (dec N)))
  ·have hlt2 : ¬ (m : Int) < 10 := by omega
   have hmin : min (m % 10 + 1) 10 - m % 10 = 1 := by omega
   have E := zz (Nr (m % 10) l (by omega))
   have HK2 : Hid (dec (m / 10) ++ (dch (m % 10) :: l) = dec N) := zz (by rw [← HK.out, Hw hlt, List.append_assoc]; rfl)
   go_wp2
   go_round
   case rel => exact ⟨m / 10, dch (m % 10) :: l, by omega, by go_num, by rw [E.out], HK2.out⟩
   case measure => simp [intOf]; omega
theorem Xw (a : Int) (N : Nat) (w : World) (ha : ¬ a < 0) (hN : Hid (N ≤ 18446744073709551615))
  (H : Hid (∀ w, Calls Tryz.prog 59 #[.int .i64 a] w fun e w' => e = .returned (.int .u64 N) ∧ Below w.heap.size w w')) :
  Calls Tryz.prog 32 #[.int .i64 a] w fun e w' => e = .returned (.string (bs (dec N))) ∧ Below w.heap.size w w' := by
 go_enter Tryz.func32, Tryz.ntmps32
 go_wp2_with fail
 refine (H.out _).mono ?_
 rintro e w1 ⟨rfl, hb⟩
 go_wp2
 go_loop [3, 4] (fun v s => ∃ (m : Nat) (l : List UInt8), m ≤ N ∧ v = .int .u64 m ∧ s = .string (bs l) ∧ dec m ++ l = dec N) (fun v _ => (intOf v).toNat)
 case atStart => exact ⟨N, [], Nat.le_refl _, rfl, rfl, by simp⟩
 case round =>
  obtain ⟨m, l, hm, rfl, rfl, hk⟩ := hrel
  have HK := zz hk
  have hsz : (bs l).size ≤ 20 := by
   have h1 := congrArg List.length hk
   have h2 := dec_len_le N hN.out
   rw [List.length_append] at h1
   rw [An]; omega
  clear hk
  have hmb : (m : Int) ≤ 18446744073709551615 := by have := hN.out; omega
  by_cases hlt : m < 10
  ·have e : dch m :: l = dec N := by rw [← HK.out, Dw hlt]; rfl
   have E := zz (show ({ data := #[48, 49, 50, 51, 52, 53, 54, 55, 56, 57] } : ByteArray).extract m (m + 1) ++ bs l = bs (dec N) by rw [Nr m l hlt, e])
   clear e
   have hmin : min (m + 1) 10 - m = 1 := by omega
   go_wp2
   go_ret
   refine ⟨?_, hb⟩
   exact congrArg (fun s => Ending.returned (.string s)) E.out
  ·have hlt2 : ¬ (m : Int) < 10 := by omega
   have hmin : min (m % 10 + 1) 10 - m % 10 = 1 := by omega
   have E := zz (Nr (m % 10) l (by omega))
   have HK2 : Hid (dec (m / 10) ++ (dch (m % 10) :: l) = dec N) := zz (by rw [← HK.out, Hw hlt, List.append_assoc]; rfl)
   go_wp2
   go_round
   case rel => exact ⟨m / 10, dch (m % 10) :: l, by omega, by go_num, by rw [E.out], HK2.out⟩
   case measure => simp [intOf]; omega
theorem rtext_any (a : Int) (w : World) (h0 : -9223372036854775808 ≤ a) (h1 : a ≤ 9223372036854775807) :
  Calls Tryz.prog 32 #[.int .i64 a] w fun e w' => e = .returned (.string (bs (textL a))) ∧ Below w.heap.size w w' := by
 unfold textL
 have hN : a.natAbs ≤ 18446744073709551615 := by omega
 by_cases h : a < 0
 ·rw [if_pos h]
  exact Xx a a.natAbs w h hN (fun w => Js a w h0 h1)
 ·rw [if_neg h]
  exact Xw a a.natAbs w h hN (fun w => Js a w h0 h1)
end Go.Proofs.YtoaplbljflhheaaGreat.Nm
