/-
  Contract of num.sizeOf. Conditions: texts of at most 100000 bytes, all digits; a bound of at most 2^63.
-/
import Derived.Test.YtddeiidkmihkkaaNParseA
namespace Go.Proofs.Ytddeiidkmihkkaa.Nm
open Go.RowKit

theorem valL_mono (l m : List UInt8) : valL l ≤ valL (l ++ m) := by
  refine snoc_ind (P := fun m => valL l ≤ valL (l ++ m)) ?_ ?_ m
  · rw [List.append_nil]; exact Nat.le_refl _
  · intro m c ih
    rw [← List.append_assoc, valL_snoc]; omega
theorem all_at (s : ByteArray) (h : s.data.toList.all digB = true) (k : Nat) (hk : k < s.size) : 48 ≤ s[k].toNat ∧ s[k].toNat ≤ 57 := by
  rw [List.all_eq_true] at h
  have := h s[k] (by
    have h2 := take_snoc s k hk
    have h3 : s[k] ∈ s.data.toList.take (k + 1) := by rw [h2]; simp
    exact List.mem_of_mem_take h3)
  unfold digB at this; simpa using this

set_option maxRecDepth 100000 in
set_option maxHeartbeats 400000 in
theorem sizeOf_any (s : ByteArray) (M : Nat) (r : Value) (w : World) (hs : s.size ≤ 100000) (hall : Hid (s.data.toList.all digB = true)) (hM : Hid (M ≤ 9223372036854775808)) (hM9 : Hid (9 ≤ M))
    (hr : Hid (r = if M < valL s.data.toList then .tuple #[.int .u64 0, .bool false] else .tuple #[.int .u64 (valL s.data.toList), .bool true])) :
    Calls Try.prog 47 #[.string s, .int .u64 M] w fun e w' => e = .returned r ∧ w = w' := by
  obtain ⟨Mi, hMi⟩ : ∃ x : Int, (M : Int) = x := ⟨_, rfl⟩
  have m1 : Mi ≤ 9223372036854775808 := by have := hM.out; omega
  have m2 : 9 ≤ Mi := by have := hM9.out; omega
  rw [hMi]
  have HM := Lib.hid hMi
  clear hMi
  go_enter Try.func47, Try.ntmps47
  go_wp2
  go_loop [6, 11] (fun v i => ∃ (k : Nat) (vi : Int), k ≤ s.size ∧ i = .int .i64 k ∧ v = .int .u64 vi ∧ vi = (valL (s.data.toList.take k) : Nat) ∧ vi ≤ Mi) (fun _ i => s.size - (intOf i).toNat)
  case atStart => exact ⟨0, 0, by omega, rfl, rfl, rfl, by omega⟩
  case round =>
    obtain ⟨k, vi, hk, rfl, rfl, hv, hvM⟩ := hrel
    have hv0 : 0 ≤ vi := by omega
    have HV := Lib.hid hv
    clear hv
    by_cases hlt : k < s.size
    · have hc := all_at s hall.out k hlt
      have hS := take_snoc s k hlt
      have hS2 : ((valL (s.data.toList.take (k + 1)) : Nat) : Int) = vi * 10 + ((s[k].toNat : Int) - 48) := by
        rw [hS, valL_snoc, HV.out]; omega
      have HS := Lib.hid hS2
      clear hS hS2
      obtain ⟨c1, c2⟩ := hc
      have c1' : 48 ≤ (s[k].toNat : Int) := by omega
      have c2' : (s[k].toNat : Int) ≤ 57 := by omega
      by_cases hov : (Mi - ((s[k].toNat : Int) - 48)) / 10 < vi
      · have hr2 : r = .tuple #[.int .u64 0, .bool false] := by
          have h1 := valL_mono (s.data.toList.take (k + 1)) (s.data.toList.drop (k + 1))
          rw [List.take_append_drop] at h1
          rw [hr.out, if_pos (by have := HS.out; have := HM.out; omega)]
        subst hr2
        clear c1 c2
        go_wp2
        go_ret2
        exact ⟨rfl, rfl⟩
      · have hvn : vi * 10 + ((s[k].toNat : Int) - 48) ≤ Mi := by omega
        clear c1 c2
        go_wp2
        go_round
        case rel => exact ⟨k + 1, _, by omega, by go_num, rfl, HS.out.symm, hvn⟩
        case measure => simp [intOf]; omega
    · have hr2 : r = .tuple #[.int .u64 vi, .bool true] := by
        have hv := HV.out
        rw [List.take_of_length_le (by rw [size_list]; omega)] at hv
        rw [hr.out, if_neg (by have := HM.out; omega), hv]
      subst hr2
      go_wp2
      go_ret2
      exact ⟨rfl, rfl⟩

end Go.Proofs.Ytddeiidkmihkkaa.Nm
