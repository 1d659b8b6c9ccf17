/-
  Contracts of num.areDigits and num.sizeOf. Conditions: texts of at most 100000 bytes.
-/
import Derived.Test.YtddeiidkmihkkaaNDec
import Derived.Handy
import Derived.WalkSpells
import Derived.WalkLawsBesides
import Derived.Test.YtddeiidkmihkkaaRows
namespace Go.Proofs.Ytddeiidkmihkkaa.Nm
open Go.RowKit

theorem take_snoc (s : ByteArray) (k : Nat) (h : k < s.size) : s.data.toList.take (k + 1) = s.data.toList.take k ++ [s[k]] := by
  rw [List.take_succ_eq_append_getElem (by simpa using h)]; rfl
theorem all_split (s : ByteArray) (k : Nat) (h : k < s.size) (hd : digB s[k] = false) : s.data.toList.all digB = false := by
  rw [← List.take_append_drop (k + 1) s.data.toList, List.all_append, take_snoc s k h, List.all_append]
  simp [hd]
theorem size_list (s : ByteArray) : s.data.toList.length = s.size := by simp
theorem head_list (s : ByteArray) (h : 0 < s.size) : s.data.toList.headD 0 = s[0] := by
  have := take_snoc s 0 h
  rw [← List.take_append_drop 1 s.data.toList, this]; rfl
theorem empty_list (s : ByteArray) (h : 0 < s.size) : s.data.toList.isEmpty = false := by
  have := size_list s
  cases hl : s.data.toList with
  | nil => rw [hl] at this; simp at this; omega
  | cons a l => rfl
theorem toList_ne (s : ByteArray) (h : 0 < s.size) : s.toList.isEmpty = false := by
  rw [ByteArray.toList_eq]; exact empty_list s h

set_option maxHeartbeats 400000 in
theorem areDigits_empty (w : World) :
    Calls Try.prog 46 #[.string { data := #[] }] w fun e w' => e = .returned (.bool false) ∧ w = w' := by
  go_enter Try.func46, Try.ntmps46
  go_wp2
  go_ret
  exact ⟨rfl, rfl⟩

set_option maxHeartbeats 400000 in
theorem areDigits_some (s : ByteArray) (w : World) (hs : s.size ≤ 100000) (h0 : 0 < s.size) :
    Calls Try.prog 46 #[.string s] w fun e w' => e = .returned (.bool (isDec s.data.toList)) ∧ w = w' := by
  have he := toList_ne s h0
  have he2 : ¬ s.toList = [] := by intro h; rw [h] at he; simp at he
  have h0' : (0 : Int) < s.size := by omega
  obtain ⟨b, hb⟩ : ∃ b, isDec s.data.toList = b := ⟨_, rfl⟩
  rw [hb]
  have HB := Lib.hid hb
  clear hb
  by_cases hz : ((s[0].toNat : Int) == 48) = true
  · by_cases h1 : 1 < s.size
    · obtain rfl : b = false := by
        rw [← HB.out]; unfold isDec
        have e : s[0] = 48 := UInt8.toNat_inj.1 (by simp at hz; have : (48 : UInt8).toNat = 48 := rfl; omega)
        rw [head_list s h0, size_list, e, decide_eq_true h1]; simp
      have h1' : (1 : Int) < s.size := by omega
      go_enter Try.func46, Try.ntmps46
      go_wp2
      go_ret
      exact ⟨rfl, rfl⟩
    · have h1' : ¬ (1 : Int) < s.size := by omega
      go_enter Try.func46, Try.ntmps46
      go_wp2
      go_loop [18] (fun i => ∃ k : Nat, k ≤ s.size ∧ i = .int .i64 k ∧ (s.data.toList.take k).all digB = true) (fun i => s.size - (intOf i).toNat)
      case atStart => exact ⟨0, by omega, rfl, rfl⟩
      case round =>
        obtain ⟨k, hk, rfl, hall⟩ := hrel
        have HA := Lib.hid hall
        clear hall
        by_cases hlt : k < s.size
        · by_cases hlo : s[k].toNat < 48
          · have hd : digB s[k] = false := by unfold digB; simp; omega
            have hb : b = false := by rw [← HB.out]; unfold isDec; rw [all_split s k hlt hd]; simp
            subst hb
            clear hd
            have hlo' : (s[k].toNat : Int) < 48 := by omega
            go_wp2
            go_ret
            exact ⟨rfl, rfl⟩
          · by_cases hhi : 57 < s[k].toNat
            · have hd : digB s[k] = false := by unfold digB; simp; omega
              have hb : b = false := by rw [← HB.out]; unfold isDec; rw [all_split s k hlt hd]; simp
              subst hb
              clear hd
              have hlo' : ¬ (s[k].toNat : Int) < 48 := by omega
              have hhi' : 57 < (s[k].toNat : Int) := by omega
              go_wp2
              go_ret
              exact ⟨rfl, rfl⟩
            · have hd : digB s[k] = true := by unfold digB; simp; omega
              have HS := Lib.hid (show (s.data.toList.take (k + 1)).all digB = true by rw [take_snoc s k hlt, List.all_append, HA.out]; simp [hd])
              clear hd
              have hlo' : ¬ (s[k].toNat : Int) < 48 := by omega
              have hhi' : ¬ 57 < (s[k].toNat : Int) := by omega
              go_wp2
              go_round
              case rel => exact ⟨k + 1, by omega, by go_num, HS.out⟩
              case measure => simp [intOf]; omega
        · have hb : b = true := by
            rw [← HB.out]; unfold isDec
            have ha := HA.out
            rw [List.take_of_length_le (by rw [size_list]; omega)] at ha
            rw [ha, empty_list s h0, head_list s h0, size_list]
            rw [decide_eq_false h1]; simp
          subst hb
          go_wp2
          go_ret
          exact ⟨rfl, rfl⟩
  · have hz' : ((s[0].toNat : Int) == 48) = false := by simpa using hz
    go_enter Try.func46, Try.ntmps46
    go_wp2
    go_loop [18] (fun i => ∃ k : Nat, k ≤ s.size ∧ i = .int .i64 k ∧ (s.data.toList.take k).all digB = true) (fun i => s.size - (intOf i).toNat)
    case atStart => exact ⟨0, by omega, rfl, rfl⟩
    case round =>
      obtain ⟨k, hk, rfl, hall⟩ := hrel
      have HA := Lib.hid hall
      clear hall
      by_cases hlt : k < s.size
      · by_cases hlo : s[k].toNat < 48
        · have hd : digB s[k] = false := by unfold digB; simp; omega
          have hb : b = false := by rw [← HB.out]; unfold isDec; rw [all_split s k hlt hd]; simp
          subst hb
          clear hd
          have hlo' : (s[k].toNat : Int) < 48 := by omega
          go_wp2
          go_ret
          exact ⟨rfl, rfl⟩
        · by_cases hhi : 57 < s[k].toNat
          · have hd : digB s[k] = false := by unfold digB; simp; omega
            have hb : b = false := by rw [← HB.out]; unfold isDec; rw [all_split s k hlt hd]; simp
            subst hb
            clear hd
            have hlo' : ¬ (s[k].toNat : Int) < 48 := by omega
            have hhi' : 57 < (s[k].toNat : Int) := by omega
            go_wp2
            go_ret
            exact ⟨rfl, rfl⟩
          · have hd : digB s[k] = true := by unfold digB; simp; omega
            have HS := Lib.hid (show (s.data.toList.take (k + 1)).all digB = true by rw [take_snoc s k hlt, List.all_append, HA.out]; simp [hd])
            clear hd
            have hlo' : ¬ (s[k].toNat : Int) < 48 := by omega
            have hhi' : ¬ 57 < (s[k].toNat : Int) := by omega
            go_wp2
            go_round
            case rel => exact ⟨k + 1, by omega, by go_num, HS.out⟩
            case measure => simp [intOf]; omega
      · have hb : b = true := by
          rw [← HB.out]; unfold isDec
          have ha := HA.out
          rw [List.take_of_length_le (by rw [size_list]; omega)] at ha
          rw [ha, empty_list s h0, head_list s h0, size_list]
          have e : (s[0] == 48) = false := by
            rw [beq_eq_false_iff_ne]; intro e; rw [e] at hz; exact hz rfl
          rw [e]; rfl
        subst hb
        go_wp2
        go_ret
        exact ⟨rfl, rfl⟩

theorem areDigits_any (s : ByteArray) (w : World) (hs : s.size ≤ 100000) :
    Calls Try.prog 46 #[.string s] w fun e w' => e = .returned (.bool (isDec s.data.toList)) ∧ w = w' := by
  by_cases h : 0 < s.size
  · exact areDigits_some s w hs h
  · have e : s = { data := #[] } := by
      have h2 : s.data.size = 0 := by have : s.data.size = s.size := rfl; omega
      apply ByteArray.ext
      exact Array.eq_empty_of_size_eq_zero h2
    subst e
    exact areDigits_empty w

end Go.Proofs.Ytddeiidkmihkkaa.Nm
