/-
 Contracts and plain facts on the way to PrettyTerms. Conditions: as each says.
-/
import Derived.Test.YtoaplbljflhheaaGreatTai
import Derived.Test.YtoaplbljflhheaaGreatTad
set_option maxHeartbeats 40000000
set_option maxRecDepth 100000
set_option linter.unusedVariables false
set_option linter.unusedSimpArgs false
namespace Go.Proofs.YtoaplbljflhheaaGreat
section
open Go.RowKit
theorem Xc (c : UInt8) (w : World) : Calls Tryz.prog 127 #[byt c] w fun e w' => e = .returned (.bool (sml c)) ∧ w = w' := by
 by_cases h95 : c = 95
 ·subst h95
  go_enter Tryz.func127, Tryz.ntmps127
  go_wp2
  go_ret
  exact ⟨rfl, rfl⟩
 have e95 : ((c.toNat : Int) == 95) = false := Ac (n := 95) (by decide) h95
 by_cases h1 : (97 : Int) ≤ c.toNat
 ·by_cases h2 : (c.toNat : Int) ≤ 122
  ·have H := zz (show sml c = true by simp [sml]; omega)
   clear h95
   go_enter Tryz.func127, Tryz.ntmps127
   go_wp2
   go_ret
   rw [H.out]
   exact ⟨rfl, rfl⟩
  ·have H := zz (show sml c = false by simp [sml, h95]; omega)
   clear h95
   go_enter Tryz.func127, Tryz.ntmps127
   go_wp2
   go_ret
   rw [H.out]
   exact ⟨rfl, rfl⟩
 ·have H := zz (show sml c = false by simp [sml, h95]; omega)
  clear h95
  go_enter Tryz.func127, Tryz.ntmps127
  go_wp2
  go_ret
  rw [H.out]
  exact ⟨rfl, rfl⟩
theorem Z8 (c : UInt8) (w : World) : Calls Tryz.prog 128 #[byt c] w fun e w' => e = .returned (.bool (grt c)) ∧ w = w' := by
 by_cases h1 : (65 : Int) ≤ c.toNat
 ·by_cases h2 : (c.toNat : Int) ≤ 90
  ·have H := zz (show grt c = true by simp [grt]; omega)
   go_enter Tryz.func128, Tryz.ntmps128
   go_wp2
   go_ret
   rw [H.out]
   exact ⟨rfl, rfl⟩
  ·have H := zz (show grt c = false by simp [grt]; omega)
   go_enter Tryz.func128, Tryz.ntmps128
   go_wp2
   go_ret
   rw [H.out]
   exact ⟨rfl, rfl⟩
 ·have H := zz (show grt c = false by simp [grt]; omega)
  go_enter Tryz.func128, Tryz.ntmps128
  go_wp2
  go_ret
  rw [H.out]
  exact ⟨rfl, rfl⟩
theorem La (c : UInt8) (w : World) : Calls Tryz.prog 132 #[byt c] w fun e w' => e = .returned (.bool (dgt c)) ∧ w = w' := by
 by_cases h1 : (48 : Int) ≤ c.toNat
 ·by_cases h2 : (c.toNat : Int) ≤ 57
  ·have H := zz (show dgt c = true by simp [dgt]; omega)
   go_enter Tryz.func132, Tryz.ntmps132
   go_wp2
   go_ret
   rw [H.out]
   exact ⟨rfl, rfl⟩
  ·have H := zz (show dgt c = false by simp [dgt]; omega)
   go_enter Tryz.func132, Tryz.ntmps132
   go_wp2
   go_ret
   rw [H.out]
   exact ⟨rfl, rfl⟩
 ·have H := zz (show dgt c = false by simp [dgt]; omega)
  go_enter Tryz.func132, Tryz.ntmps132
  go_wp2
  go_ret
  rw [H.out]
  exact ⟨rfl, rfl⟩
theorem Kt {c : UInt8} {b : Bool} (h : sml c = b) (w : World) : Calls Tryz.prog 127 #[byt c] w fun e w' => e = .returned (.bool b) ∧ w = w' := h ▸ Xc c w
theorem Hw {c : UInt8} {b : Bool} (h : grt c = b) (w : World) : Calls Tryz.prog 128 #[byt c] w fun e w' => e = .returned (.bool b) ∧ w = w' := h ▸ Z8 c w
theorem Ts {c : UInt8} {b : Bool} (h : dgt c = b) (w : World) : Calls Tryz.prog 132 #[byt c] w fun e w' => e = .returned (.bool b) ∧ w = w' := h ▸ La c w
theorem Tf (c : UInt8) (w : World) : Calls Tryz.prog 129 #[byt c] w fun e w' => e = .returned (.bool (nam c)) ∧ w = w' := by
 cases h1 : sml c with
 | true =>
  have H1 := zz (fun w => Kt h1 w)
  have H := zz (show nam c = true by simp [nam, h1])
  clear h1
  go_enter Tryz.func129, Tryz.ntmps129
  go_wp2_with fail
  refine (H1.out _).mono ?_
  rintro e w' ⟨rfl, rfl⟩
  go_wp2
  go_ret
  rw [H.out]
  exact ⟨rfl, rfl⟩
 | false =>
  have H1 := zz (fun w => Kt h1 w)
  cases h2 : grt c with
  | true =>
   have H2 := zz (fun w => Hw h2 w)
   have H := zz (show nam c = true by simp [nam, h2])
   clear h1 h2
   go_enter Tryz.func129, Tryz.ntmps129
   go_wp2_with fail
   refine (H1.out _).mono ?_
   rintro e w' ⟨rfl, rfl⟩
   go_wp2_with fail
   refine (H2.out _).mono ?_
   rintro e w' ⟨rfl, rfl⟩
   go_wp2
   go_ret
   rw [H.out]
   exact ⟨rfl, rfl⟩
  | false =>
   have H2 := zz (fun w => Hw h2 w)
   have H3 := zz (fun w => La c w)
   have H := zz (show nam c = dgt c by simp [nam, h1, h2])
   clear h1 h2
   go_enter Tryz.func129, Tryz.ntmps129
   go_wp2_with fail
   refine (H1.out _).mono ?_
   rintro e w' ⟨rfl, rfl⟩
   go_wp2_with fail
   refine (H2.out _).mono ?_
   rintro e w' ⟨rfl, rfl⟩
   go_wp2_with fail
   refine (H3.out _).mono ?_
   rintro e w' ⟨rfl, rfl⟩
   go_wp2
   go_ret
   rw [H.out]
   exact ⟨rfl, rfl⟩
theorem Zj (c : UInt8) (w : World) : Calls Tryz.prog 95 #[byt c] w fun e w' => e = .returned (.bool (nlf c)) ∧ w = w' := by
 by_cases h : c = 10
 ·subst h
  go_enter Tryz.func95, Tryz.ntmps95
  go_wp2
  go_ret
  exact ⟨rfl, rfl⟩
 ·have e1 : ((c.toNat : Int) != 10) = true := b5m (n := 10) (by decide) h
  have H := zz (show nlf c = true by simp [nlf, h])
  clear h
  go_enter Tryz.func95, Tryz.ntmps95
  go_wp2
  go_ret
  rw [H.out]
  exact ⟨rfl, rfl⟩
theorem Zg (c : UInt8) (w : World) : Calls Tryz.prog 189 #[byt c] w fun e w' => e = .returned (.bool (nou c)) ∧ w = w' := by
 by_cases h : c = 48
 ·subst h
  go_enter Tryz.func189, Tryz.ntmps189
  go_wp2
  go_ret
  exact ⟨rfl, rfl⟩
 ·have e1 : ((c.toNat : Int) == 48) = false := Ac (n := 48) (by decide) h
  have H := zz (show nou c = false by simp [nou, h])
  clear h
  go_enter Tryz.func189, Tryz.ntmps189
  go_wp2
  go_ret
  rw [H.out]
  exact ⟨rfl, rfl⟩
end
end Go.Proofs.YtoaplbljflhheaaGreat
namespace Go.Proofs.YtoaplbljflhheaaGreat
section
open Go.RowKit
theorem G8 {p : UInt8 → Bool} {c : UInt8} {t : List UInt8} (h : p c = true) : Cb p (c :: t) = Cb p t + 1 := by rw [Cb, if_pos h]
theorem I3 {p : UInt8 → Bool} {c : UInt8} {t : List UInt8} (h : p c = false) : Cb p (c :: t) = 0 := by rw [Cb, if_neg (by simp [h])]
theorem a8b (s : ByteArray) (hs : s.size ≤ 1000000) (w : World) :
  Calls Tryz.prog 94 #[.string s, .func (.func 95) #[] #[]] w fun e w' => e = .returned (.int .i64 (Cb nlf s.data.toList : Nat)) ∧ w = w' := by
 obtain ⟨R, hR⟩ : ∃ R, Cb nlf s.data.toList = R := ⟨_, rfl⟩
 rw [hR]
 replace hR := zz hR
 go_enter Tryz.func94, Tryz.ntmps94
 go_wp2
 go_loop [5] (fun i => ∃ k : Nat, k ≤ s.size ∧ i = .int .i64 k ∧ k + Cb nlf (s.data.toList.drop k) = R) (fun i => s.size - (intOf i).toNat)
 case atStart => exact ⟨0, Nat.zero_le _, rfl, by rw [← hR.out]; simp⟩
 case round =>
  obtain ⟨k, hk, rfl, hk2⟩ := hrel
  by_cases hlt : k < s.size
  ·rw [A3 s k hlt] at hk2
   cases hp : nlf s[k] with
   | true =>
    have HP := zz (fun w => Zj s[k] w)
    rw [hp] at HP
    rw [G8 hp] at hk2
    replace hk2 := zz hk2
    clear hp
    go_wp2_with fail
    refine (HP.out _).mono ?_
    rintro e w' ⟨rfl, rfl⟩
    go_wp2
    go_round
    case rel => exact ⟨k + 1, hlt, by go_num, by have := hk2.out; omega⟩
    case measure => simp [intOf]; omega
   | false =>
    have HP := zz (fun w => Zj s[k] w)
    rw [hp] at HP
    rw [I3 hp] at hk2
    replace hk2 := zz hk2
    clear hp
    go_wp2_with fail
    refine (HP.out _).mono ?_
    rintro e w' ⟨rfl, rfl⟩
    go_wp2
    go_ret
    exact ⟨D3 (by have := hk2.out; omega), rfl⟩
  ·rw [Dr s k (by omega)] at hk2
   have hlt2 : ¬ (k : Int) < s.size := by omega
   replace hk2 := zz (show k = R from hk2)
   go_wp2
   go_ret
   exact ⟨D3 (by have := hk2.out; omega), rfl⟩
theorem Vh (s : ByteArray) (hs : s.size ≤ 1000000) (R : Nat) (hR : Cb nlf s.data.toList = R) (w : World) :
  Calls Tryz.prog 94 #[.string s, .func (.func 95) #[] #[]] w fun e w' => e = .returned (.int .i64 (R : Nat)) ∧ w = w' := hR ▸ a8b s hs w
theorem a8c (s : ByteArray) (hs : s.size ≤ 1000000) (w : World) :
  Calls Tryz.prog 94 #[.string s, .func (.func 129) #[] #[]] w fun e w' => e = .returned (.int .i64 (Cb nam s.data.toList : Nat)) ∧ w = w' := by
 obtain ⟨R, hR⟩ : ∃ R, Cb nam s.data.toList = R := ⟨_, rfl⟩
 rw [hR]
 replace hR := zz hR
 go_enter Tryz.func94, Tryz.ntmps94
 go_wp2
 go_loop [5] (fun i => ∃ k : Nat, k ≤ s.size ∧ i = .int .i64 k ∧ k + Cb nam (s.data.toList.drop k) = R) (fun i => s.size - (intOf i).toNat)
 case atStart => exact ⟨0, Nat.zero_le _, rfl, by rw [← hR.out]; simp⟩
 case round =>
  obtain ⟨k, hk, rfl, hk2⟩ := hrel
  by_cases hlt : k < s.size
  ·rw [A3 s k hlt] at hk2
   cases hp : nam s[k] with
   | true =>
    have HP := zz (fun w => Tf s[k] w)
    rw [hp] at HP
    rw [G8 hp] at hk2
    replace hk2 := zz hk2
    clear hp
    go_wp2_with fail
    refine (HP.out _).mono ?_
    rintro e w' ⟨rfl, rfl⟩
    go_wp2
    go_round
    case rel => exact ⟨k + 1, hlt, by go_num, by have := hk2.out; omega⟩
    case measure => simp [intOf]; omega
   | false =>
    have HP := zz (fun w => Tf s[k] w)
    rw [hp] at HP
    rw [I3 hp] at hk2
    replace hk2 := zz hk2
    clear hp
    go_wp2_with fail
    refine (HP.out _).mono ?_
    rintro e w' ⟨rfl, rfl⟩
    go_wp2
    go_ret
    exact ⟨D3 (by have := hk2.out; omega), rfl⟩
  ·rw [Dr s k (by omega)] at hk2
   have hlt2 : ¬ (k : Int) < s.size := by omega
   replace hk2 := zz (show k = R from hk2)
   go_wp2
   go_ret
   exact ⟨D3 (by have := hk2.out; omega), rfl⟩
theorem M9 (s : ByteArray) (hs : s.size ≤ 1000000) (R : Nat) (hR : Cb nam s.data.toList = R) (w : World) :
  Calls Tryz.prog 94 #[.string s, .func (.func 129) #[] #[]] w fun e w' => e = .returned (.int .i64 (R : Nat)) ∧ w = w' := hR ▸ a8c s hs w
theorem a8d (s : ByteArray) (hs : s.size ≤ 1000000) (w : World) :
  Calls Tryz.prog 94 #[.string s, .func (.func 132) #[] #[]] w fun e w' => e = .returned (.int .i64 (Cb dgt s.data.toList : Nat)) ∧ w = w' := by
 obtain ⟨R, hR⟩ : ∃ R, Cb dgt s.data.toList = R := ⟨_, rfl⟩
 rw [hR]
 replace hR := zz hR
 go_enter Tryz.func94, Tryz.ntmps94
 go_wp2
 go_loop [5] (fun i => ∃ k : Nat, k ≤ s.size ∧ i = .int .i64 k ∧ k + Cb dgt (s.data.toList.drop k) = R) (fun i => s.size - (intOf i).toNat)
 case atStart => exact ⟨0, Nat.zero_le _, rfl, by rw [← hR.out]; simp⟩
 case round =>
  obtain ⟨k, hk, rfl, hk2⟩ := hrel
  by_cases hlt : k < s.size
  ·rw [A3 s k hlt] at hk2
   cases hp : dgt s[k] with
   | true =>
    have HP := zz (fun w => La s[k] w)
    rw [hp] at HP
    rw [G8 hp] at hk2
    replace hk2 := zz hk2
    clear hp
    go_wp2_with fail
    refine (HP.out _).mono ?_
    rintro e w' ⟨rfl, rfl⟩
    go_wp2
    go_round
    case rel => exact ⟨k + 1, hlt, by go_num, by have := hk2.out; omega⟩
    case measure => simp [intOf]; omega
   | false =>
    have HP := zz (fun w => La s[k] w)
    rw [hp] at HP
    rw [I3 hp] at hk2
    replace hk2 := zz hk2
    clear hp
    go_wp2_with fail
    refine (HP.out _).mono ?_
    rintro e w' ⟨rfl, rfl⟩
    go_wp2
    go_ret
    exact ⟨D3 (by have := hk2.out; omega), rfl⟩
  ·rw [Dr s k (by omega)] at hk2
   have hlt2 : ¬ (k : Int) < s.size := by omega
   replace hk2 := zz (show k = R from hk2)
   go_wp2
   go_ret
   exact ⟨D3 (by have := hk2.out; omega), rfl⟩
theorem Vi (s : ByteArray) (hs : s.size ≤ 1000000) (R : Nat) (hR : Cb dgt s.data.toList = R) (w : World) :
  Calls Tryz.prog 94 #[.string s, .func (.func 132) #[] #[]] w fun e w' => e = .returned (.int .i64 (R : Nat)) ∧ w = w' := hR ▸ a8d s hs w
theorem a8a (s : ByteArray) (hs : s.size ≤ 1000000) (w : World) :
  Calls Tryz.prog 94 #[.string s, .func (.func 189) #[] #[]] w fun e w' => e = .returned (.int .i64 (Cb nou s.data.toList : Nat)) ∧ w = w' := by
 obtain ⟨R, hR⟩ : ∃ R, Cb nou s.data.toList = R := ⟨_, rfl⟩
 rw [hR]
 replace hR := zz hR
 go_enter Tryz.func94, Tryz.ntmps94
 go_wp2
 go_loop [5] (fun i => ∃ k : Nat, k ≤ s.size ∧ i = .int .i64 k ∧ k + Cb nou (s.data.toList.drop k) = R) (fun i => s.size - (intOf i).toNat)
 case atStart => exact ⟨0, Nat.zero_le _, rfl, by rw [← hR.out]; simp⟩
 case round =>
  obtain ⟨k, hk, rfl, hk2⟩ := hrel
  by_cases hlt : k < s.size
  ·rw [A3 s k hlt] at hk2
   cases hp : nou s[k] with
   | true =>
    have HP := zz (fun w => Zg s[k] w)
    rw [hp] at HP
    rw [G8 hp] at hk2
    replace hk2 := zz hk2
    clear hp
    go_wp2_with fail
    refine (HP.out _).mono ?_
    rintro e w' ⟨rfl, rfl⟩
    go_wp2
    go_round
    case rel => exact ⟨k + 1, hlt, by go_num, by have := hk2.out; omega⟩
    case measure => simp [intOf]; omega
   | false =>
    have HP := zz (fun w => Zg s[k] w)
    rw [hp] at HP
    rw [I3 hp] at hk2
    replace hk2 := zz hk2
    clear hp
    go_wp2_with fail
    refine (HP.out _).mono ?_
    rintro e w' ⟨rfl, rfl⟩
    go_wp2
    go_ret
    exact ⟨D3 (by have := hk2.out; omega), rfl⟩
  ·rw [Dr s k (by omega)] at hk2
   have hlt2 : ¬ (k : Int) < s.size := by omega
   replace hk2 := zz (show k = R from hk2)
   go_wp2
   go_ret
   exact ⟨D3 (by have := hk2.out; omega), rfl⟩
theorem Vg (s : ByteArray) (hs : s.size ≤ 1000000) (R : Nat) (hR : Cb nou s.data.toList = R) (w : World) :
  Calls Tryz.prog 94 #[.string s, .func (.func 189) #[] #[]] w fun e w' => e = .returned (.int .i64 (R : Nat)) ∧ w = w' := hR ▸ a8a s hs w
end
end Go.Proofs.YtoaplbljflhheaaGreat
namespace Go.Proofs.YtoaplbljflhheaaGreat
section
open Go.RowKit
theorem Ae {s : ByteArray} {l : List UInt8} (h : s.data.toList ≠ l) : (s.toList == l) = false := by rw [ByteArray.toList_eq]; simpa using h
theorem D8 {s : ByteArray} {l : List UInt8} (h : s.data.toList = l) : s = bs l := by rw [← h, Qo]
theorem b1e (w : World) : Calls Tryz.prog 107 #[.string { data := #[114, 101, 99] }] w fun e w' => e = .returned (.bool true) ∧ w = w' := by
 go_enter Tryz.func107, Tryz.ntmps107
 go_wp2
 go_ret
 exact ⟨rfl, rfl⟩
theorem b1d (w : World) : Calls Tryz.prog 107 #[.string { data := #[102, 110] }] w fun e w' => e = .returned (.bool true) ∧ w = w' := by
 go_enter Tryz.func107, Tryz.ntmps107
 go_wp2
 go_ret
 exact ⟨rfl, rfl⟩
theorem b1c (w : World) : Calls Tryz.prog 107 #[.string { data := #[118, 97, 114] }] w fun e w' => e = .returned (.bool true) ∧ w = w' := by
 go_enter Tryz.func107, Tryz.ntmps107
 go_wp2
 go_ret
 exact ⟨rfl, rfl⟩
theorem b1b (w : World) : Calls Tryz.prog 107 #[.string { data := #[105, 102] }] w fun e w' => e = .returned (.bool true) ∧ w = w' := by
 go_enter Tryz.func107, Tryz.ntmps107
 go_wp2
 go_ret
 exact ⟨rfl, rfl⟩
theorem b1a (w : World) : Calls Tryz.prog 107 #[.string { data := #[101, 108, 115, 101] }] w fun e w' => e = .returned (.bool true) ∧ w = w' := by
 go_enter Tryz.func107, Tryz.ntmps107
 go_wp2
 go_ret
 exact ⟨rfl, rfl⟩
theorem b09 (w : World) : Calls Tryz.prog 107 #[.string { data := #[119, 104, 105, 108, 101] }] w fun e w' => e = .returned (.bool true) ∧ w = w' := by
 go_enter Tryz.func107, Tryz.ntmps107
 go_wp2
 go_ret
 exact ⟨rfl, rfl⟩
theorem b08 (w : World) : Calls Tryz.prog 107 #[.string { data := #[114, 101, 116, 117, 114, 110] }] w fun e w' => e = .returned (.bool true) ∧ w = w' := by
 go_enter Tryz.func107, Tryz.ntmps107
 go_wp2
 go_ret
 exact ⟨rfl, rfl⟩
theorem b07 (w : World) : Calls Tryz.prog 107 #[.string { data := #[112, 114, 105, 110, 116] }] w fun e w' => e = .returned (.bool true) ∧ w = w' := by
 go_enter Tryz.func107, Tryz.ntmps107
 go_wp2
 go_ret
 exact ⟨rfl, rfl⟩
theorem b06 (w : World) : Calls Tryz.prog 107 #[.string { data := #[116, 114, 117, 101] }] w fun e w' => e = .returned (.bool true) ∧ w = w' := by
 go_enter Tryz.func107, Tryz.ntmps107
 go_wp2
 go_ret
 exact ⟨rfl, rfl⟩
theorem b05 (w : World) : Calls Tryz.prog 107 #[.string { data := #[102, 97, 108, 115, 101] }] w fun e w' => e = .returned (.bool true) ∧ w = w' := by
 go_enter Tryz.func107, Tryz.ntmps107
 go_wp2
 go_ret
 exact ⟨rfl, rfl⟩
theorem a65 (w : World) : Calls Tryz.prog 107 #[.string { data := #[110, 105, 108] }] w fun e w' => e = .returned (.bool true) ∧ w = w' := by
 go_enter Tryz.func107, Tryz.ntmps107
 go_wp2
 go_ret
 exact ⟨rfl, rfl⟩
theorem a64 (w : World) : Calls Tryz.prog 107 #[.string { data := #[109, 97, 107, 101] }] w fun e w' => e = .returned (.bool true) ∧ w = w' := by
 go_enter Tryz.func107, Tryz.ntmps107
 go_wp2
 go_ret
 exact ⟨rfl, rfl⟩
theorem a63 (w : World) : Calls Tryz.prog 107 #[.string { data := #[105, 110, 116] }] w fun e w' => e = .returned (.bool true) ∧ w = w' := by
 go_enter Tryz.func107, Tryz.ntmps107
 go_wp2
 go_ret
 exact ⟨rfl, rfl⟩
theorem a62 (w : World) : Calls Tryz.prog 107 #[.string { data := #[98, 111, 111, 108] }] w fun e w' => e = .returned (.bool true) ∧ w = w' := by
 go_enter Tryz.func107, Tryz.ntmps107
 go_wp2
 go_ret
 exact ⟨rfl, rfl⟩
theorem a61 (w : World) : Calls Tryz.prog 107 #[.string { data := #[115, 116, 114] }] w fun e w' => e = .returned (.bool true) ∧ w = w' := by
 go_enter Tryz.func107, Tryz.ntmps107
 go_wp2
 go_ret
 exact ⟨rfl, rfl⟩
theorem a60 (w : World) : Calls Tryz.prog 107 #[.string { data := #[99, 111, 109, 112] }] w fun e w' => e = .returned (.bool true) ∧ w = w' := by
 go_enter Tryz.func107, Tryz.ntmps107
 go_wp2
 go_ret
 exact ⟨rfl, rfl⟩
theorem Ws (s : ByteArray) (w : World) (e0 : (s.toList == [114, 101, 99]) = false) (e1 : (s.toList == [102, 110]) = false) (e2 : (s.toList == [118, 97, 114]) = false) (e3 : (s.toList == [105, 102]) = false) (e4 : (s.toList == [101, 108, 115, 101]) = false) (e5 : (s.toList == [119, 104, 105, 108, 101]) = false) (e6 : (s.toList == [114, 101, 116, 117, 114, 110]) = false) (e7 : (s.toList == [112, 114, 105, 110, 116]) = false) (e8 : (s.toList == [116, 114, 117, 101]) = false) (e9 : (s.toList == [102, 97, 108, 115, 101]) = false) (e10 : (s.toList == [110, 105, 108]) = false) (e11 : (s.toList == [109, 97, 107, 101]) = false) (e12 : (s.toList == [105, 110, 116]) = false) (e13 : (s.toList == [98, 111, 111, 108]) = false) (e14 : (s.toList == [115, 116, 114]) = false) (e15 : (s.toList == [99, 111, 109, 112]) = false) : Calls Tryz.prog 107 #[.string s] w fun e w' => e = .returned (.bool false) ∧ w = w' := by
 go_enter Tryz.func107, Tryz.ntmps107
 go_wp2
 go_ret
 exact ⟨rfl, rfl⟩
theorem a1y (s : ByteArray) (w : World) : Calls Tryz.prog 107 #[.string s] w fun e w' => e = .returned (.bool (F4 s.data.toList)) ∧ w = w' := by
 by_cases h0 : s.data.toList = [114, 101, 99]
 ·rw [D8 h0]; exact b1e w
 by_cases h1 : s.data.toList = [102, 110]
 ·rw [D8 h1]; exact b1d w
 by_cases h2 : s.data.toList = [118, 97, 114]
 ·rw [D8 h2]; exact b1c w
 by_cases h3 : s.data.toList = [105, 102]
 ·rw [D8 h3]; exact b1b w
 by_cases h4 : s.data.toList = [101, 108, 115, 101]
 ·rw [D8 h4]; exact b1a w
 by_cases h5 : s.data.toList = [119, 104, 105, 108, 101]
 ·rw [D8 h5]; exact b09 w
 by_cases h6 : s.data.toList = [114, 101, 116, 117, 114, 110]
 ·rw [D8 h6]; exact b08 w
 by_cases h7 : s.data.toList = [112, 114, 105, 110, 116]
 ·rw [D8 h7]; exact b07 w
 by_cases h8 : s.data.toList = [116, 114, 117, 101]
 ·rw [D8 h8]; exact b06 w
 by_cases h9 : s.data.toList = [102, 97, 108, 115, 101]
 ·rw [D8 h9]; exact b05 w
 by_cases h10 : s.data.toList = [110, 105, 108]
 ·rw [D8 h10]; exact a65 w
 by_cases h11 : s.data.toList = [109, 97, 107, 101]
 ·rw [D8 h11]; exact a64 w
 by_cases h12 : s.data.toList = [105, 110, 116]
 ·rw [D8 h12]; exact a63 w
 by_cases h13 : s.data.toList = [98, 111, 111, 108]
 ·rw [D8 h13]; exact a62 w
 by_cases h14 : s.data.toList = [115, 116, 114]
 ·rw [D8 h14]; exact a61 w
 by_cases h15 : s.data.toList = [99, 111, 109, 112]
 ·rw [D8 h15]; exact a60 w
 rw [show F4 s.data.toList = false by simp [F4, Qx, h0, h1, h2, h3, h4, h5, h6, h7, h8, h9, h10, h11, h12, h13, h14, h15]]
 exact Ws s w (Ae h0) (Ae h1) (Ae h2) (Ae h3) (Ae h4) (Ae h5) (Ae h6) (Ae h7) (Ae h8) (Ae h9) (Ae h10) (Ae h11) (Ae h12) (Ae h13) (Ae h14) (Ae h15)
theorem Qy (s : ByteArray) (b : Bool) (h : F4 s.data.toList = b) (w : World) : Calls Tryz.prog 107 #[.string s] w fun e w' => e = .returned (.bool b) ∧ w = w' := h ▸ a1y s w
end
end Go.Proofs.YtoaplbljflhheaaGreat
namespace Go.Proofs.YtoaplbljflhheaaGreat
section
open Go.RowKit
def plc (a b : Nat) : List UInt8 → Nat × Nat
 | [] => (a, b)
 | c :: t => if c = 10 then plc (a + 1) 1 t else plc a (b + 1) t
end
end Go.Proofs.YtoaplbljflhheaaGreat
