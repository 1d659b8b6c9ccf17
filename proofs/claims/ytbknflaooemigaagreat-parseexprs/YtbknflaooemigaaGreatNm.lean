/-
 Plain facts on decimal texts: a number's digits, and the number of digits. No program is spoken of. Conditions: those that are said. Contracts of num.areDigits and num.sizeOf. Conditions: texts of at most 100000 bytes. Contract of num.sizeOf. Conditions: texts of at most 100000 bytes, all digits; a bound of at most 2^63. Contract of num.Parse. Conditions: texts of at most 100000 bytes. Contract of num.Parse for every text of at most 100000 bytes, and that a number's text is read as the number. Conditions: those that are said. Plain facts: which digits are a number above a bound of nineteen digits. No program is spoken of. Conditions: those that are said. Plain fact: what is read is a number of 64 bits. Conditions: none.
-/
import Derived.WalkKit
import Derived.Laws.BytesArg
import Derived.Lib.Hide
import Derived.Handy
import Derived.WalkSpells
import Derived.WalkLawsBesides
import Derived.Test.YtbknflaooemigaaGreatRows
namespace Go.Proofs.YtbknflaooemigaaGreat.Nm
section
open Go.RowKit

/-- The number of digits. -/
def valL (l : List UInt8) : Nat := l.foldl (fun v c => v * 10 + (c.toNat - 48)) 0
def digB (c : UInt8) : Bool := decide (48 ≤ c.toNat) && decide (c.toNat ≤ 57)
/-- Digits, at least one, without noughts ahead of others. -/
def isDec (l : List UInt8) : Bool := !l.isEmpty && !(l.headD 0 == 48 && decide (1 < l.length)) && l.all digB

theorem valL_snoc (l : List UInt8) (c : UInt8) : valL (l ++ [c]) = valL l * 10 + (c.toNat - 48) := by
 unfold valL; rw [List.foldl_append]; rfl
theorem snoc_ind {P : List UInt8 → Prop} (h0 : P []) (h1 : ∀ l c, P l → P (l ++ [c])) : ∀ l, P l := by
 intro l
 have : ∀ n (l : List UInt8), l.length = n → P l := by
  intro n
  induction n with
  | zero => intro l hl; rw [List.length_eq_zero_iff.1 hl]; exact h0
  | succ n ih =>
   intro l hl
   have hne : l ≠ [] := by intro h; rw [h] at hl; simp at hl
   rw [← List.dropLast_concat_getLast hne]
   exact h1 _ _ (ih _ (by simp; omega))
 exact this _ l rfl

/-- Bytes as a string. -/
def bs (l : List UInt8) : ByteArray := ⟨l.toArray⟩
theorem bs_size (l : List UInt8) : (bs l).size = l.length := by simp [bs, ByteArray.size]
theorem bs_list (l : List UInt8) : (bs l).data.toList = l := by simp [bs]
theorem bs_eta (s : ByteArray) : bs s.data.toList = s := by simp [bs]
theorem bs_app (l m : List UInt8) : bs l ++ bs m = bs (l ++ m) := by
 apply ByteArray.ext
 simp [bs]

end
end Go.Proofs.YtbknflaooemigaaGreat.Nm

namespace Go.Proofs.YtbknflaooemigaaGreat.Nm
section
open Go.RowKit

theorem take_snoc (s : ByteArray) (k : Nat) (h : k < s.size) : s.data.toList.take (k + 1) = s.data.toList.take k ++ [s[k]] := by
 rw [List.take_succ_eq_append_getElem (by simpa using h)]; rfl
theorem all_split (s : ByteArray) (k : Nat) (h : k < s.size) (hd : digB s[k] = false) : s.data.toList.all digB = false := by
 rw [← List.take_append_drop (k + 1) s.data.toList, List.all_append, take_snoc s k h, List.all_append]
 simp [hd]
theorem size_list (s : ByteArray) : s.data.toList.length = s.size := by simp
theorem head_list (s : ByteArray) (h : 0 < s.size) : s.data.toList.headD 0 = s[0] := by
 have := take_snoc s 0 h
 rw [← List.take_append_drop 1 s.data.toList, this]; rfl
theorem empty_list (s : ByteArray) (h : 0 < s.size) : s.data.toList.isEmpty = false := by
 have := size_list s
 cases hl : s.data.toList with
 | nil => rw [hl] at this; simp at this; omega
 | cons a l => rfl
theorem toList_ne (s : ByteArray) (h : 0 < s.size) : s.toList.isEmpty = false := by
 rw [ByteArray.toList_eq]; exact empty_list s h

set_option maxHeartbeats 400000 in
theorem areDigits_empty (w : World) :
  Calls Tryz.prog 105 #[.string { data := #[] }] w fun e w' => e = .returned (.bool false) ∧ w = w' := by
 go_enter Tryz.func105, Tryz.ntmps105
 go_wp2
 go_ret
 exact ⟨rfl, rfl⟩

set_option maxHeartbeats 400000 in
theorem areDigits_some (s : ByteArray) (w : World) (hs : s.size ≤ 100000) (h0 : 0 < s.size) :
  Calls Tryz.prog 105 #[.string s] w fun e w' => e = .returned (.bool (isDec s.data.toList)) ∧ w = w' := by
 have he := toList_ne s h0
 have he2 : ¬ s.toList = [] := by intro h; rw [h] at he; simp at he
 have h0' : (0 : Int) < s.size := by omega
 obtain ⟨b, hb⟩ : ∃ b, isDec s.data.toList = b := ⟨_, rfl⟩
 rw [hb]
 have HB := Lib.hid hb
 clear hb
 by_cases hz : ((s[0].toNat : Int) == 48) = true
 ·by_cases h1 : 1 < s.size
  ·obtain rfl : b = false := by
    rw [← HB.out]; unfold isDec
    have e : s[0] = 48 := UInt8.toNat_inj.1 (by simp at hz; have : (48 : UInt8).toNat = 48 := rfl; omega)
    rw [head_list s h0, size_list, e, decide_eq_true h1]; simp
   have h1' : (1 : Int) < s.size := by omega
   go_enter Tryz.func105, Tryz.ntmps105
   go_wp2
   go_ret
   exact ⟨rfl, rfl⟩
  ·have h1' : ¬ (1 : Int) < s.size := by omega
   go_enter Tryz.func105, Tryz.ntmps105
   go_wp2
   go_loop [18] (fun i => ∃ k : Nat, k ≤ s.size ∧ i = .int .i64 k ∧ (s.data.toList.take k).all digB = true) (fun i => s.size - (intOf i).toNat)
   case atStart => exact ⟨0, by omega, rfl, rfl⟩
   case round =>
    obtain ⟨k, hk, rfl, hall⟩ := hrel
    have HA := Lib.hid hall
    clear hall
    by_cases hlt : k < s.size
    ·by_cases hlo : s[k].toNat < 48
     ·have hd : digB s[k] = false := by unfold digB; simp; omega
      have hb : b = false := by rw [← HB.out]; unfold isDec; rw [all_split s k hlt hd]; simp
      subst hb
      clear hd
      have hlo' : (s[k].toNat : Int) < 48 := by omega
      go_wp2
      go_ret
      exact ⟨rfl, rfl⟩
     ·by_cases hhi : 57 < s[k].toNat
      ·have hd : digB s[k] = false := by unfold digB; simp; omega
       have hb : b = false := by rw [← HB.out]; unfold isDec; rw [all_split s k hlt hd]; simp
       subst hb
       clear hd
       have hlo' : ¬ (s[k].toNat : Int) < 48 := by omega
       have hhi' : 57 < (s[k].toNat : Int) := by omega
       go_wp2
       go_ret
       exact ⟨rfl, rfl⟩
      ·have hd : digB s[k] = true := by unfold digB; simp; omega
       have HS := Lib.hid (show (s.data.toList.take (k + 1)).all digB = true by rw [take_snoc s k hlt, List.all_append, HA.out]; simp [hd])
       clear hd
       have hlo' : ¬ (s[k].toNat : Int) < 48 := by omega
       have hhi' : ¬ 57 < (s[k].toNat : Int) := by omega
       go_wp2
       go_round
       case rel => exact ⟨k + 1, by omega, by go_num, HS.out⟩
       case measure => simp [intOf]; omega
    ·have hb : b = true := by
      rw [← HB.out]; unfold isDec
      have ha := HA.out
      rw [List.take_of_length_le (by rw [size_list]; omega)] at ha
      rw [ha, empty_list s h0, head_list s h0, size_list]
      rw [decide_eq_false h1]; simp
     subst hb
     go_wp2
     go_ret
     exact ⟨rfl, rfl⟩
 ·have hz' : ((s[0].toNat : Int) == 48) = false := by simpa using hz
  go_enter Tryz.func105, Tryz.ntmps105
  go_wp2
  go_loop [18] (fun i => ∃ k : Nat, k ≤ s.size ∧ i = .int .i64 k ∧ (s.data.toList.take k).all digB = true) (fun i => s.size - (intOf i).toNat)
  case atStart => exact ⟨0, by omega, rfl, rfl⟩
  case round =>
   obtain ⟨k, hk, rfl, hall⟩ := hrel
   have HA := Lib.hid hall
   clear hall
   by_cases hlt : k < s.size
   ·by_cases hlo : s[k].toNat < 48
    ·have hd : digB s[k] = false := by unfold digB; simp; omega
     have hb : b = false := by rw [← HB.out]; unfold isDec; rw [all_split s k hlt hd]; simp
     subst hb
     clear hd
     have hlo' : (s[k].toNat : Int) < 48 := by omega
     go_wp2
     go_ret
     exact ⟨rfl, rfl⟩
    ·by_cases hhi : 57 < s[k].toNat
     ·have hd : digB s[k] = false := by unfold digB; simp; omega
      have hb : b = false := by rw [← HB.out]; unfold isDec; rw [all_split s k hlt hd]; simp
      subst hb
      clear hd
      have hlo' : ¬ (s[k].toNat : Int) < 48 := by omega
      have hhi' : 57 < (s[k].toNat : Int) := by omega
      go_wp2
      go_ret
      exact ⟨rfl, rfl⟩
     ·have hd : digB s[k] = true := by unfold digB; simp; omega
      have HS := Lib.hid (show (s.data.toList.take (k + 1)).all digB = true by rw [take_snoc s k hlt, List.all_append, HA.out]; simp [hd])
      clear hd
      have hlo' : ¬ (s[k].toNat : Int) < 48 := by omega
      have hhi' : ¬ 57 < (s[k].toNat : Int) := by omega
      go_wp2
      go_round
      case rel => exact ⟨k + 1, by omega, by go_num, HS.out⟩
      case measure => simp [intOf]; omega
   ·have hb : b = true := by
     rw [← HB.out]; unfold isDec
     have ha := HA.out
     rw [List.take_of_length_le (by rw [size_list]; omega)] at ha
     rw [ha, empty_list s h0, head_list s h0, size_list]
     have e : (s[0] == 48) = false := by
      rw [beq_eq_false_iff_ne]; intro e; rw [e] at hz; exact hz rfl
     rw [e]; rfl
    subst hb
    go_wp2
    go_ret
    exact ⟨rfl, rfl⟩

theorem areDigits_any (s : ByteArray) (w : World) (hs : s.size ≤ 100000) :
  Calls Tryz.prog 105 #[.string s] w fun e w' => e = .returned (.bool (isDec s.data.toList)) ∧ w = w' := by
 by_cases h : 0 < s.size
 ·exact areDigits_some s w hs h
 ·have e : s = { data := #[] } := by
   have h2 : s.data.size = 0 := by have : s.data.size = s.size := rfl; omega
   apply ByteArray.ext
   exact Array.eq_empty_of_size_eq_zero h2
  subst e
  exact areDigits_empty w
end
end Go.Proofs.YtbknflaooemigaaGreat.Nm

namespace Go.Proofs.YtbknflaooemigaaGreat.Nm
section
open Go.RowKit

theorem valL_mono (l m : List UInt8) : valL l ≤ valL (l ++ m) := by
 refine snoc_ind (P := fun m => valL l ≤ valL (l ++ m)) ?_ ?_ m
 ·rw [List.append_nil]; exact Nat.le_refl _
 ·intro m c ih
  rw [← List.append_assoc, valL_snoc]; omega
theorem all_at (s : ByteArray) (h : s.data.toList.all digB = true) (k : Nat) (hk : k < s.size) : 48 ≤ s[k].toNat ∧ s[k].toNat ≤ 57 := by
 rw [List.all_eq_true] at h
 have := h s[k] (by
  have h2 := take_snoc s k hk
  have h3 : s[k] ∈ s.data.toList.take (k + 1) := by rw [h2]; simp
  exact List.mem_of_mem_take h3)
 unfold digB at this; simpa using this

set_option maxRecDepth 100000 in
set_option maxHeartbeats 400000 in
theorem sizeOf_any (s : ByteArray) (M : Nat) (r : Value) (w : World) (hs : s.size ≤ 100000) (hall : Hid (s.data.toList.all digB = true)) (hM : Hid (M ≤ 9223372036854775808)) (hM9 : Hid (9 ≤ M))
  (hr : Hid (r = if M < valL s.data.toList then .tuple #[.int .u64 0, .bool false] else .tuple #[.int .u64 (valL s.data.toList), .bool true])) :
  Calls Tryz.prog 106 #[.string s, .int .u64 M] w fun e w' => e = .returned r ∧ w = w' := by
 obtain ⟨Mi, hMi⟩ : ∃ x : Int, (M : Int) = x := ⟨_, rfl⟩
 have m1 : Mi ≤ 9223372036854775808 := by have := hM.out; omega
 have m2 : 9 ≤ Mi := by have := hM9.out; omega
 rw [hMi]
 have HM := Lib.hid hMi
 clear hMi
 go_enter Tryz.func106, Tryz.ntmps106
 go_wp2
 go_loop [6, 11] (fun v i => ∃ (k : Nat) (vi : Int), k ≤ s.size ∧ i = .int .i64 k ∧ v = .int .u64 vi ∧ vi = (valL (s.data.toList.take k) : Nat) ∧ vi ≤ Mi) (fun _ i => s.size - (intOf i).toNat)
 case atStart => exact ⟨0, 0, by omega, rfl, rfl, rfl, by omega⟩
 case round =>
  obtain ⟨k, vi, hk, rfl, rfl, hv, hvM⟩ := hrel
  have hv0 : 0 ≤ vi := by omega
  have HV := Lib.hid hv
  clear hv
  by_cases hlt : k < s.size
  ·have hc := all_at s hall.out k hlt
   have hS := take_snoc s k hlt
   have hS2 : ((valL (s.data.toList.take (k + 1)) : Nat) : Int) = vi * 10 + ((s[k].toNat : Int) - 48) := by
    rw [hS, valL_snoc, HV.out]; omega
   have HS := Lib.hid hS2
   clear hS hS2
   obtain ⟨c1, c2⟩ := hc
   have c1' : 48 ≤ (s[k].toNat : Int) := by omega
   have c2' : (s[k].toNat : Int) ≤ 57 := by omega
   by_cases hov : (Mi - ((s[k].toNat : Int) - 48)) / 10 < vi
   ·have hr2 : r = .tuple #[.int .u64 0, .bool false] := by
     have h1 := valL_mono (s.data.toList.take (k + 1)) (s.data.toList.drop (k + 1))
     rw [List.take_append_drop] at h1
     rw [hr.out, if_pos (by have := HS.out; have := HM.out; omega)]
    subst hr2
    clear c1 c2
    go_wp2
    go_ret2
    exact ⟨rfl, rfl⟩
   ·have hvn : vi * 10 + ((s[k].toNat : Int) - 48) ≤ Mi := by omega
    clear c1 c2
    go_wp2
    go_round
    case rel => exact ⟨k + 1, _, by omega, by go_num, rfl, HS.out.symm, hvn⟩
    case measure => simp [intOf]; omega
  ·have hr2 : r = .tuple #[.int .u64 vi, .bool true] := by
    have hv := HV.out
    rw [List.take_of_length_le (by rw [size_list]; omega)] at hv
    rw [hr.out, if_neg (by have := HM.out; omega), hv]
   subst hr2
   go_wp2
   go_ret2
   exact ⟨rfl, rfl⟩
end
end Go.Proofs.YtbknflaooemigaaGreat.Nm

namespace Go.Proofs.YtbknflaooemigaaGreat.Nm
section
open Go.RowKit

def negB (l : List UInt8) : Bool := l.headD 0 == 45
def body (l : List UInt8) : List UInt8 := if negB l then l.drop 1 else l
def mostOf (b : Bool) : Nat := if b then 9223372036854775808 else 9223372036854775807
def good (l : List UInt8) : Bool := isDec (body l) && !(negB l && body l == [48])
def parseE (l : List UInt8) : Int := if good l then (if mostOf (negB l) < valL (body l) then 14 else 0) else 2
def parseN (l : List UInt8) : Int := if good l then (if mostOf (negB l) < valL (body l) then 0 else if negB l then -(valL (body l) : Int) else valL (body l)) else 0

theorem sizeOf_at (s : ByteArray) (M : Nat) (Mi : Int) (r : Value) (w : World) (hMi : (M : Int) = Mi) (hs : s.size ≤ 100000) (hall : s.data.toList.all digB = true) (hM : M ≤ 9223372036854775808) (hM9 : 9 ≤ M)
  (hr : r = if M < valL s.data.toList then .tuple #[.int .u64 0, .bool false] else .tuple #[.int .u64 (valL s.data.toList), .bool true]) :
  Calls Tryz.prog 106 #[.string s, .int .u64 Mi] w fun e w' => e = .returned r ∧ w = w' := hMi ▸ sizeOf_any s M r w hs hall hM hM9 hr
theorem areDigits_at (s : ByteArray) (b : Bool) (w : World) (hs : s.size ≤ 100000) (hb : isDec s.data.toList = b) :
  Calls Tryz.prog 105 #[.string s] w fun e w' => e = .returned (.bool b) ∧ w = w' := hb ▸ areDigits_any s w hs
theorem isDec_all {l : List UInt8} (h : isDec l = true) : l.all digB = true := by
 unfold isDec at h; simp only [Bool.and_eq_true] at h; exact h.2

set_option maxHeartbeats 400000 in
theorem parse_empty (w : World) :
  Calls Tryz.prog 88 #[.string { data := #[] }] w fun e w' => e = .returned (.tuple #[.int .i64 0, .int .i64 2]) ∧ w = w' := by
 have H := Lib.hid (fun w => areDigits_empty w)
 go_enter Tryz.func88, Tryz.ntmps88
 go_wp2_with fail
 refine (H.out _).mono ?_
 rintro e w' ⟨rfl, rfl⟩
 go_wp2
 go_ret2
 exact ⟨rfl, rfl⟩

set_option maxRecDepth 100000 in
set_option maxHeartbeats 400000 in
theorem parse_minus (s d : ByteArray) (w : World) (hs : s.size ≤ 100000) (h0 : 0 < s.size) (hm : ((s[0].toNat : Int) == 45) = true) (hd : s.extract 1 s.size = d) (hds : d.size ≤ 100000)
  (n e : Int) (hn : Hid (n = if isDec d.data.toList && !(d.data.toList == [48]) then (if 9223372036854775808 < valL d.data.toList then 0 else -(valL d.data.toList : Int)) else 0))
  (he : Hid (e = if isDec d.data.toList && !(d.data.toList == [48]) then (if 9223372036854775808 < valL d.data.toList then 14 else 0) else 2)) :
  Calls Tryz.prog 88 #[.string s] w fun x w' => x = .returned (.tuple #[.int .i64 n, .int .i64 e]) ∧ w = w' := by
 have h0' : (0 : Int) < s.size := by omega
 by_cases hD : isDec d.data.toList = true
 ·have HA := Lib.hid (fun w => areDigits_at d true w hds hD)
  by_cases hz : d.data.toList = [48]
  ·obtain rfl : n = 0 := by rw [hn.out, hz]; rfl
   obtain rfl : e = 2 := by rw [he.out, hz]; rfl
   have e1 : (d.toList == [48]) = true := by rw [ByteArray.toList_eq, hz]; rfl
   have e2 : d.toList = [48] := by rw [ByteArray.toList_eq, hz]
   clear hz hD
   go_enter Tryz.func88, Tryz.ntmps88
   go_wp2_with fail
   refine (HA.out _).mono ?_
   rintro e w' ⟨rfl, rfl⟩
   go_wp2
   go_ret2
   exact ⟨rfl, rfl⟩
  ·have e1 : (d.toList == [48]) = false := by rw [ByteArray.toList_eq]; simpa using hz
   have e2 : ¬ d.toList = [48] := by rw [ByteArray.toList_eq]; exact hz
   have hz2 : (d.data.toList == [48]) = false := by simpa using hz
   have hn2 := hn.out
   have he2 := he.out
   rw [hD, hz2] at hn2 he2
   simp only [Bool.not_false, Bool.and_true, if_true] at hn2 he2
   by_cases hov : 9223372036854775808 < valL d.data.toList
   ·rw [if_pos hov] at hn2 he2
    subst hn2; subst he2
    have HS := Lib.hid (fun w => sizeOf_at d 9223372036854775808 9223372036854775808 _ w rfl hds (isDec_all hD) (by omega) (by omega) (if_pos hov).symm)
    clear hz hz2 hD hov hn he
    go_enter Tryz.func88, Tryz.ntmps88
    go_wp2_with fail
    refine (HA.out _).mono ?_
    rintro e w' ⟨rfl, rfl⟩
    go_wp2_with fail
    refine (HS.out _).mono ?_
    rintro e w' ⟨rfl, rfl⟩
    go_wp2
    go_ret2
    exact ⟨rfl, rfl⟩
   ·rw [if_neg hov] at hn2 he2
    have HS := Lib.hid (fun w => sizeOf_at d 9223372036854775808 9223372036854775808 _ w rfl hds (isDec_all hD) (by omega) (by omega) (if_neg hov).symm)
    obtain ⟨v, hv⟩ : ∃ v : Int, (valL d.data.toList : Int) = v := ⟨_, rfl⟩
    rw [hv] at hn2 HS
    have hq : IntKind.u64.wrap (-v) = (-v) % 18446744073709551616 := IntKind.wrap_u64 _
    obtain ⟨q, hq1⟩ : ∃ q, IntKind.u64.wrap (-v) = q := ⟨_, rfl⟩
    have hq2 : wrap64 q = n := by rw [← hq1, hq, hn2]; unfold wrap64; omega
    subst he2
    clear hz hz2 hD hov hn he hn2 hq hv
    subst hq2
    go_enter Tryz.func88, Tryz.ntmps88
    go_wp2_with fail
    refine (HA.out _).mono ?_
    rintro e w' ⟨rfl, rfl⟩
    go_wp2_with fail
    refine (HS.out _).mono ?_
    rintro e w' ⟨rfl, rfl⟩
    go_wp2
    go_ret2
    exact ⟨rfl, rfl⟩
 ·have hD2 : isDec d.data.toList = false := by simpa using hD
  have HA := Lib.hid (fun w => areDigits_at d false w hds hD2)
  obtain rfl : n = 0 := by rw [hn.out, hD2]; rfl
  obtain rfl : e = 2 := by rw [he.out, hD2]; rfl
  clear hD hD2
  go_enter Tryz.func88, Tryz.ntmps88
  go_wp2_with fail
  refine (HA.out _).mono ?_
  rintro e w' ⟨rfl, rfl⟩
  go_wp2
  go_ret2
  exact ⟨rfl, rfl⟩

set_option maxRecDepth 100000 in
set_option maxHeartbeats 400000 in
theorem parse_plain (s : ByteArray) (w : World) (hs : s.size ≤ 100000) (h0 : 0 < s.size) (hm : ((s[0].toNat : Int) == 45) = false)
  (n e : Int) (hn : Hid (n = if isDec s.data.toList then (if 9223372036854775807 < valL s.data.toList then 0 else (valL s.data.toList : Int)) else 0))
  (he : Hid (e = if isDec s.data.toList then (if 9223372036854775807 < valL s.data.toList then 14 else 0) else 2)) :
  Calls Tryz.prog 88 #[.string s] w fun x w' => x = .returned (.tuple #[.int .i64 n, .int .i64 e]) ∧ w = w' := by
 have h0' : (0 : Int) < s.size := by omega
 by_cases hD : isDec s.data.toList = true
 ·have HA := Lib.hid (fun w => areDigits_at s true w hs hD)
  have hn2 := hn.out
  have he2 := he.out
  rw [hD] at hn2 he2
  simp only [if_true] at hn2 he2
  by_cases hov : 9223372036854775807 < valL s.data.toList
  ·rw [if_pos hov] at hn2 he2
   subst hn2; subst he2
   have HS := Lib.hid (fun w => sizeOf_at s 9223372036854775807 9223372036854775807 _ w rfl hs (isDec_all hD) (by omega) (by omega) (if_pos hov).symm)
   clear hD hov hn he
   go_enter Tryz.func88, Tryz.ntmps88
   go_wp2_with fail
   refine (HA.out _).mono ?_
   rintro e w' ⟨rfl, rfl⟩
   go_wp2_with fail
   refine (HS.out _).mono ?_
   rintro e w' ⟨rfl, rfl⟩
   go_wp2
   go_ret2
   exact ⟨rfl, rfl⟩
  ·rw [if_neg hov] at hn2 he2
   have HS := Lib.hid (fun w => sizeOf_at s 9223372036854775807 9223372036854775807 _ w rfl hs (isDec_all hD) (by omega) (by omega) (if_neg hov).symm)
   rw [← hn2] at HS
   have n1 : 0 ≤ n := by omega
   have n2 : n ≤ 9223372036854775807 := by omega
   subst he2
   clear hD hov hn he hn2
   go_enter Tryz.func88, Tryz.ntmps88
   go_wp2_with fail
   refine (HA.out _).mono ?_
   rintro e w' ⟨rfl, rfl⟩
   go_wp2_with fail
   refine (HS.out _).mono ?_
   rintro e w' ⟨rfl, rfl⟩
   go_wp2
   go_ret2
   exact ⟨rfl, rfl⟩
 ·have hD2 : isDec s.data.toList = false := by simpa using hD
  have HA := Lib.hid (fun w => areDigits_at s false w hs hD2)
  obtain rfl : n = 0 := by rw [hn.out, hD2]; rfl
  obtain rfl : e = 2 := by rw [he.out, hD2]; rfl
  clear hD hD2
  go_enter Tryz.func88, Tryz.ntmps88
  go_wp2_with fail
  refine (HA.out _).mono ?_
  rintro e w' ⟨rfl, rfl⟩
  go_wp2
  go_ret2
  exact ⟨rfl, rfl⟩
end
end Go.Proofs.YtbknflaooemigaaGreat.Nm

namespace Go.Proofs.YtbknflaooemigaaGreat.Nm
section
open Go.RowKit

theorem extract_list (s : ByteArray) : (s.extract 1 s.size).data.toList = s.data.toList.drop 1 := by
 rw [ByteArray.data_extract, Array.toList_extract, List.extract_eq_take_drop]
 rw [List.take_of_length_le]
 rw [List.length_drop, size_list]; exact Nat.le_refl _
theorem extract_size (s : ByteArray) : (s.extract 1 s.size).size = s.size - 1 := by
 have := congrArg List.length (extract_list s)
 rwa [size_list, List.length_drop, size_list] at this
theorem empty_of (s : ByteArray) (h : ¬ 0 < s.size) : s = { data := #[] } := by
 have h2 : s.data.size = 0 := by have : s.data.size = s.size := rfl; omega
 apply ByteArray.ext
 exact Array.eq_empty_of_size_eq_zero h2
theorem neg_true (s : ByteArray) (h0 : 0 < s.size) (h : ((s[0].toNat : Int) == 45) = true) : negB s.data.toList = true := by
 unfold negB; rw [head_list s h0]
 have e : s[0] = 45 := UInt8.toNat_inj.1 (by simp at h; have : (45 : UInt8).toNat = 45 := rfl; omega)
 rw [e]; rfl
theorem neg_false (s : ByteArray) (h0 : 0 < s.size) (h : ((s[0].toNat : Int) == 45) = false) : negB s.data.toList = false := by
 unfold negB; rw [head_list s h0, beq_eq_false_iff_ne]
 intro e; rw [e] at h; exact absurd h (by decide)

theorem parse_any (s : ByteArray) (w : World) (hs : s.size ≤ 100000) :
  Calls Tryz.prog 88 #[.string s] w fun x w' => x = .returned (.tuple #[.int .i64 (parseN s.data.toList), .int .i64 (parseE s.data.toList)]) ∧ w = w' := by
 by_cases h0 : 0 < s.size
 ·by_cases hm : ((s[0].toNat : Int) == 45) = true
  ·have hn := neg_true s h0 hm
   refine parse_minus s _ w hs h0 hm rfl (by rw [extract_size]; omega) _ _ ?_ ?_
   ·show _ = _
    unfold parseN good body
    rw [hn, extract_list]; simp only [if_true, Bool.true_and, mostOf]
   ·show _ = _
    unfold parseE good body
    rw [hn, extract_list]; simp only [if_true, Bool.true_and, mostOf]
  ·have hm2 : ((s[0].toNat : Int) == 45) = false := by simpa using hm
   have hn := neg_false s h0 hm2
   refine parse_plain s w hs h0 hm2 _ _ ?_ ?_
   ·show _ = _
    unfold parseN good body
    rw [hn]; simp [mostOf]
   ·show _ = _
    unfold parseE good body
    rw [hn]; simp [mostOf]
 ·have e := empty_of s h0
  subst e
  exact parse_empty w
end
end Go.Proofs.YtbknflaooemigaaGreat.Nm

namespace Go.Proofs.YtbknflaooemigaaGreat.Nm
section
open Go.RowKit

theorem valL_cons (c : UInt8) (l : List UInt8) : valL (c :: l) = (c.toNat - 48) * 10 ^ l.length + valL l := by
 refine snoc_ind (P := fun l => valL (c :: l) = (c.toNat - 48) * 10 ^ l.length + valL l) ?_ ?_ l
 ·show 0 * 10 + (c.toNat - 48) = (c.toNat - 48) * 10 ^ 0 + 0
  omega
 ·intro l d ih
  rw [← List.cons_append, valL_snoc, ih, valL_snoc, List.length_append, List.length_singleton, Nat.pow_succ, Nat.add_mul, ← Nat.mul_assoc]; omega
theorem valL_lt (l : List UInt8) (h : l.all digB = true) : valL l < 10 ^ l.length := by
 revert h
 refine snoc_ind (P := fun l => l.all digB = true → valL l < 10 ^ l.length) ?_ ?_ l
 ·intro _; exact Nat.zero_lt_one
 ·intro l d ih h
  rw [List.all_append] at h
  simp only [Bool.and_eq_true, List.all_cons, List.all_nil, Bool.and_true] at h
  obtain ⟨h1, h2⟩ := h
  unfold digB at h2; simp at h2
  have := ih h1
  rw [valL_snoc, List.length_append, List.length_singleton, Nat.pow_succ]; omega
theorem all_cons {c : UInt8} {l : List UInt8} (h : (c :: l).all digB = true) : (48 ≤ c.toNat ∧ c.toNat ≤ 57) ∧ l.all digB = true := by
 simp only [List.all_cons, Bool.and_eq_true] at h
 refine ⟨?_, h.2⟩
 have := h.1; unfold digB at this; simpa using this

/-- Of digits of the same count the lesser text is the lesser number. -/
theorem less_val : ∀ (a b : List UInt8), a.all digB = true → b.all digB = true → a.length = b.length → Op.bytesLess a b = decide (valL a < valL b)
 | [], [], _, _, _ => by simp [Op.bytesLess]
 | [], _ :: _, _, _, h => by simp at h
 | _ :: _, [], _, _, h => by simp at h
 | c :: x, d :: y, ha, hb, h => by
  obtain ⟨hc, hx⟩ := all_cons ha
  obtain ⟨hd, hy⟩ := all_cons hb
  have hl : x.length = y.length := by simpa using h
  rw [valL_cons, valL_cons, Op.bytesLess, less_val x y hx hy hl, hl]
  have b1 := valL_lt x hx
  have b2 := valL_lt y hy
  rw [hl] at b1
  generalize 10 ^ y.length = T at *
  rw [Bool.eq_iff_iff]
  simp only [Bool.or_eq_true, Bool.and_eq_true, decide_eq_true_eq, beq_iff_eq, UInt8.lt_iff_toNat_lt]
  rcases Nat.lt_trichotomy c.toNat d.toNat with q | q | q
  ·have : (c.toNat - 48 + 1) * T ≤ (d.toNat - 48) * T := Nat.mul_le_mul_right _ (by omega)
   rw [Nat.add_mul] at this
   constructor
   ·intro _; omega
   ·intro _; exact Or.inl q
  ·have e : c = d := UInt8.toNat_inj.1 q
   subst e
   constructor
   ·rintro (h1 | ⟨_, h1⟩) <;> omega
   ·intro h1; exact Or.inr ⟨rfl, by omega⟩
  ·have : (d.toNat - 48 + 1) * T ≤ (c.toNat - 48) * T := Nat.mul_le_mul_right _ (by omega)
   rw [Nat.add_mul] at this
   constructor
   ·rintro (h1 | ⟨h1, _⟩)
    ·omega
    ·rw [h1] at q; omega
   ·intro h1; omega
theorem val_inj : ∀ (a b : List UInt8), a.all digB = true → b.all digB = true → a.length = b.length → valL a = valL b → a = b
 | [], [], _, _, _, _ => rfl
 | [], _ :: _, _, _, h, _ => by simp at h
 | _ :: _, [], _, _, h, _ => by simp at h
 | c :: x, d :: y, ha, hb, h, hv => by
  obtain ⟨hc, hx⟩ := all_cons ha
  obtain ⟨hd, hy⟩ := all_cons hb
  have hl : x.length = y.length := by simpa using h
  rw [valL_cons, valL_cons, hl] at hv
  have b1 := valL_lt x hx
  have b2 := valL_lt y hy
  rw [hl] at b1
  have hcd : c.toNat = d.toNat := by
   generalize 10 ^ y.length = T at *
   rcases Nat.lt_trichotomy c.toNat d.toNat with q | q | q
   ·have : (c.toNat - 48 + 1) * T ≤ (d.toNat - 48) * T := Nat.mul_le_mul_right _ (by omega)
    rw [Nat.add_mul] at this; omega
   ·exact q
   ·have : (d.toNat - 48 + 1) * T ≤ (c.toNat - 48) * T := Nat.mul_le_mul_right _ (by omega)
    rw [Nat.add_mul] at this; omega
  have e : c = d := UInt8.toNat_inj.1 hcd
  subst e
  rw [val_inj x y hx hy hl (by omega)]

/-- Above the bound: more digits, or as many and a greater text. -/
theorem over19 (l m : List UInt8) (hl : l.all digB = true) (hm : m.all digB = true) (hm19 : m.length = 19) (hh : l.headD 0 ≠ 48 ∨ l.length ≤ 1) (hM : valL m ≤ 9223372036854775808) (hM2 : 9223372036854775807 ≤ valL m) :
  (decide (19 < l.length) || (decide (l.length = 19) && (!Op.bytesLess l m && !(l == m)))) = decide (valL m < valL l) := by
 have p18 : (10 : Nat) ^ 18 = 1000000000000000000 := by decide
 have p19 : (10 : Nat) ^ 19 = 10000000000000000000 := by decide
 have hlt := valL_lt l hl
 rcases Nat.lt_trichotomy l.length 19 with q | q | q
 ·have : 10 ^ l.length ≤ 10 ^ 18 := Nat.pow_le_pow_right (by omega) (by omega)
  rw [decide_eq_false (show ¬ 19 < l.length by omega), decide_eq_false (show ¬ l.length = 19 by omega), decide_eq_false (show ¬ valL m < valL l by omega)]; rfl
 ·rw [decide_eq_false (show ¬ 19 < l.length by omega), decide_eq_true q, less_val l m hl hm (by omega)]
  by_cases h : valL m < valL l
  ·have h1 : ¬ valL l < valL m := by omega
   have h2 : ¬ l = m := by intro e; rw [e] at h; omega
   simp [h, h1, h2]
  ·by_cases h1 : valL l < valL m
   ·simp [h, h1]
   ·have h2 : l = m := val_inj l m hl hm (by omega) (by omega)
    simp [h2]
 ·have hne : l ≠ [] := by intro e; rw [e] at q; simp at q
  have hge : 10 ^ 19 ≤ valL l := by
   cases l with
   | nil => exact absurd rfl hne
   | cons c x =>
    obtain ⟨hc, hx⟩ := all_cons hl
    have h48 : c.toNat ≠ 48 := by
     rcases hh with hh | hh
     ·intro e; exact hh (UInt8.toNat_inj.1 e)
     ·omega
    rw [valL_cons]
    have : 1 * 10 ^ x.length ≤ (c.toNat - 48) * 10 ^ x.length := Nat.mul_le_mul_right _ (by omega)
    have h19 : 10 ^ 19 ≤ 10 ^ x.length := Nat.pow_le_pow_right (by omega) (by simp at q; omega)
    omega
  rw [decide_eq_true (show 19 < l.length by omega), decide_eq_true (show valL m < valL l by omega)]; rfl
end
end Go.Proofs.YtbknflaooemigaaGreat.Nm

namespace Go.Proofs.YtbknflaooemigaaGreat.Nm
section
open Go.RowKit

end
end Go.Proofs.YtbknflaooemigaaGreat.Nm
