/-
  Contract of num.Parse. Conditions: texts of at most 100000 bytes.
-/
import Derived.Test.YtddeiidkmihkkaaNParseB
namespace Go.Proofs.Ytddeiidkmihkkaa.Nm
open Go.RowKit

def negB (l : List UInt8) : Bool := l.headD 0 == 45
def body (l : List UInt8) : List UInt8 := if negB l then l.drop 1 else l
def mostOf (b : Bool) : Nat := if b then 9223372036854775808 else 9223372036854775807
def good (l : List UInt8) : Bool := isDec (body l) && !(negB l && body l == [48])
def parseE (l : List UInt8) : Int := if good l then (if mostOf (negB l) < valL (body l) then 14 else 0) else 2
def parseN (l : List UInt8) : Int := if good l then (if mostOf (negB l) < valL (body l) then 0 else if negB l then -(valL (body l) : Int) else valL (body l)) else 0

theorem sizeOf_at (s : ByteArray) (M : Nat) (Mi : Int) (r : Value) (w : World) (hMi : (M : Int) = Mi) (hs : s.size ≤ 100000) (hall : s.data.toList.all digB = true) (hM : M ≤ 9223372036854775808) (hM9 : 9 ≤ M)
    (hr : r = if M < valL s.data.toList then .tuple #[.int .u64 0, .bool false] else .tuple #[.int .u64 (valL s.data.toList), .bool true]) :
    Calls Try.prog 47 #[.string s, .int .u64 Mi] w fun e w' => e = .returned r ∧ w = w' := hMi ▸ sizeOf_any s M r w hs hall hM hM9 hr
theorem areDigits_at (s : ByteArray) (b : Bool) (w : World) (hs : s.size ≤ 100000) (hb : isDec s.data.toList = b) :
    Calls Try.prog 46 #[.string s] w fun e w' => e = .returned (.bool b) ∧ w = w' := hb ▸ areDigits_any s w hs
theorem isDec_all {l : List UInt8} (h : isDec l = true) : l.all digB = true := by
  unfold isDec at h; simp only [Bool.and_eq_true] at h; exact h.2

set_option maxHeartbeats 400000 in
theorem parse_empty (w : World) :
    Calls Try.prog 38 #[.string { data := #[] }] w fun e w' => e = .returned (.tuple #[.int .i64 0, .int .i64 2]) ∧ w = w' := by
  have H := Lib.hid (fun w => areDigits_empty w)
  go_enter Try.func38, Try.ntmps38
  go_wp2_with fail
  refine (H.out _).mono ?_
  rintro e w' ⟨rfl, rfl⟩
  go_wp2
  go_ret2
  exact ⟨rfl, rfl⟩

set_option maxRecDepth 100000 in
set_option maxHeartbeats 400000 in
theorem parse_minus (s d : ByteArray) (w : World) (hs : s.size ≤ 100000) (h0 : 0 < s.size) (hm : ((s[0].toNat : Int) == 45) = true) (hd : s.extract 1 s.size = d) (hds : d.size ≤ 100000)
    (n e : Int) (hn : Hid (n = if isDec d.data.toList && !(d.data.toList == [48]) then (if 9223372036854775808 < valL d.data.toList then 0 else -(valL d.data.toList : Int)) else 0))
    (he : Hid (e = if isDec d.data.toList && !(d.data.toList == [48]) then (if 9223372036854775808 < valL d.data.toList then 14 else 0) else 2)) :
    Calls Try.prog 38 #[.string s] w fun x w' => x = .returned (.tuple #[.int .i64 n, .int .i64 e]) ∧ w = w' := by
  have h0' : (0 : Int) < s.size := by omega
  by_cases hD : isDec d.data.toList = true
  · have HA := Lib.hid (fun w => areDigits_at d true w hds hD)
    by_cases hz : d.data.toList = [48]
    · obtain rfl : n = 0 := by rw [hn.out, hz]; rfl
      obtain rfl : e = 2 := by rw [he.out, hz]; rfl
      have e1 : (d.toList == [48]) = true := by rw [ByteArray.toList_eq, hz]; rfl
      have e2 : d.toList = [48] := by rw [ByteArray.toList_eq, hz]
      clear hz hD
      go_enter Try.func38, Try.ntmps38
      go_wp2_with fail
      refine (HA.out _).mono ?_
      rintro e w' ⟨rfl, rfl⟩
      go_wp2
      go_ret2
      exact ⟨rfl, rfl⟩
    · have e1 : (d.toList == [48]) = false := by rw [ByteArray.toList_eq]; simpa using hz
      have e2 : ¬ d.toList = [48] := by rw [ByteArray.toList_eq]; exact hz
      have hz2 : (d.data.toList == [48]) = false := by simpa using hz
      have hn2 := hn.out
      have he2 := he.out
      rw [hD, hz2] at hn2 he2
      simp only [Bool.not_false, Bool.and_true, if_true] at hn2 he2
      by_cases hov : 9223372036854775808 < valL d.data.toList
      · rw [if_pos hov] at hn2 he2
        subst hn2; subst he2
        have HS := Lib.hid (fun w => sizeOf_at d 9223372036854775808 9223372036854775808 _ w rfl hds (isDec_all hD) (by omega) (by omega) (if_pos hov).symm)
        clear hz hz2 hD hov hn he
        go_enter Try.func38, Try.ntmps38
        go_wp2_with fail
        refine (HA.out _).mono ?_
        rintro e w' ⟨rfl, rfl⟩
        go_wp2_with fail
        refine (HS.out _).mono ?_
        rintro e w' ⟨rfl, rfl⟩
        go_wp2
        go_ret2
        exact ⟨rfl, rfl⟩
      · rw [if_neg hov] at hn2 he2
        have HS := Lib.hid (fun w => sizeOf_at d 9223372036854775808 9223372036854775808 _ w rfl hds (isDec_all hD) (by omega) (by omega) (if_neg hov).symm)
        obtain ⟨v, hv⟩ : ∃ v : Int, (valL d.data.toList : Int) = v := ⟨_, rfl⟩
        rw [hv] at hn2 HS
        have hq : IntKind.u64.wrap (-v) = (-v) % 18446744073709551616 := IntKind.wrap_u64 _
        obtain ⟨q, hq1⟩ : ∃ q, IntKind.u64.wrap (-v) = q := ⟨_, rfl⟩
        have hq2 : wrap64 q = n := by rw [← hq1, hq, hn2]; unfold wrap64; omega
        subst he2
        clear hz hz2 hD hov hn he hn2 hq hv
        subst hq2
        go_enter Try.func38, Try.ntmps38
        go_wp2_with fail
        refine (HA.out _).mono ?_
        rintro e w' ⟨rfl, rfl⟩
        go_wp2_with fail
        refine (HS.out _).mono ?_
        rintro e w' ⟨rfl, rfl⟩
        go_wp2
        go_ret2
        exact ⟨rfl, rfl⟩
  · have hD2 : isDec d.data.toList = false := by simpa using hD
    have HA := Lib.hid (fun w => areDigits_at d false w hds hD2)
    obtain rfl : n = 0 := by rw [hn.out, hD2]; rfl
    obtain rfl : e = 2 := by rw [he.out, hD2]; rfl
    clear hD hD2
    go_enter Try.func38, Try.ntmps38
    go_wp2_with fail
    refine (HA.out _).mono ?_
    rintro e w' ⟨rfl, rfl⟩
    go_wp2
    go_ret2
    exact ⟨rfl, rfl⟩

set_option maxRecDepth 100000 in
set_option maxHeartbeats 400000 in
theorem parse_plain (s : ByteArray) (w : World) (hs : s.size ≤ 100000) (h0 : 0 < s.size) (hm : ((s[0].toNat : Int) == 45) = false)
    (n e : Int) (hn : Hid (n = if isDec s.data.toList then (if 9223372036854775807 < valL s.data.toList then 0 else (valL s.data.toList : Int)) else 0))
    (he : Hid (e = if isDec s.data.toList then (if 9223372036854775807 < valL s.data.toList then 14 else 0) else 2)) :
    Calls Try.prog 38 #[.string s] w fun x w' => x = .returned (.tuple #[.int .i64 n, .int .i64 e]) ∧ w = w' := by
  have h0' : (0 : Int) < s.size := by omega
  by_cases hD : isDec s.data.toList = true
  · have HA := Lib.hid (fun w => areDigits_at s true w hs hD)
    have hn2 := hn.out
    have he2 := he.out
    rw [hD] at hn2 he2
    simp only [if_true] at hn2 he2
    by_cases hov : 9223372036854775807 < valL s.data.toList
    · rw [if_pos hov] at hn2 he2
      subst hn2; subst he2
      have HS := Lib.hid (fun w => sizeOf_at s 9223372036854775807 9223372036854775807 _ w rfl hs (isDec_all hD) (by omega) (by omega) (if_pos hov).symm)
      clear hD hov hn he
      go_enter Try.func38, Try.ntmps38
      go_wp2_with fail
      refine (HA.out _).mono ?_
      rintro e w' ⟨rfl, rfl⟩
      go_wp2_with fail
      refine (HS.out _).mono ?_
      rintro e w' ⟨rfl, rfl⟩
      go_wp2
      go_ret2
      exact ⟨rfl, rfl⟩
    · rw [if_neg hov] at hn2 he2
      have HS := Lib.hid (fun w => sizeOf_at s 9223372036854775807 9223372036854775807 _ w rfl hs (isDec_all hD) (by omega) (by omega) (if_neg hov).symm)
      rw [← hn2] at HS
      have n1 : 0 ≤ n := by omega
      have n2 : n ≤ 9223372036854775807 := by omega
      subst he2
      clear hD hov hn he hn2
      go_enter Try.func38, Try.ntmps38
      go_wp2_with fail
      refine (HA.out _).mono ?_
      rintro e w' ⟨rfl, rfl⟩
      go_wp2_with fail
      refine (HS.out _).mono ?_
      rintro e w' ⟨rfl, rfl⟩
      go_wp2
      go_ret2
      exact ⟨rfl, rfl⟩
  · have hD2 : isDec s.data.toList = false := by simpa using hD
    have HA := Lib.hid (fun w => areDigits_at s false w hs hD2)
    obtain rfl : n = 0 := by rw [hn.out, hD2]; rfl
    obtain rfl : e = 2 := by rw [he.out, hD2]; rfl
    clear hD hD2
    go_enter Try.func38, Try.ntmps38
    go_wp2_with fail
    refine (HA.out _).mono ?_
    rintro e w' ⟨rfl, rfl⟩
    go_wp2
    go_ret2
    exact ⟨rfl, rfl⟩

end Go.Proofs.Ytddeiidkmihkkaa.Nm
