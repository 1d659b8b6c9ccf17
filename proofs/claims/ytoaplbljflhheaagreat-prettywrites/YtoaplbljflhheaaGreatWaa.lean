/-
 Contracts and plain facts on the way to PrettyWrites. Conditions: as each says.
-/
import Derived.Test.YtoaplbljflhheaaGreatWzz
import Derived.WalkKit
import Derived.Laws.BytesArg
import Derived.Lib.Hide
import Derived.Handy
import Derived.WalkSpells
import Derived.WalkLawsBesides
import Derived.Test.YtoaplbljflhheaaGreatRows
set_option maxHeartbeats 40000000
set_option maxRecDepth 100000
set_option linter.unusedVariables false
set_option linter.unusedSimpArgs false
namespace Go.Proofs.YtoaplbljflhheaaGreat.Nm
section
open Go.RowKit
def dch (d : Nat) : UInt8 := UInt8.ofNat (48 + d)
def dec (n : Nat) : List UInt8 := if _h : n < 10 then [dch n] else dec (n / 10) ++ [dch (n % 10)]
termination_by n
decreasing_by omega
def Jd (l : List UInt8) : Nat := l.foldl (fun v c => v * 10 + (c.toNat - 48)) 0
def Hz (c : UInt8) : Bool := decide (48 ≤ c.toNat) && decide (c.toNat ≤ 57)
def Es (l : List UInt8) : Bool := !l.isEmpty && !(l.headD 0 == 48 && decide (1 < l.length)) && l.all Hz
theorem a0b {d : Nat} (h : d < 10) : (dch d).toNat = 48 + d := by
 unfold dch; rw [UInt8.toNat_ofNat']; omega
theorem S8 {d : Nat} (h : d < 10) : Hz (dch d) = true := by
 unfold Hz; rw [a0b h]; simp; omega
theorem Dw {n : Nat} (h : n < 10) : dec n = [dch n] := by rw [dec, dif_pos h]
theorem Hw {n : Nat} (h : ¬ n < 10) : dec n = dec (n / 10) ++ [dch (n % 10)] := by rw [dec, dif_neg h]
theorem Rx (n : Nat) : 1 ≤ (dec n).length := by
 by_cases h : n < 10
 ·rw [Dw h]; simp
 ·rw [Hw h]; simp
theorem dec_ne (n : Nat) : dec n ≠ [] := by
 intro h; have := Rx n; rw [h] at this; simp at this
theorem dec_all (n : Nat) : (dec n).all Hz = true := by
 induction n using Nat.strongRecOn with
 | _ n ih =>
  by_cases h : n < 10
  ·rw [Dw h]; simp [S8 h]
  ·rw [Hw h, List.all_append, ih _ (by omega)]; simp [S8 (show n % 10 < 10 by omega)]
theorem N6 (l : List UInt8) (c : UInt8) : Jd (l ++ [c]) = Jd l * 10 + (c.toNat - 48) := by
 unfold Jd; rw [List.foldl_append]; rfl
theorem a1n {P : List UInt8 → Prop} (h0 : P []) (h1 : ∀ l c, P l → P (l ++ [c])) : ∀ l, P l := by
 intro l
 have : ∀ n (l : List UInt8), l.length = n → P l := by
  intro n
  induction n with
  | zero => intro l hl; rw [List.length_eq_zero_iff.1 hl]; exact h0
  | succ n ih =>
   intro l hl
   have hne : l ≠ [] := by intro h; rw [h] at hl; simp at hl
   rw [← List.dropLast_concat_getLast hne]
   exact h1 _ _ (ih _ (by simp; omega))
 exact this _ l rfl
def N2 (n : Nat) : Nat → List Int
 | 0 => []
 | k + 1 => ((48 + n / 10 ^ k % 10 : Nat) : Int) :: N2 n k
theorem Sv (n k : Nat) : (N2 n k).length = k := by
 induction k with
 | zero => rfl
 | succ k ih => simp [N2, ih]
theorem Y7 (n k : Nat) : N2 n (k + 1) = N2 (n / 10) k ++ [((48 + n % 10 : Nat) : Int)] := by
 induction k with
 | zero => simp [N2]
 | succ k ih =>
  rw [N2, ih, N2]
  rw [Nat.pow_succ, Nat.mul_comm, ← Nat.div_div_eq_div_mul]; rfl
theorem a2x (n : Nat) : (N2 n (dec n).length).map (fun x => UInt8.ofNat x.toNat) = dec n := by
 induction n using Nat.strongRecOn with
 | _ n ih =>
  by_cases h : n < 10
  ·rw [Dw h]
   show [UInt8.ofNat (((48 + n / 10 ^ 0 % 10 : Nat) : Int)).toNat] = [dch n]
   rw [Nat.pow_zero, Nat.div_one, Nat.mod_eq_of_lt h]; rfl
  ·rw [Hw h, List.length_append, List.length_singleton, Y7, List.map_append, ih _ (by omega)]
   rfl
def bs (l : List UInt8) : ByteArray := ⟨l.toArray⟩
theorem An (l : List UInt8) : (bs l).size = l.length := by simp [bs, ByteArray.size]
theorem Bk (l : List UInt8) : (bs l).data.toList = l := by simp [bs]
theorem Ei (s : ByteArray) : bs s.data.toList = s := by simp [bs]
theorem Tt (n : Nat) : strOfNums (N2 n (dec n).length) = bs (dec n) := by
 unfold strOfNums bs; rw [a2x]
theorem P9 (l m : List UInt8) : bs l ++ bs m = bs (l ++ m) := by
 apply ByteArray.ext
 simp [bs]
theorem dec_len_le (n : Nat) (h : n ≤ 18446744073709551615) : (dec n).length ≤ 20 := by
 have : ∀ k n, n < 10 ^ (k + 1) → (dec n).length ≤ k + 1 := by
  intro k
  induction k with
  | zero => intro n hn; rw [Dw (by simpa using hn)]; simp
  | succ k ih =>
   intro n hn
   by_cases hs : n < 10
   ·rw [Dw hs]; simp
   ·rw [Hw hs]
    have : n / 10 < 10 ^ (k + 1) := by rw [Nat.div_lt_iff_lt_mul (by omega)]; rw [Nat.pow_succ] at hn; exact hn
    have := ih _ this
    simp; omega
 exact this 19 n (by have : (10 : Nat) ^ (19 + 1) = 100000000000000000000 := by decide
                     omega)
end
end Go.Proofs.YtoaplbljflhheaaGreat.Nm
namespace Go.Proofs.YtoaplbljflhheaaGreat.Nm
section
open Go.RowKit
theorem C4 (s : ByteArray) (k : Nat) (h : k < s.size) : s.data.toList.take (k + 1) = s.data.toList.take k ++ [s[k]] := by
 rw [List.take_succ_eq_append_getElem (by simpa using h)]; rfl
theorem Ir (s : ByteArray) (k : Nat) (h : k < s.size) (hd : Hz s[k] = false) : s.data.toList.all Hz = false := by
 rw [← List.take_append_drop (k + 1) s.data.toList, List.all_append, C4 s k h, List.all_append]
 simp [hd]
theorem Ae (s : ByteArray) : s.data.toList.length = s.size := by simp
theorem B9 (s : ByteArray) (h : 0 < s.size) : s.data.toList.headD 0 = s[0] := by
 have := C4 s 0 h
 rw [← List.take_append_drop 1 s.data.toList, this]; rfl
theorem I8 (s : ByteArray) (h : 0 < s.size) : s.data.toList.isEmpty = false := by
 have := Ae s
 cases hl : s.data.toList with
 | nil => rw [hl] at this; simp at this; omega
 | cons a l => rfl
theorem Wq (s : ByteArray) (h : 0 < s.size) : s.toList.isEmpty = false := by
 rw [ByteArray.toList_eq]; exact I8 s h
theorem G7 (w : World) :
  Calls Tryz.prog 190 #[.string { data := #[] }] w fun e w' => e = .returned (.bool false) ∧ w = w' := by
 go_enter Tryz.func190, Tryz.ntmps190
 go_wp2
 go_ret
 exact ⟨rfl, rfl⟩
theorem Lq (s : ByteArray) (w : World) (hs : s.size ≤ 100000) (h0 : 0 < s.size) :
  Calls Tryz.prog 190 #[.string s] w fun e w' => e = .returned (.bool (Es s.data.toList)) ∧ w = w' := by
 have he := Wq s h0
 have he2 : ¬ s.toList = [] := by intro h; rw [h] at he; simp at he
 have h0' : (0 : Int) < s.size := by omega
 obtain ⟨b, hb⟩ : ∃ b, Es s.data.toList = b := ⟨_, rfl⟩
 rw [hb]
 have HB := zz hb
 clear hb
 by_cases hz : ((s[0].toNat : Int) == 48) = true
 ·by_cases h1 : 1 < s.size
  ·obtain rfl : b = false := by
    rw [← HB.out]; unfold Es
    have e : s[0] = 48 := UInt8.toNat_inj.1 (by simp at hz; have : (48 : UInt8).toNat = 48 := rfl; omega)
    rw [B9 s h0, Ae, e, decide_eq_true h1]; simp
   have h1' : (1 : Int) < s.size := by omega
   go_enter Tryz.func190, Tryz.ntmps190
   go_wp2
   go_ret
   exact ⟨rfl, rfl⟩
  ·have h1' : ¬ (1 : Int) < s.size := by omega
   go_enter Tryz.func190, Tryz.ntmps190
   go_wp2
   go_loop [18] (fun i => ∃ k : Nat, k ≤ s.size ∧ i = .int .i64 k ∧ (s.data.toList.take k).all Hz = true) (fun i => s.size - (intOf i).toNat)
   case atStart => exact ⟨0, by omega, rfl, rfl⟩
   case round =>
    obtain ⟨k, hk, rfl, hall⟩ := hrel
    have HA := zz hall
    clear hall
    by_cases hlt : k < s.size
    ·by_cases hlo : s[k].toNat < 48
     ·have hd : Hz s[k] = false := by unfold Hz; simp; omega
      have hb : b = false := by rw [← HB.out]; unfold Es; rw [Ir s k hlt hd]; simp
      subst hb
      clear hd
      have hlo' : (s[k].toNat : Int) < 48 := by omega
      go_wp2
      go_ret
      exact ⟨rfl, rfl⟩
     ·by_cases hhi : 57 < s[k].toNat
      ·have hd : Hz s[k] = false := by unfold Hz; simp; omega
       have hb : b = false := by rw [← HB.out]; unfold Es; rw [Ir s k hlt hd]; simp
       subst hb
       clear hd
       have hlo' : ¬ (s[k].toNat : Int) < 48 := by omega
       have hhi' : 57 < (s[k].toNat : Int) := by omega
       go_wp2
       go_ret
       exact ⟨rfl, rfl⟩
      ·have hd : Hz s[k] = true := by unfold Hz; simp; omega
       have HS := zz (show (s.data.toList.take (k + 1)).all Hz = true by rw [C4 s k hlt, List.all_append, HA.out]; simp [hd])
       clear hd
       have hlo' : ¬ (s[k].toNat : Int) < 48 := by omega
       have hhi' : ¬ 57 < (s[k].toNat : Int) := by omega
       go_wp2
       go_round
       case rel => exact ⟨k + 1, by omega, by go_num, HS.out⟩
       case measure => simp [intOf]; omega
    ·have hb : b = true := by
      rw [← HB.out]; unfold Es
      have ha := HA.out
      rw [List.take_of_length_le (by rw [Ae]; omega)] at ha
      rw [ha, I8 s h0, B9 s h0, Ae]
      rw [decide_eq_false h1]; simp
     subst hb
     go_wp2
     go_ret
     exact ⟨rfl, rfl⟩
 ·have hz' : ((s[0].toNat : Int) == 48) = false := by simpa using hz
  go_enter Tryz.func190, Tryz.ntmps190
  go_wp2
  go_loop [18] (fun i => ∃ k : Nat, k ≤ s.size ∧ i = .int .i64 k ∧ (s.data.toList.take k).all Hz = true) (fun i => s.size - (intOf i).toNat)
  case atStart => exact ⟨0, by omega, rfl, rfl⟩
  case round =>
   obtain ⟨k, hk, rfl, hall⟩ := hrel
   have HA := zz hall
   clear hall
   by_cases hlt : k < s.size
   ·by_cases hlo : s[k].toNat < 48
    ·have hd : Hz s[k] = false := by unfold Hz; simp; omega
     have hb : b = false := by rw [← HB.out]; unfold Es; rw [Ir s k hlt hd]; simp
     subst hb
     clear hd
     have hlo' : (s[k].toNat : Int) < 48 := by omega
     go_wp2
     go_ret
     exact ⟨rfl, rfl⟩
    ·by_cases hhi : 57 < s[k].toNat
     ·have hd : Hz s[k] = false := by unfold Hz; simp; omega
      have hb : b = false := by rw [← HB.out]; unfold Es; rw [Ir s k hlt hd]; simp
      subst hb
      clear hd
      have hlo' : ¬ (s[k].toNat : Int) < 48 := by omega
      have hhi' : 57 < (s[k].toNat : Int) := by omega
      go_wp2
      go_ret
      exact ⟨rfl, rfl⟩
     ·have hd : Hz s[k] = true := by unfold Hz; simp; omega
      have HS := zz (show (s.data.toList.take (k + 1)).all Hz = true by rw [C4 s k hlt, List.all_append, HA.out]; simp [hd])
      clear hd
      have hlo' : ¬ (s[k].toNat : Int) < 48 := by omega
      have hhi' : ¬ 57 < (s[k].toNat : Int) := by omega
      go_wp2
      go_round
      case rel => exact ⟨k + 1, by omega, by go_num, HS.out⟩
      case measure => simp [intOf]; omega
   ·have hb : b = true := by
     rw [← HB.out]; unfold Es
     have ha := HA.out
     rw [List.take_of_length_le (by rw [Ae]; omega)] at ha
     rw [ha, I8 s h0, B9 s h0, Ae]
     have e : (s[0] == 48) = false := by
      rw [beq_eq_false_iff_ne]; intro e; rw [e] at hz; exact hz rfl
     rw [e]; rfl
    subst hb
    go_wp2
    go_ret
    exact ⟨rfl, rfl⟩
theorem Ny (s : ByteArray) (w : World) (hs : s.size ≤ 100000) :
  Calls Tryz.prog 190 #[.string s] w fun e w' => e = .returned (.bool (Es s.data.toList)) ∧ w = w' := by
 by_cases h : 0 < s.size
 ·exact Lq s w hs h
 ·have e : s = { data := #[] } := by
   have h2 : s.data.size = 0 := by have : s.data.size = s.size := rfl; omega
   apply ByteArray.ext
   exact Array.eq_empty_of_size_eq_zero h2
  subst e
  exact G7 w
end
end Go.Proofs.YtoaplbljflhheaaGreat.Nm
namespace Go.Proofs.YtoaplbljflhheaaGreat.Nm
section
open Go.RowKit
theorem Wi (l m : List UInt8) : Jd l ≤ Jd (l ++ m) := by
 refine a1n (P := fun m => Jd l ≤ Jd (l ++ m)) ?_ ?_ m
 ·rw [List.append_nil]; exact Nat.le_refl _
 ·intro m c ih
  rw [← List.append_assoc, N6]; omega
theorem b21 (s : ByteArray) (h : s.data.toList.all Hz = true) (k : Nat) (hk : k < s.size) : 48 ≤ s[k].toNat ∧ s[k].toNat ≤ 57 := by
 rw [List.all_eq_true] at h
 have := h s[k] (by
  have h2 := C4 s k hk
  have h3 : s[k] ∈ s.data.toList.take (k + 1) := by rw [h2]; simp
  exact List.mem_of_mem_take h3)
 unfold Hz at this; simpa using this
theorem Ty (s : ByteArray) (M : Nat) (r : Value) (w : World) (hs : s.size ≤ 100000) (hall : Hid (s.data.toList.all Hz = true)) (hM : Hid (M ≤ 9223372036854775808)) (hM9 : Hid (9 ≤ M))
  (hr : Hid (r = if M < Jd s.data.toList then .tuple #[.int .u64 0, .bool false] else .tuple #[.int .u64 (Jd s.data.toList), .bool true])) :
  Calls Tryz.prog 191 #[.string s, .int .u64 M] w fun e w' => e = .returned r ∧ w = w' := by
 obtain ⟨Mi, hMi⟩ : ∃ x : Int, (M : Int) = x := ⟨_, rfl⟩
 have m1 : Mi ≤ 9223372036854775808 := by have := hM.out; omega
 have m2 : 9 ≤ Mi := by have := hM9.out; omega
 rw [hMi]
 have HM := zz hMi
 clear hMi
 go_enter Tryz.func191, Tryz.ntmps191
 go_wp2
 go_loop [6, 11] (fun v i => ∃ (k : Nat) (vi : Int), k ≤ s.size ∧ i = .int .i64 k ∧ v = .int .u64 vi ∧ vi = (Jd (s.data.toList.take k) : Nat) ∧ vi ≤ Mi) (fun _ i => s.size - (intOf i).toNat)
 case atStart => exact ⟨0, 0, by omega, rfl, rfl, rfl, by omega⟩
 case round =>
  obtain ⟨k, vi, hk, rfl, rfl, hv, hvM⟩ := hrel
  have hv0 : 0 ≤ vi := by omega
  have HV := zz hv
  clear hv
  by_cases hlt : k < s.size
  ·have hc := b21 s hall.out k hlt
   have hS := C4 s k hlt
   have hS2 : ((Jd (s.data.toList.take (k + 1)) : Nat) : Int) = vi * 10 + ((s[k].toNat : Int) - 48) := by
    rw [hS, N6, HV.out]; omega
   have HS := zz hS2
   clear hS hS2
   obtain ⟨c1, c2⟩ := hc
   have c1' : 48 ≤ (s[k].toNat : Int) := by omega
   have c2' : (s[k].toNat : Int) ≤ 57 := by omega
   by_cases hov : (Mi - ((s[k].toNat : Int) - 48)) / 10 < vi
   ·have hr2 : r = .tuple #[.int .u64 0, .bool false] := by
     have h1 := Wi (s.data.toList.take (k + 1)) (s.data.toList.drop (k + 1))
     rw [List.take_append_drop] at h1
     rw [hr.out, if_pos (by have := HS.out; have := HM.out; omega)]
    subst hr2
    clear c1 c2
    go_wp2
    go_ret2
    exact ⟨rfl, rfl⟩
   ·have hvn : vi * 10 + ((s[k].toNat : Int) - 48) ≤ Mi := by omega
    clear c1 c2
    go_wp2
    go_round
    case rel => exact ⟨k + 1, _, by omega, by go_num, rfl, HS.out.symm, hvn⟩
    case measure => simp [intOf]; omega
  ·have hr2 : r = .tuple #[.int .u64 vi, .bool true] := by
    have hv := HV.out
    rw [List.take_of_length_le (by rw [Ae]; omega)] at hv
    rw [hr.out, if_neg (by have := HM.out; omega), hv]
   subst hr2
   go_wp2
   go_ret2
   exact ⟨rfl, rfl⟩
end
end Go.Proofs.YtoaplbljflhheaaGreat.Nm
namespace Go.Proofs.YtoaplbljflhheaaGreat.Nm
section
open Go.RowKit
def a2o (l : List UInt8) : Bool := l.headD 0 == 45
def F7 (l : List UInt8) : List UInt8 := if a2o l then l.drop 1 else l
def Mg (b : Bool) : Nat := if b then 9223372036854775808 else 9223372036854775807
def good (l : List UInt8) : Bool := Es (F7 l) && !(a2o l && F7 l == [48])
def parseE (l : List UInt8) : Int := if good l then (if Mg (a2o l) < Jd (F7 l) then 14 else 0) else 2
def parseN (l : List UInt8) : Int := if good l then (if Mg (a2o l) < Jd (F7 l) then 0 else if a2o l then -(Jd (F7 l) : Int) else Jd (F7 l)) else 0
theorem H6 (s : ByteArray) (M : Nat) (Mi : Int) (r : Value) (w : World) (hMi : (M : Int) = Mi) (hs : s.size ≤ 100000) (hall : s.data.toList.all Hz = true) (hM : M ≤ 9223372036854775808) (hM9 : 9 ≤ M)
  (hr : r = if M < Jd s.data.toList then .tuple #[.int .u64 0, .bool false] else .tuple #[.int .u64 (Jd s.data.toList), .bool true]) :
  Calls Tryz.prog 191 #[.string s, .int .u64 Mi] w fun e w' => e = .returned r ∧ w = w' := hMi ▸ Ty s M r w hs hall hM hM9 hr
theorem Ex (s : ByteArray) (b : Bool) (w : World) (hs : s.size ≤ 100000) (hb : Es s.data.toList = b) :
  Calls Tryz.prog 190 #[.string s] w fun e w' => e = .returned (.bool b) ∧ w = w' := hb ▸ Ny s w hs
theorem Il {l : List UInt8} (h : Es l = true) : l.all Hz = true := by
 unfold Es at h; simp only [Bool.and_eq_true] at h; exact h.2
theorem Rg (w : World) :
  Calls Tryz.prog 170 #[.string { data := #[] }] w fun e w' => e = .returned (.tuple #[.int .i64 0, .int .i64 2]) ∧ w = w' := by
 have H := zz (fun w => G7 w)
 go_enter Tryz.func170, Tryz.ntmps170
 go_wp2_with fail
 refine (H.out _).mono ?_
 rintro e w' ⟨rfl, rfl⟩
 go_wp2
 go_ret2
 exact ⟨rfl, rfl⟩
theorem Re (s d : ByteArray) (w : World) (hs : s.size ≤ 100000) (h0 : 0 < s.size) (hm : ((s[0].toNat : Int) == 45) = true) (hd : s.extract 1 s.size = d) (hds : d.size ≤ 100000)
  (n e : Int) (hn : Hid (n = if Es d.data.toList && !(d.data.toList == [48]) then (if 9223372036854775808 < Jd d.data.toList then 0 else -(Jd d.data.toList : Int)) else 0))
  (he : Hid (e = if Es d.data.toList && !(d.data.toList == [48]) then (if 9223372036854775808 < Jd d.data.toList then 14 else 0) else 2)) :
  Calls Tryz.prog 170 #[.string s] w fun x w' => x = .returned (.tuple #[.int .i64 n, .int .i64 e]) ∧ w = w' := by
 have h0' : (0 : Int) < s.size := by omega
 by_cases hD : Es d.data.toList = true
 ·have HA := zz (fun w => Ex d true w hds hD)
  by_cases hz : d.data.toList = [48]
  ·obtain rfl : n = 0 := by rw [hn.out, hz]; rfl
   obtain rfl : e = 2 := by rw [he.out, hz]; rfl
   have e1 : (d.toList == [48]) = true := by rw [ByteArray.toList_eq, hz]; rfl
   have e2 : d.toList = [48] := by rw [ByteArray.toList_eq, hz]
   clear hz hD
   go_enter Tryz.func170, Tryz.ntmps170
   go_wp2_with fail
   refine (HA.out _).mono ?_
   rintro e w' ⟨rfl, rfl⟩
   go_wp2
   go_ret2
   exact ⟨rfl, rfl⟩
  ·have e1 : (d.toList == [48]) = false := by rw [ByteArray.toList_eq]; simpa using hz
   have e2 : ¬ d.toList = [48] := by rw [ByteArray.toList_eq]; exact hz
   have hz2 : (d.data.toList == [48]) = false := by simpa using hz
   have hn2 := hn.out
   have he2 := he.out
   rw [hD, hz2] at hn2 he2
   simp only [Bool.not_false, Bool.and_true, if_true] at hn2 he2
   by_cases hov : 9223372036854775808 < Jd d.data.toList
   ·rw [if_pos hov] at hn2 he2
    subst hn2; subst he2
    have HS := zz (fun w => H6 d 9223372036854775808 9223372036854775808 _ w rfl hds (Il hD) (by omega) (by omega) (if_pos hov).symm)
    clear hz hz2 hD hov hn he
    go_enter Tryz.func170, Tryz.ntmps170
    go_wp2_with fail
    refine (HA.out _).mono ?_
    rintro e w' ⟨rfl, rfl⟩
    go_wp2_with fail
    refine (HS.out _).mono ?_
    rintro e w' ⟨rfl, rfl⟩
    go_wp2
    go_ret2
    exact ⟨rfl, rfl⟩
   ·rw [if_neg hov] at hn2 he2
    have HS := zz (fun w => H6 d 9223372036854775808 9223372036854775808 _ w rfl hds (Il hD) (by omega) (by omega) (if_neg hov).symm)
    obtain ⟨v, hv⟩ : ∃ v : Int, (Jd d.data.toList : Int) = v := ⟨_, rfl⟩
    rw [hv] at hn2 HS
    have hq : IntKind.u64.wrap (-v) = (-v) % 18446744073709551616 := IntKind.wrap_u64 _
    obtain ⟨q, hq1⟩ : ∃ q, IntKind.u64.wrap (-v) = q := ⟨_, rfl⟩
    have hq2 : wrap64 q = n := by rw [← hq1, hq, hn2]; unfold wrap64; omega
    subst he2
    clear hz hz2 hD hov hn he hn2 hq hv
    subst hq2
    go_enter Tryz.func170, Tryz.ntmps170
    go_wp2_with fail
    refine (HA.out _).mono ?_
    rintro e w' ⟨rfl, rfl⟩
    go_wp2_with fail
    refine (HS.out _).mono ?_
    rintro e w' ⟨rfl, rfl⟩
    go_wp2
    go_ret2
    exact ⟨rfl, rfl⟩
 ·have hD2 : Es d.data.toList = false := by simpa using hD
  have HA := zz (fun w => Ex d false w hds hD2)
  obtain rfl : n = 0 := by rw [hn.out, hD2]; rfl
  obtain rfl : e = 2 := by rw [he.out, hD2]; rfl
  clear hD hD2
  go_enter Tryz.func170, Tryz.ntmps170
  go_wp2_with fail
  refine (HA.out _).mono ?_
  rintro e w' ⟨rfl, rfl⟩
  go_wp2
  go_ret2
  exact ⟨rfl, rfl⟩
theorem Rc (s : ByteArray) (w : World) (hs : s.size ≤ 100000) (h0 : 0 < s.size) (hm : ((s[0].toNat : Int) == 45) = false)
  (n e : Int) (hn : Hid (n = if Es s.data.toList then (if 9223372036854775807 < Jd s.data.toList then 0 else (Jd s.data.toList : Int)) else 0))
  (he : Hid (e = if Es s.data.toList then (if 9223372036854775807 < Jd s.data.toList then 14 else 0) else 2)) :
  Calls Tryz.prog 170 #[.string s] w fun x w' => x = .returned (.tuple #[.int .i64 n, .int .i64 e]) ∧ w = w' := by
 have h0' : (0 : Int) < s.size := by omega
 by_cases hD : Es s.data.toList = true
 ·have HA := zz (fun w => Ex s true w hs hD)
  have hn2 := hn.out
  have he2 := he.out
  rw [hD] at hn2 he2
  simp only [if_true] at hn2 he2
  by_cases hov : 9223372036854775807 < Jd s.data.toList
  ·rw [if_pos hov] at hn2 he2
   subst hn2; subst he2
   have HS := zz (fun w => H6 s 9223372036854775807 9223372036854775807 _ w rfl hs (Il hD) (by omega) (by omega) (if_pos hov).symm)
   clear hD hov hn he
   go_enter Tryz.func170, Tryz.ntmps170
   go_wp2_with fail
   refine (HA.out _).mono ?_
   rintro e w' ⟨rfl, rfl⟩
   go_wp2_with fail
   refine (HS.out _).mono ?_
   rintro e w' ⟨rfl, rfl⟩
   go_wp2
   go_ret2
   exact ⟨rfl, rfl⟩
  ·rw [if_neg hov] at hn2 he2
   have HS := zz (fun w => H6 s 9223372036854775807 9223372036854775807 _ w rfl hs (Il hD) (by omega) (by omega) (if_neg hov).symm)
   rw [← hn2] at HS
   have n1 : 0 ≤ n := by omega
   have n2 : n ≤ 9223372036854775807 := by omega
   subst he2
   clear hD hov hn he hn2
   go_enter Tryz.func170, Tryz.ntmps170
   go_wp2_with fail
   refine (HA.out _).mono ?_
   rintro e w' ⟨rfl, rfl⟩
   go_wp2_with fail
   refine (HS.out _).mono ?_
   rintro e w' ⟨rfl, rfl⟩
   go_wp2
   go_ret2
   exact ⟨rfl, rfl⟩
 ·have hD2 : Es s.data.toList = false := by simpa using hD
  have HA := zz (fun w => Ex s false w hs hD2)
  obtain rfl : n = 0 := by rw [hn.out, hD2]; rfl
  obtain rfl : e = 2 := by rw [he.out, hD2]; rfl
  clear hD hD2
  go_enter Tryz.func170, Tryz.ntmps170
  go_wp2_with fail
  refine (HA.out _).mono ?_
  rintro e w' ⟨rfl, rfl⟩
  go_wp2
  go_ret2
  exact ⟨rfl, rfl⟩
end
end Go.Proofs.YtoaplbljflhheaaGreat.Nm
namespace Go.Proofs.YtoaplbljflhheaaGreat.Nm
section
open Go.RowKit
theorem G2 (s : ByteArray) : (s.extract 1 s.size).data.toList = s.data.toList.drop 1 := by
 rw [ByteArray.data_extract, Array.toList_extract, List.extract_eq_take_drop]
 rw [List.take_of_length_le]
 rw [List.length_drop, Ae]; exact Nat.le_refl _
theorem P4 (s : ByteArray) : (s.extract 1 s.size).size = s.size - 1 := by
 have := congrArg List.length (G2 s)
 rwa [Ae, List.length_drop, Ae] at this
theorem Co (s : ByteArray) (h : ¬ 0 < s.size) : s = { data := #[] } := by
 have h2 : s.data.size = 0 := by have : s.data.size = s.size := rfl; omega
 apply ByteArray.ext
 exact Array.eq_empty_of_size_eq_zero h2
theorem a2n (s : ByteArray) (h0 : 0 < s.size) (h : ((s[0].toNat : Int) == 45) = true) : a2o s.data.toList = true := by
 unfold a2o; rw [B9 s h0]
 have e : s[0] = 45 := UInt8.toNat_inj.1 (by simp at h; have : (45 : UInt8).toNat = 45 := rfl; omega)
 rw [e]; rfl
theorem Y1 (s : ByteArray) (h0 : 0 < s.size) (h : ((s[0].toNat : Int) == 45) = false) : a2o s.data.toList = false := by
 unfold a2o; rw [B9 s h0, beq_eq_false_iff_ne]
 intro e; rw [e] at h; exact absurd h (by decide)
theorem parse_any (s : ByteArray) (w : World) (hs : s.size ≤ 100000) :
  Calls Tryz.prog 170 #[.string s] w fun x w' => x = .returned (.tuple #[.int .i64 (parseN s.data.toList), .int .i64 (parseE s.data.toList)]) ∧ w = w' := by
 by_cases h0 : 0 < s.size
 ·by_cases hm : ((s[0].toNat : Int) == 45) = true
  ·have hn := a2n s h0 hm
   refine Re s _ w hs h0 hm rfl (by rw [P4]; omega) _ _ ?_ ?_
   ·show _ = _
    unfold parseN good F7
    rw [hn, G2]; simp only [if_true, Bool.true_and, Mg]
   ·show _ = _
    unfold parseE good F7
    rw [hn, G2]; simp only [if_true, Bool.true_and, Mg]
  ·have hm2 : ((s[0].toNat : Int) == 45) = false := by simpa using hm
   have hn := Y1 s h0 hm2
   refine Rc s w hs h0 hm2 _ _ ?_ ?_
   ·show _ = _
    unfold parseN good F7
    rw [hn]; simp [Mg]
   ·show _ = _
    unfold parseE good F7
    rw [hn]; simp [Mg]
 ·have e := Co s h0
  subst e
  exact Rg w
end
end Go.Proofs.YtoaplbljflhheaaGreat.Nm
namespace Go.Proofs.YtoaplbljflhheaaGreat.Nm
section
open Go.RowKit
theorem all_cons {c : UInt8} {l : List UInt8} (h : (c :: l).all Hz = true) : (48 ≤ c.toNat ∧ c.toNat ≤ 57) ∧ l.all Hz = true := by
 simp only [List.all_cons, Bool.and_eq_true] at h
 refine ⟨?_, h.2⟩
 have := h.1; unfold Hz at this; simpa using this
end
end Go.Proofs.YtoaplbljflhheaaGreat.Nm
namespace Go.Proofs.YtoaplbljflhheaaGreat.Nm
section
open Go.RowKit
end
end Go.Proofs.YtoaplbljflhheaaGreat.Nm
