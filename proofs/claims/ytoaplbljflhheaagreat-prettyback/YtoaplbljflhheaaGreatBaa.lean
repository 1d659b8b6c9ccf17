/-
 Contracts and plain facts on the way to PrettyBack. Conditions: as each says.
-/
import Derived.Test.YtoaplbljflhheaaGreatBzz
import Derived.WalkKit
import Derived.Laws.BytesArg
import Derived.Lib.Hide
import Derived.Handy
import Derived.WalkSpells
import Derived.WalkLawsBesides
import Derived.Test.YtoaplbljflhheaaGreatRows
set_option maxHeartbeats 40000000
set_option maxRecDepth 100000
set_option linter.unusedVariables false
set_option linter.unusedSimpArgs false
namespace Go.Proofs.YtoaplbljflhheaaGreat.Nm
open _root_.Go.Proofs.Tryz
section
open Go.RowKit
def dch (d : Nat) : UInt8 := UInt8.ofNat (48 + d)
def dec (n : Nat) : List UInt8 := if _h : n < 10 then [dch n] else dec (n / 10) ++ [dch (n % 10)]
termination_by n
decreasing_by omega
def valL (l : List UInt8) : Nat := l.foldl (fun v c => v * 10 + (c.toNat - 48)) 0
def L4 (c : UInt8) : Bool := decide (48 <= c.toNat) && decide (c.toNat <= 57)
def Gw (l : List UInt8) : Bool := !l.isEmpty && !(l.headD 0 == 48 && decide (1 < l.length)) && l.all L4
theorem Mt {d : Nat} (h : d < 10) : (dch d).toNat = 48 + d := by
 unfold dch; rw [UInt8.toNat_ofNat']; omega
theorem Zh {d : Nat} (h : d < 10) : L4 (dch d) = true := by
 unfold L4; rw [Mt h]; simp; omega
theorem dec_small {n : Nat} (h : n < 10) : dec n = [dch n] := by rw [dec, dif_pos h]
theorem L2 {n : Nat} (h : ¬ n < 10) : dec n = dec (n / 10) ++ [dch (n % 10)] := by rw [dec, dif_neg h]
theorem X0 (n : Nat) : 1 <= (dec n).length := by
 by_cases h : n < 10
 ·rw [dec_small h]; simp
 ·rw [L2 h]; simp
theorem dec_ne (n : Nat) : dec n ≠ [] := by
 intro h; have := X0 n; rw [h] at this; simp at this
theorem dec_all (n : Nat) : (dec n).all L4 = true := by
 induction n using Nat.strongRecOn with
 | _ n ih =>
  by_cases h : n < 10
  ·rw [dec_small h]; simp [Zh h]
  ·rw [L2 h, List.all_append, ih _ (by omega)]; simp [Zh (show n % 10 < 10 by omega)]
theorem Vi {l m : List UInt8} (h : l ≠ []) (z : UInt8) : (l ++ m).headD z = l.headD z := by
 cases l with
 | nil => exact absurd rfl h
 | cons a l => rfl
theorem dec_head (n : Nat) (h : 0 < n) : (dec n).headD 0 ≠ 48 := by
 induction n using Nat.strongRecOn with
 | _ n ih =>
  by_cases hn : n < 10
  ·rw [dec_small hn];show dch n ≠ 48;intro e;have := congrArg UInt8.toNat e;rw [Mt hn] at this;have h48 : (48 : UInt8).toNat = 48 := rfl;omega
  ·rw [L2 hn, Vi (dec_ne _)];exact ih _ (by omega) (by omega)
theorem isDec_dec (n : Nat) : Gw (dec n) = true := by
 unfold Gw;rw [dec_all]
 have h1 : (dec n).isEmpty = false := by
  cases h : dec n with
  | nil => exact absurd h (dec_ne n)
  | cons a l => rfl
 rw [h1];by_cases hn : n < 10
 ·rw [dec_small hn]; simp
 ·have h2 := dec_head n (by omega);have h3 : ((dec n).headD 0 == 48) = false := by simpa using h2
  rw [h3]; rfl
theorem O0 (l : List UInt8) (c : UInt8) : valL (l ++ [c]) = valL l * 10 + (c.toNat - 48) := by
 unfold valL; rw [List.foldl_append]; rfl
theorem valL_dec (n : Nat) : valL (dec n) = n := by
 induction n using Nat.strongRecOn with
 | _ n ih =>
  by_cases h : n < 10
  ·rw [dec_small h];show 0 * 10 + ((dch n).toNat - 48) = n;rw [Mt h]; omega
  ·rw [L2 h, O0, ih _ (by omega), Mt (by omega)]; omega
theorem a73 {P : List UInt8 -> Prop} (h0 : P []) (h1 : ∀ l c, P l -> P (l ++ [c])) : ∀ l, P l := by
 intro l
 have : ∀ n (l : List UInt8), l.length = n -> P l := by
  intro n
  induction n with
  | zero => intro l hl; rw [List.length_eq_zero_iff.1 hl]; exact h0
  | succ n ih =>
   intro l hl;have hne : l ≠ [] := by intro h; rw [h] at hl; simp at hl
   rw [<- List.dropLast_concat_getLast hne];exact h1 _ _ (ih _ (by simp; omega))
 exact this _ l rfl
def Tl (n : Nat) : Nat -> List Int
 | 0 => []
 | k + 1 => ((48 + n / 10 ^ k % 10 : Nat) : Int) :: Tl n k
theorem Za (n k : Nat) : (Tl n k).length = k := by
 induction k with
 | zero => rfl
 | succ k ih => simp [Tl, ih]
theorem a4r (n k : Nat) : Tl n (k + 1) = Tl (n / 10) k ++ [((48 + n % 10 : Nat) : Int)] := by
 induction k with
 | zero => simp [Tl]
 | succ k ih =>
  rw [Tl, ih, Tl];rw [Nat.pow_succ, Nat.mul_comm, <- Nat.div_div_eq_div_mul]; rfl
theorem a9w (n : Nat) : (Tl n (dec n).length).map (fun x => UInt8.ofNat x.toNat) = dec n := by
 induction n using Nat.strongRecOn with
 | _ n ih =>
  by_cases h : n < 10
  ·rw [dec_small h];show [UInt8.ofNat (((48 + n / 10 ^ 0 % 10 : Nat) : Int)).toNat] = [dch n];rw [Nat.pow_zero, Nat.div_one, Nat.mod_eq_of_lt h]; rfl
  ·rw [L2 h, List.length_append, List.length_singleton, a4r, List.map_append, ih _ (by omega)];rfl
def bs (l : List UInt8) : ByteArray := ⟨l.toArray⟩
theorem Ib (l : List UInt8) : (bs l).size = l.length := by simp [bs, ByteArray.size]
theorem B9 (l : List UInt8) : (bs l).data.toList = l := by simp [bs]
theorem Ry (s : ByteArray) : bs s.data.toList = s := by simp [bs]
theorem a0b (n : Nat) : strOfNums (Tl n (dec n).length) = bs (dec n) := by
 unfold strOfNums bs; rw [a9w]
theorem a6a (l m : List UInt8) : bs l ++ bs m = bs (l ++ m) := by
 apply ByteArray.ext;simp [bs]
theorem dec_len_le (n : Nat) (h : n <= 18446744073709551615) : (dec n).length <= 20 := by
 have : ∀ k n, n < 10 ^ (k + 1) -> (dec n).length <= k + 1 := by
  intro k
  induction k with
  | zero => intro n hn; rw [dec_small (by simpa using hn)]; simp
  | succ k ih =>
   intro n hn;by_cases hs : n < 10
   ·rw [dec_small hs]; simp
   ·rw [L2 hs];have : n / 10 < 10 ^ (k + 1) := by rw [Nat.div_lt_iff_lt_mul (by omega)]; rw [Nat.pow_succ] at hn; exact hn
    have := ih _ this;simp; omega
 exact this 19 n (by have : (10 : Nat) ^ (19 + 1) = 100000000000000000000 := by decide
                     omega)
end
end Go.Proofs.YtoaplbljflhheaaGreat.Nm
namespace Go.Proofs.YtoaplbljflhheaaGreat.Nm
open _root_.Go.Proofs.Tryz
section
open Go.RowKit
theorem Es (s : ByteArray) (k : Nat) (h : k < s.size) : s.data.toList.take (k + 1) = s.data.toList.take k ++ [s[k]] := by
 rw [List.take_succ_eq_append_getElem (by simpa using h)]; rfl
theorem My (s : ByteArray) (k : Nat) (h : k < s.size) (hd : L4 s[k] = false) : s.data.toList.all L4 = false := by
 rw [<- List.take_append_drop (k + 1) s.data.toList, List.all_append, Es s k h, List.all_append];simp [hd]
theorem Ad (s : ByteArray) : s.data.toList.length = s.size := by simp
theorem C0 (s : ByteArray) (h : 0 < s.size) : s.data.toList.headD 0 = s[0] := by
 have := Es s 0 h;rw [<- List.take_append_drop 1 s.data.toList, this]; rfl
theorem Nf (s : ByteArray) (h : 0 < s.size) : s.data.toList.isEmpty = false := by
 have := Ad s
 cases hl : s.data.toList with
 | nil => rw [hl] at this; simp at this; omega
 | cons a l => rfl
theorem a2d (s : ByteArray) (h : 0 < s.size) : s.toList.isEmpty = false := by
 rw [ByteArray.toList_eq]; exact Nf s h
theorem Kn (w : World) :
  Calls prog 190 #[.string { data := #[] }] w fun e w' => e = .returned (.bool false) ∧ w = w' := by
 go_enter func190, ntmps190;go_wp2;go_ret;exact ⟨rfl, rfl⟩
theorem Qu (s : ByteArray) (w : World) (hs : s.size <= 100000) (h0 : 0 < s.size) :
  Calls prog 190 #[.string s] w fun e w' => e = .returned (.bool (Gw s.data.toList)) ∧ w = w' := by
 have he := a2d s h0;have he2 : ¬ s.toList = [] := by intro h; rw [h] at he; simp at he
 have h0' : (0 : Int) < s.size := by omega
 obtain ⟨b, hb⟩ : ∃ b, Gw s.data.toList = b := ⟨_, rfl⟩;rw [hb];have HB := zz hb;clear hb;by_cases hz : ((s[0].toNat : Int) == 48) = true
 ·by_cases h1 : 1 < s.size
  ·obtain rfl : b = false := by
    rw [<- HB.out]; unfold Gw;have e : s[0] = 48 := UInt8.toNat_inj.1 (by simp at hz; have : (48 : UInt8).toNat = 48 := rfl; omega);rw [C0 s h0, Ad, e, decide_eq_true h1]; simp
   have h1' : (1 : Int) < s.size := by omega
   go_enter func190, ntmps190;go_wp2;go_ret;exact ⟨rfl, rfl⟩
  ·have h1' : ¬ (1 : Int) < s.size := by omega
   go_enter func190, ntmps190;go_wp2
   go_loop [18] (fun i => ∃ k : Nat, k <= s.size ∧ i = .int .i64 k ∧ (s.data.toList.take k).all L4 = true) (fun i => s.size - (intOf i).toNat)
   case atStart => exact ⟨0, by omega, rfl, rfl⟩
   case round =>
    obtain ⟨k, hk, rfl, hall⟩ := hrel;have HA := zz hall;clear hall;by_cases hlt : k < s.size
    ·by_cases hlo : s[k].toNat < 48
     ·have hd : L4 s[k] = false := by unfold L4; simp; omega
      have hb : b = false := by rw [<- HB.out]; unfold Gw; rw [My s k hlt hd]; simp
      subst hb;clear hd;have hlo' : (s[k].toNat : Int) < 48 := by omega
      go_wp2;go_ret;exact ⟨rfl, rfl⟩
     ·by_cases hhi : 57 < s[k].toNat
      ·have hd : L4 s[k] = false := by unfold L4; simp; omega
       have hb : b = false := by rw [<- HB.out]; unfold Gw; rw [My s k hlt hd]; simp
       subst hb;clear hd;have hlo' : ¬ (s[k].toNat : Int) < 48 := by omega
       have hhi' : 57 < (s[k].toNat : Int) := by omega
       go_wp2;go_ret;exact ⟨rfl, rfl⟩
      ·have hd : L4 s[k] = true := by unfold L4; simp; omega
       have HS := zz (show (s.data.toList.take (k + 1)).all L4 = true by rw [Es s k hlt, List.all_append, HA.out]; simp [hd]);clear hd;have hlo' : ¬ (s[k].toNat : Int) < 48 := by omega
       have hhi' : ¬ 57 < (s[k].toNat : Int) := by omega
       go_wp2
       go_round
       case rel => exact ⟨k + 1, by omega, by go_num, HS.out⟩
       case measure => simp [intOf]; omega
    ·have hb : b = true := by
      rw [<- HB.out]; unfold Gw;have ha := HA.out;rw [List.take_of_length_le (by rw [Ad]; omega)] at ha;rw [ha, Nf s h0, C0 s h0, Ad];rw [decide_eq_false h1]; simp
     subst hb;go_wp2;go_ret;exact ⟨rfl, rfl⟩
 ·have hz' : ((s[0].toNat : Int) == 48) = false := by simpa using hz
  go_enter func190, ntmps190;go_wp2
  go_loop [18] (fun i => ∃ k : Nat, k <= s.size ∧ i = .int .i64 k ∧ (s.data.toList.take k).all L4 = true) (fun i => s.size - (intOf i).toNat)
  case atStart => exact ⟨0, by omega, rfl, rfl⟩
  case round =>
   obtain ⟨k, hk, rfl, hall⟩ := hrel;have HA := zz hall;clear hall;by_cases hlt : k < s.size
   ·by_cases hlo : s[k].toNat < 48
    ·have hd : L4 s[k] = false := by unfold L4; simp; omega
     have hb : b = false := by rw [<- HB.out]; unfold Gw; rw [My s k hlt hd]; simp
     subst hb;clear hd;have hlo' : (s[k].toNat : Int) < 48 := by omega
     go_wp2;go_ret;exact ⟨rfl, rfl⟩
    ·by_cases hhi : 57 < s[k].toNat
     ·have hd : L4 s[k] = false := by unfold L4; simp; omega
      have hb : b = false := by rw [<- HB.out]; unfold Gw; rw [My s k hlt hd]; simp
      subst hb;clear hd;have hlo' : ¬ (s[k].toNat : Int) < 48 := by omega
      have hhi' : 57 < (s[k].toNat : Int) := by omega
      go_wp2;go_ret;exact ⟨rfl, rfl⟩
     ·have hd : L4 s[k] = true := by unfold L4; simp; omega
      have HS := zz (show (s.data.toList.take (k + 1)).all L4 = true by rw [Es s k hlt, List.all_append, HA.out]; simp [hd]);clear hd;have hlo' : ¬ (s[k].toNat : Int) < 48 := by omega
      have hhi' : ¬ 57 < (s[k].toNat : Int) := by omega
      go_wp2
      go_round
      case rel => exact ⟨k + 1, by omega, by go_num, HS.out⟩
      case measure => simp [intOf]; omega
   ·have hb : b = true := by
     rw [<- HB.out]; unfold Gw;have ha := HA.out;rw [List.take_of_length_le (by rw [Ad]; omega)] at ha;rw [ha, Nf s h0, C0 s h0, Ad]
     have e : (s[0] == 48) = false := by
      rw [beq_eq_false_iff_ne]; intro e; rw [e] at hz; exact hz rfl
     rw [e]; rfl
    subst hb;go_wp2;go_ret;exact ⟨rfl, rfl⟩
theorem Ti (s : ByteArray) (w : World) (hs : s.size <= 100000) :
  Calls prog 190 #[.string s] w fun e w' => e = .returned (.bool (Gw s.data.toList)) ∧ w = w' := by
 by_cases h : 0 < s.size
 ·exact Qu s w hs h
 ·have e : s = { data := #[] } := by
   have h2 : s.data.size = 0 := by have : s.data.size = s.size := rfl; omega
   apply ByteArray.ext;exact Array.eq_empty_of_size_eq_zero h2
  subst e;exact Kn w
end
end Go.Proofs.YtoaplbljflhheaaGreat.Nm
namespace Go.Proofs.YtoaplbljflhheaaGreat.Nm
open _root_.Go.Proofs.Tryz
section
open Go.RowKit
theorem a15 (l m : List UInt8) : valL l <= valL (l ++ m) := by
 refine a73 (P := fun m => valL l <= valL (l ++ m)) ?_ ?_ m
 ·rw [List.append_nil]; exact Nat.le_refl _
 ·intro m c ih;rw [<- List.append_assoc, O0]; omega
theorem c05 (s : ByteArray) (h : s.data.toList.all L4 = true) (k : Nat) (hk : k < s.size) : 48 <= s[k].toNat ∧ s[k].toNat <= 57 := by
 rw [List.all_eq_true] at h
 have := h s[k] (by
  have h2 := Es s k hk;have h3 : s[k] ∈ s.data.toList.take (k + 1) := by rw [h2]; simp
  exact List.mem_of_mem_take h3)
 unfold L4 at this; simpa using this
theorem a0f (s : ByteArray) (M : Nat) (r : Value) (w : World) (hs : s.size <= 100000) (hall : Hid (s.data.toList.all L4 = true)) (hM : Hid (M <= 9223372036854775808)) (hM9 : Hid (9 <= M))
  (hr : Hid (r = if M < valL s.data.toList then .tuple #[.int .u64 0, .bool false] else .tuple #[.int .u64 (valL s.data.toList), .bool true])) :
  Calls prog 191 #[.string s, .int .u64 M] w fun e w' => e = .returned r ∧ w = w' := by
 obtain ⟨Mi, hMi⟩ : ∃ x : Int, (M : Int) = x := ⟨_, rfl⟩;have m1 : Mi <= 9223372036854775808 := by have := hM.out; omega
 have m2 : 9 <= Mi := by have := hM9.out; omega
 rw [hMi];have HM := zz hMi;clear hMi;go_enter func191, ntmps191;go_wp2
 go_loop [6, 11] (fun v i => ∃ (k : Nat) (vi : Int), k <= s.size ∧ i = .int .i64 k ∧ v = .int .u64 vi ∧ vi = (valL (s.data.toList.take k) : Nat) ∧ vi <= Mi) (fun _ i => s.size - (intOf i).toNat)
 case atStart => exact ⟨0, 0, by omega, rfl, rfl, rfl, by omega⟩
 case round =>
  obtain ⟨k, vi, hk, rfl, rfl, hv, hvM⟩ := hrel;have hv0 : 0 <= vi := by omega
  have HV := zz hv;clear hv;by_cases hlt : k < s.size
  ·have hc := c05 s hall.out k hlt;have hS := Es s k hlt
   have hS2 : ((valL (s.data.toList.take (k + 1)) : Nat) : Int) = vi * 10 + ((s[k].toNat : Int) - 48) := by
    rw [hS, O0, HV.out]; omega
   have HS := zz hS2;clear hS hS2;obtain ⟨c1, c2⟩ := hc;have c1' : 48 <= (s[k].toNat : Int) := by omega
   have c2' : (s[k].toNat : Int) <= 57 := by omega
   by_cases hov : (Mi - ((s[k].toNat : Int) - 48)) / 10 < vi
   ·have hr2 : r = .tuple #[.int .u64 0, .bool false] := by
     have h1 := a15 (s.data.toList.take (k + 1)) (s.data.toList.drop (k + 1));rw [List.take_append_drop] at h1;rw [hr.out, if_pos (by have := HS.out; have := HM.out; omega)]
    subst hr2;clear c1 c2;go_wp2
    go_ret2
    exact ⟨rfl, rfl⟩
   ·have hvn : vi * 10 + ((s[k].toNat : Int) - 48) <= Mi := by omega
    clear c1 c2;go_wp2
    go_round
    case rel => exact ⟨k + 1, _, by omega, by go_num, rfl, HS.out.symm, hvn⟩
    case measure => simp [intOf]; omega
  ·have hr2 : r = .tuple #[.int .u64 vi, .bool true] := by
    have hv := HV.out;rw [List.take_of_length_le (by rw [Ad]; omega)] at hv;rw [hr.out, if_neg (by have := HM.out; omega), hv]
   subst hr2;go_wp2
   go_ret2
   exact ⟨rfl, rfl⟩
end
end Go.Proofs.YtoaplbljflhheaaGreat.Nm
namespace Go.Proofs.YtoaplbljflhheaaGreat.Nm
open _root_.Go.Proofs.Tryz
section
open Go.RowKit
def negB (l : List UInt8) : Bool := l.headD 0 == 45
def body (l : List UInt8) : List UInt8 := if negB l then l.drop 1 else l
def mostOf (b : Bool) : Nat := if b then 9223372036854775808 else 9223372036854775807
def good (l : List UInt8) : Bool := Gw (body l) && !(negB l && body l == [48])
def parseE (l : List UInt8) : Int := if good l then (if mostOf (negB l) < valL (body l) then 14 else 0) else 2
def parseN (l : List UInt8) : Int := if good l then (if mostOf (negB l) < valL (body l) then 0 else if negB l then -(valL (body l) : Int) else valL (body l)) else 0
theorem L8 (s : ByteArray) (M : Nat) (Mi : Int) (r : Value) (w : World) (hMi : (M : Int) = Mi) (hs : s.size <= 100000) (hall : s.data.toList.all L4 = true) (hM : M <= 9223372036854775808) (hM9 : 9 <= M)
  (hr : r = if M < valL s.data.toList then .tuple #[.int .u64 0, .bool false] else .tuple #[.int .u64 (valL s.data.toList), .bool true]) :
  Calls prog 191 #[.string s, .int .u64 Mi] w fun e w' => e = .returned r ∧ w = w' := hMi ▸ a0f s M r w hs hall hM hM9 hr
theorem Hx (s : ByteArray) (b : Bool) (w : World) (hs : s.size <= 100000) (hb : Gw s.data.toList = b) :
  Calls prog 190 #[.string s] w fun e w' => e = .returned (.bool b) ∧ w = w' := hb ▸ Ti s w hs
theorem Mp {l : List UInt8} (h : Gw l = true) : l.all L4 = true := by
 unfold Gw at h; simp only [Bool.and_eq_true] at h; exact h.2
theorem W7 (w : World) :
  Calls prog 170 #[.string { data := #[] }] w fun e w' => e = .returned (.tuple #[.int .i64 0, .int .i64 2]) ∧ w = w' := by
 have H := zz (fun w => Kn w);go_enter func170, ntmps170;go_wp2_with fail;refine (H.out _).mono ?_;rintro e w' ⟨rfl, rfl⟩;go_wp2
 go_ret2
 exact ⟨rfl, rfl⟩
theorem W6 (s d : ByteArray) (w : World) (hs : s.size <= 100000) (h0 : 0 < s.size) (hm : ((s[0].toNat : Int) == 45) = true) (hd : s.extract 1 s.size = d) (hds : d.size <= 100000)
  (n e : Int) (hn : Hid (n = if Gw d.data.toList && !(d.data.toList == [48]) then (if 9223372036854775808 < valL d.data.toList then 0 else -(valL d.data.toList : Int)) else 0))
  (he : Hid (e = if Gw d.data.toList && !(d.data.toList == [48]) then (if 9223372036854775808 < valL d.data.toList then 14 else 0) else 2)) :
  Calls prog 170 #[.string s] w fun x w' => x = .returned (.tuple #[.int .i64 n, .int .i64 e]) ∧ w = w' := by
 have h0' : (0 : Int) < s.size := by omega
 by_cases hD : Gw d.data.toList = true
 ·have HA := zz (fun w => Hx d true w hds hD);by_cases hz : d.data.toList = [48]
  ·obtain rfl : n = 0 := by rw [hn.out, hz]; rfl
   obtain rfl : e = 2 := by rw [he.out, hz]; rfl
   have e1 : (d.toList == [48]) = true := by rw [ByteArray.toList_eq, hz]; rfl
   have e2 : d.toList = [48] := by rw [ByteArray.toList_eq, hz]
   clear hz hD;go_enter func170, ntmps170;go_wp2_with fail;refine (HA.out _).mono ?_;rintro e w' ⟨rfl, rfl⟩;go_wp2
   go_ret2
   exact ⟨rfl, rfl⟩
  ·have e1 : (d.toList == [48]) = false := by rw [ByteArray.toList_eq]; simpa using hz
   have e2 : ¬ d.toList = [48] := by rw [ByteArray.toList_eq]; exact hz
   have hz2 : (d.data.toList == [48]) = false := by simpa using hz
   have hn2 := hn.out;have he2 := he.out;rw [hD, hz2] at hn2 he2;simp only [Bool.not_false, Bool.and_true, if_true] at hn2 he2;by_cases hov : 9223372036854775808 < valL d.data.toList
   ·rw [if_pos hov] at hn2 he2;subst hn2; subst he2;have HS := zz (fun w => L8 d 9223372036854775808 9223372036854775808 _ w rfl hds (Mp hD) (by omega) (by omega) (if_pos hov).symm);clear hz hz2 hD hov hn he;go_enter func170, ntmps170;go_wp2_with fail;refine (HA.out _).mono ?_;rintro e w' ⟨rfl, rfl⟩;go_wp2_with fail;refine (HS.out _).mono ?_;rintro e w' ⟨rfl, rfl⟩;go_wp2
    go_ret2
    exact ⟨rfl, rfl⟩
   ·rw [if_neg hov] at hn2 he2;have HS := zz (fun w => L8 d 9223372036854775808 9223372036854775808 _ w rfl hds (Mp hD) (by omega) (by omega) (if_neg hov).symm);obtain ⟨v, hv⟩ : ∃ v : Int, (valL d.data.toList : Int) = v := ⟨_, rfl⟩;rw [hv] at hn2 HS;have hq : IntKind.u64.wrap (-v) = (-v) % 18446744073709551616 := IntKind.wrap_u64 _;obtain ⟨q, hq1⟩ : ∃ q, IntKind.u64.wrap (-v) = q := ⟨_, rfl⟩;have hq2 : wrap64 q = n := by rw [<- hq1, hq, hn2]; unfold wrap64; omega
    subst he2;clear hz hz2 hD hov hn he hn2 hq hv;subst hq2;go_enter func170, ntmps170;go_wp2_with fail;refine (HA.out _).mono ?_;rintro e w' ⟨rfl, rfl⟩;go_wp2_with fail;refine (HS.out _).mono ?_;rintro e w' ⟨rfl, rfl⟩;go_wp2
    go_ret2
    exact ⟨rfl, rfl⟩
 ·have hD2 : Gw d.data.toList = false := by simpa using hD
  have HA := zz (fun w => Hx d false w hds hD2);obtain rfl : n = 0 := by rw [hn.out, hD2]; rfl
  obtain rfl : e = 2 := by rw [he.out, hD2]; rfl
  clear hD hD2;go_enter func170, ntmps170;go_wp2_with fail;refine (HA.out _).mono ?_;rintro e w' ⟨rfl, rfl⟩;go_wp2
  go_ret2
  exact ⟨rfl, rfl⟩
theorem W5 (s : ByteArray) (w : World) (hs : s.size <= 100000) (h0 : 0 < s.size) (hm : ((s[0].toNat : Int) == 45) = false)
  (n e : Int) (hn : Hid (n = if Gw s.data.toList then (if 9223372036854775807 < valL s.data.toList then 0 else (valL s.data.toList : Int)) else 0))
  (he : Hid (e = if Gw s.data.toList then (if 9223372036854775807 < valL s.data.toList then 14 else 0) else 2)) :
  Calls prog 170 #[.string s] w fun x w' => x = .returned (.tuple #[.int .i64 n, .int .i64 e]) ∧ w = w' := by
 have h0' : (0 : Int) < s.size := by omega
 by_cases hD : Gw s.data.toList = true
 ·have HA := zz (fun w => Hx s true w hs hD);have hn2 := hn.out;have he2 := he.out;rw [hD] at hn2 he2;simp only [if_true] at hn2 he2;by_cases hov : 9223372036854775807 < valL s.data.toList
  ·rw [if_pos hov] at hn2 he2;subst hn2; subst he2;have HS := zz (fun w => L8 s 9223372036854775807 9223372036854775807 _ w rfl hs (Mp hD) (by omega) (by omega) (if_pos hov).symm);clear hD hov hn he;go_enter func170, ntmps170;go_wp2_with fail;refine (HA.out _).mono ?_;rintro e w' ⟨rfl, rfl⟩;go_wp2_with fail;refine (HS.out _).mono ?_;rintro e w' ⟨rfl, rfl⟩;go_wp2
   go_ret2
   exact ⟨rfl, rfl⟩
  ·rw [if_neg hov] at hn2 he2;have HS := zz (fun w => L8 s 9223372036854775807 9223372036854775807 _ w rfl hs (Mp hD) (by omega) (by omega) (if_neg hov).symm);rw [<- hn2] at HS;have n1 : 0 <= n := by omega
   have n2 : n <= 9223372036854775807 := by omega
   subst he2;clear hD hov hn he hn2;go_enter func170, ntmps170;go_wp2_with fail;refine (HA.out _).mono ?_;rintro e w' ⟨rfl, rfl⟩;go_wp2_with fail;refine (HS.out _).mono ?_;rintro e w' ⟨rfl, rfl⟩;go_wp2
   go_ret2
   exact ⟨rfl, rfl⟩
 ·have hD2 : Gw s.data.toList = false := by simpa using hD
  have HA := zz (fun w => Hx s false w hs hD2);obtain rfl : n = 0 := by rw [hn.out, hD2]; rfl
  obtain rfl : e = 2 := by rw [he.out, hD2]; rfl
  clear hD hD2;go_enter func170, ntmps170;go_wp2_with fail;refine (HA.out _).mono ?_;rintro e w' ⟨rfl, rfl⟩;go_wp2
  go_ret2
  exact ⟨rfl, rfl⟩
end
end Go.Proofs.YtoaplbljflhheaaGreat.Nm
namespace Go.Proofs.YtoaplbljflhheaaGreat.Nm
open _root_.Go.Proofs.Tryz
section
open Go.RowKit
theorem Kj (s : ByteArray) : (s.extract 1 s.size).data.toList = s.data.toList.drop 1 := by
 rw [ByteArray.data_extract, Array.toList_extract, List.extract_eq_take_drop];rw [List.take_of_length_le];rw [List.length_drop, Ad]; exact Nat.le_refl _
theorem Vn (s : ByteArray) : (s.extract 1 s.size).size = s.size - 1 := by
 have := congrArg List.length (Kj s)
 rwa [Ad, List.length_drop, Ad] at this
theorem Dz (s : ByteArray) (h : ¬ 0 < s.size) : s = { data := #[] } := by
 have h2 : s.data.size = 0 := by have : s.data.size = s.size := rfl; omega
 apply ByteArray.ext;exact Array.eq_empty_of_size_eq_zero h2
theorem a9k (s : ByteArray) (h0 : 0 < s.size) (h : ((s[0].toNat : Int) == 45) = true) : negB s.data.toList = true := by
 unfold negB; rw [C0 s h0];have e : s[0] = 45 := UInt8.toNat_inj.1 (by simp at h; have : (45 : UInt8).toNat = 45 := rfl; omega);rw [e]; rfl
theorem a4h (s : ByteArray) (h0 : 0 < s.size) (h : ((s[0].toNat : Int) == 45) = false) : negB s.data.toList = false := by
 unfold negB; rw [C0 s h0, beq_eq_false_iff_ne];intro e; rw [e] at h; exact absurd h (by decide)
theorem parse_any (s : ByteArray) (w : World) (hs : s.size <= 100000) :
  Calls prog 170 #[.string s] w fun x w' => x = .returned (.tuple #[.int .i64 (parseN s.data.toList), .int .i64 (parseE s.data.toList)]) ∧ w = w' := by
 by_cases h0 : 0 < s.size
 ·by_cases hm : ((s[0].toNat : Int) == 45) = true
  ·have hn := a9k s h0 hm;refine W6 s _ w hs h0 hm rfl (by rw [Vn]; omega) _ _ ?_ ?_
   ·show _ = _;unfold parseN good body;rw [hn, Kj]; simp only [if_true, Bool.true_and, mostOf]
   ·show _ = _;unfold parseE good body;rw [hn, Kj]; simp only [if_true, Bool.true_and, mostOf]
  ·have hm2 : ((s[0].toNat : Int) == 45) = false := by simpa using hm
   have hn := a4h s h0 hm2;refine W5 s w hs h0 hm2 _ _ ?_ ?_
   ·show _ = _;unfold parseN good body;rw [hn]; simp [mostOf]
   ·show _ = _;unfold parseE good body;rw [hn]; simp [mostOf]
 ·have e := Dz s h0;subst e;exact W7 w
end
end Go.Proofs.YtoaplbljflhheaaGreat.Nm
namespace Go.Proofs.YtoaplbljflhheaaGreat.Nm
open _root_.Go.Proofs.Tryz
section
open Go.RowKit
theorem all_cons {c : UInt8} {l : List UInt8} (h : (c :: l).all L4 = true) : (48 <= c.toNat ∧ c.toNat <= 57) ∧ l.all L4 = true := by
 simp only [List.all_cons, Bool.and_eq_true] at h;refine ⟨?_, h.2⟩;have := h.1; unfold L4 at this; simpa using this
end
end Go.Proofs.YtoaplbljflhheaaGreat.Nm
namespace Go.Proofs.YtoaplbljflhheaaGreat.Nm
open _root_.Go.Proofs.Tryz
section
open Go.RowKit
theorem parse_range (l : List UInt8) : -9223372036854775808 <= parseN l ∧ parseN l <= 9223372036854775807 := by
 unfold parseN;split
 ·split
  ·omega
  ·rename_i h;unfold mostOf at h;by_cases hn : negB l = true
   ·rw [if_pos hn] at h ⊢; omega
   ·rw [if_neg hn] at h ⊢; omega
 ·omega
end
end Go.Proofs.YtoaplbljflhheaaGreat.Nm
