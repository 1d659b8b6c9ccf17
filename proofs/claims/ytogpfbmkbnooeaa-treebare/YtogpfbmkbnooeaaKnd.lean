/-
  Contracts of the document's small functions on bytes (value, kind, inner), and plain facts that they lean on. Conditions: as said.
-/
import Derived.Test.YtogpfbmkbnooeaaTok
import Derived.Test.YtogpfbmkbnooeaaBytes
namespace Go.Proofs.Ytogpfbmkbnooeaa
open Go.RowKit Go.Sort
set_option linter.unusedVariables false

def byo (c : UInt8) : UInt8 × Bool := match bk c with | some b => (b, true) | none => (0, false)
def dgo (c : UInt8) : UInt8 × Bool := match dg c with | some x => (UInt8.ofNat x, true) | none => (0, false)
def vlo (c : UInt8) : Int := match dg c with | some x => x | none => -1
def wth (c : UInt8) : Bool := decide (32 ≤ c.toNat ∧ c.toNat ≤ 126)

theorem dg_lt {c : UInt8} {x : Nat} (h : dg c = some x) : x < 16 := by
  unfold dg at h
  split at h
  · simp at h; omega
  · split at h
    · simp at h; omega
    · split at h
      · simp at h; omega
      · simp at h

theorem dg_cases (c : UInt8) : (48 ≤ c.toNat ∧ c.toNat ≤ 57 ∧ dg c = some (c.toNat - 48)) ∨ (97 ≤ c.toNat ∧ c.toNat ≤ 102 ∧ dg c = some (c.toNat - 87)) ∨
    (65 ≤ c.toNat ∧ c.toNat ≤ 70 ∧ dg c = some (c.toNat - 55)) ∨ (¬ (48 ≤ c.toNat ∧ c.toNat ≤ 57) ∧ ¬ (97 ≤ c.toNat ∧ c.toNat ≤ 102) ∧ ¬ (65 ≤ c.toNat ∧ c.toNat ≤ 70) ∧ dg c = none) := by
  unfold dg
  by_cases h1 : 48 ≤ c.toNat ∧ c.toNat ≤ 57
  · exact .inl ⟨h1.1, h1.2, if_pos h1⟩
  by_cases h2 : 97 ≤ c.toNat ∧ c.toNat ≤ 102
  · exact .inr (.inl ⟨h2.1, h2.2, by rw [if_neg h1, if_pos h2]⟩)
  by_cases h3 : 65 ≤ c.toNat ∧ c.toNat ≤ 70
  · exact .inr (.inr (.inl ⟨h3.1, h3.2, by rw [if_neg h1, if_neg h2, if_pos h3]⟩))
  exact .inr (.inr (.inr ⟨h1, h2, h3, by rw [if_neg h1, if_neg h2, if_neg h3]⟩))

theorem ret_bb {a : Int} {c : UInt8 × Bool} {b : UInt8} {t : Bool} (h : c = (b, t)) (h2 : a = (b.toNat : Nat)) : Ending.returned (.tuple #[.int .u8 a, .bool t]) = .returned (.tuple #[byt c.1, .bool c.2]) := by rw [h, h2]

theorem of_nat {x : Nat} (h : x < 256) : (UInt8.ofNat x).toNat = x := UInt8.toNat_ofNat_of_lt' (by simpa using h)

theorem ret_ib {a b : Int} {t : Bool} (h : a = b) : Ending.returned (.tuple #[.int .u8 a, .bool t]) = .returned (.tuple #[.int .u8 b, .bool t]) := by rw [h]

theorem val0 (n : Nat) (w : World) (k1 : (48 : Int) ≤ n) (k2 : (n : Int) ≤ 57) : Calls Try.prog 70 #[.int .u8 n] w fun e w' => e = .returned (.int .i64 ((n : Int) - 48)) ∧ w = w' := by
  go_enter Try.func70, Try.ntmps70
  go_wp2
  go_ret
  exact ⟨ret_int (by omega), rfl⟩

theorem val1 (n : Nat) (w : World) (k1 : (97 : Int) ≤ n) (k2 : (n : Int) ≤ 102) : Calls Try.prog 70 #[.int .u8 n] w fun e w' => e = .returned (.int .i64 ((n : Int) - 87)) ∧ w = w' := by
  go_enter Try.func70, Try.ntmps70
  go_wp2
  go_ret
  exact ⟨ret_int (by omega), rfl⟩

theorem val2 (n : Nat) (w : World) (k1 : (65 : Int) ≤ n) (k2 : (n : Int) ≤ 70) : Calls Try.prog 70 #[.int .u8 n] w fun e w' => e = .returned (.int .i64 ((n : Int) - 55)) ∧ w = w' := by
  go_enter Try.func70, Try.ntmps70
  go_wp2
  go_ret
  exact ⟨ret_int (by omega), rfl⟩

set_option maxHeartbeats 400000 in
theorem val3 (n : Nat) (w : World) (hn : (n : Int) < 256) (h1 : ¬ (48 ≤ n ∧ n ≤ 57)) (h2 : ¬ (97 ≤ n ∧ n ≤ 102)) (h3 : ¬ (65 ≤ n ∧ n ≤ 70)) :
    Calls Try.prog 70 #[.int .u8 n] w fun e w' => e = .returned (.int .i64 (-1)) ∧ w = w' := by
  rcases (show (n : Int) < 48 ∨ ((57 : Int) < n ∧ (n : Int) < 65) ∨ ((70 : Int) < n ∧ (n : Int) < 97) ∨ (102 : Int) < n by omega) with h | ⟨h, h'⟩ | ⟨h, h'⟩ | h <;> clear h1 h2 h3 hn <;>
  · go_enter Try.func70, Try.ntmps70
    go_wp2
    go_ret
    exact ⟨rfl, rfl⟩

theorem value_any (c : UInt8) (w : World) : Calls Try.prog 70 #[byt c] w fun e w' => e = .returned (.int .i64 (vlo c)) ∧ w = w' := by
  have hc : (c.toNat : Int) < 256 := by have := c.toNat_lt; omega
  rcases dg_cases c with ⟨h1, h2, h⟩ | ⟨h1, h2, h⟩ | ⟨h1, h2, h⟩ | ⟨h1, h2, h3, h⟩
  · refine (val0 _ w (by omega) (by omega)).mono fun e w' he => ⟨he.1.trans (ret_int ?_), he.2⟩
    rw [vlo, h]; simp only; omega
  · refine (val1 _ w (by omega) (by omega)).mono fun e w' he => ⟨he.1.trans (ret_int ?_), he.2⟩
    rw [vlo, h]; simp only; omega
  · refine (val2 _ w (by omega) (by omega)).mono fun e w' he => ⟨he.1.trans (ret_int ?_), he.2⟩
    rw [vlo, h]; simp only; omega
  · exact (val3 _ w hc h1 h2 h3).mono fun e w' he => ⟨he.1.trans (ret_int (by rw [vlo, h])), he.2⟩

theorem drop_cons (s : ByteArray) (k : Nat) (h : k < s.size) : s.data.toList.drop k = s[k] :: s.data.toList.drop (k + 1) := by
  rw [List.drop_eq_getElem_cons (by rw [size_list]; exact h)]; rfl

theorem drop_end (s : ByteArray) (k : Nat) (h : s.size ≤ k) : s.data.toList.drop k = [] := List.drop_of_length_le (by rw [size_list]; exact h)

abbrev tri (r : Rb) : Value := .tuple #[byt r.1, .int .i64 (r.2.1 : Nat), .bool r.2.2]

theorem ret_tri {a b : Int} {t : Bool} {r : Rb} {x : UInt8} {k : Nat} (h : r = (x, k, t)) (h1 : a = (x.toNat : Nat)) (h2 : b = (k : Nat)) : Ending.returned (.tuple #[.int .u8 a, .int .i64 b, .bool t]) = .returned (tri r) := by
  rw [h, h1, h2]

theorem or4 : ∀ x y : Fin 16, bits BinOp.or IntKind.u8 ((x.val : Int) * 16) (y.val : Int) = ((16 * x.val + y.val : Nat) : Int) := by decide +kernel

theorem wth_true {c : UInt8} (h : wth c = true) : ¬ (c.toNat < 32 ∨ 126 < c.toNat) := by simp [wth] at h; omega
theorem wth_false {c : UInt8} (h : wth c = false) : c.toNat < 32 ∨ 126 < c.toNat := by simp [wth] at h; omega

theorem rb_le (l : List UInt8) : (rb l).2.1 ≤ 4 := by
  match l with
  | [] => simp [rb_nil]
  | c :: t =>
    by_cases h1 : c.toNat < 32 ∨ 126 < c.toNat
    · simp [rb_out c t h1]
    · by_cases h2 : c = 92
      · subst h2
        match t with
        | [] => simp [rb_end]
        | d :: u =>
          by_cases h3 : d = 120
          · subst h3
            rw [rb_x]
            match u with
            | [] => simp [rd_nil]
            | e :: v =>
              cases he : dg e with
              | none => simp [rd_bad e v he]
              | some x =>
                match v with
                | [] => simp [rd_one e x he]
                | f :: v =>
                  cases hf : dg f with
                  | none => simp [rd_bad2 e f v x he hf]
                  | some y => simp [rd_two e f v x y he hf]
          · cases hb : bk d with
            | none => simp [rb_no d u h3 hb]
            | some b => simp [rb_bk d u h3 b hb]
      · simp [rb_plain c t h1 h2]

theorem not_nil (s : ByteArray) (h : 0 < s.size) : (s.toList == []) = false := by
  rw [beq_eq_false_iff_ne, ByteArray.toList_eq]
  intro e
  have := congrArg List.length e
  rw [size_list, List.length_nil] at this
  omega

theorem ext_end (s : ByteArray) (k : Nat) : (s.extract k s.size).data.toList = s.data.toList.drop k := by
  rw [ext_list, List.take_of_length_le]
  rw [List.length_drop, size_list]; exact Nat.le_refl _

theorem ext_size (s : ByteArray) (k : Nat) (h : s.size ≤ 1000000) : (s.extract k s.size).size ≤ 1000000 := by
  rw [← size_list, ext_end, List.length_drop, size_list]; omega

theorem ret_nb {a : Int} {t : Bool} {R : Nat × Bool} {k : Nat} (h : (k, t) = R) (h1 : a = (k : Nat)) : Ending.returned (.tuple #[.int .i64 a, .bool t]) = .returned (.tuple #[.int .i64 (R.1 : Nat), .bool R.2]) := by
  rw [← h, h1]

theorem head_drop (s : ByteArray) (k : Nat) (h : k < s.size) : (s.data.toList.drop k).head? = some s[k] := by rw [drop_cons s k h]; rfl

theorem read_some (s : ByteArray) (h0 : 0 < s.size) (h34 : s[0] = 34) : readOf s.data.toList = ((scan (s.data.toList.drop 1)).1, 1 + (scan (s.data.toList.drop 1)).2.1, (scan (s.data.toList.drop 1)).2.2) := by
  have e := head_drop s 0 h0
  rw [List.drop_zero, h34] at e
  rw [readOf, if_pos e, List.drop_one]

theorem read_none (s : ByteArray) (h0 : 0 < s.size) (h34 : s[0] ≠ 34) : readOf s.data.toList = ([], 0, false) := by
  have e := head_drop s 0 h0
  rw [List.drop_zero] at e
  rw [readOf, if_neg]
  rw [e]; simpa using h34

/-- The document's kind of a byte. -/
def kdN (c : UInt8) : Nat := if sml c = true then 1 else if grt c = true then 2 else if dgt c = true then 3 else 0

theorem ret_kd {c : UInt8} {n : Nat} {a : Int} (h : kdN c = n) (h2 : a = n) : Ending.returned (.int .i64 a) = .returned (.int .i64 (kdN c : Nat)) := by rw [h, h2]

theorem kind_any (c : UInt8) (w : World) : Calls Try.prog 63 #[byt c] w fun e w' => e = .returned (.int .i64 (kdN c : Nat)) ∧ w = w' := by
  by_cases h95 : c = 95
  · subst h95
    go_enter Try.func63, Try.ntmps63
    go_wp2
    go_ret
    exact ⟨rfl, rfl⟩
  have e95 : ((c.toNat : Int) == 95) = false := byte_ne (n := 95) (by decide) h95
  have hn : (c.toNat : Int) ≤ 255 := by have := c.toNat_lt; omega
  rcases (show (122 : Int) < c.toNat ∨ ((97 : Int) ≤ c.toNat ∧ (c.toNat : Int) ≤ 122) ∨ ((90 : Int) < c.toNat ∧ (c.toNat : Int) < 97) ∨ ((65 : Int) ≤ c.toNat ∧ (c.toNat : Int) ≤ 90) ∨
      ((57 : Int) < c.toNat ∧ (c.toNat : Int) < 65) ∨ ((48 : Int) ≤ c.toNat ∧ (c.toNat : Int) ≤ 57) ∨ (c.toNat : Int) < 48 by omega) with h | ⟨h, h'⟩ | ⟨h, h'⟩ | ⟨h, h'⟩ | ⟨h, h'⟩ | ⟨h, h'⟩ | h
  · have H := Lib.hid (show kdN c = 0 by
      have a : sml c = false := by simp [sml, h95]; omega
      have b : grt c = false := by simp [grt]; omega
      have d : dgt c = false := by simp [dgt]; omega
      rw [kdN, a, b, d]; rfl)
    clear h95 hn
    go_enter Try.func63, Try.ntmps63
    go_wp2
    go_ret
    exact ⟨ret_kd H.out rfl, rfl⟩
  · have H := Lib.hid (show kdN c = 1 by
      have a : sml c = true := by simp [sml, h95]; omega
      have b : grt c = false := by simp [grt]; omega
      have d : dgt c = false := by simp [dgt]; omega
      rw [kdN, a]; rfl)
    clear h95 hn
    go_enter Try.func63, Try.ntmps63
    go_wp2
    go_ret
    exact ⟨ret_kd H.out rfl, rfl⟩
  · have H := Lib.hid (show kdN c = 0 by
      have a : sml c = false := by simp [sml, h95]; omega
      have b : grt c = false := by simp [grt]; omega
      have d : dgt c = false := by simp [dgt]; omega
      rw [kdN, a, b, d]; rfl)
    clear h95 hn
    go_enter Try.func63, Try.ntmps63
    go_wp2
    go_ret
    exact ⟨ret_kd H.out rfl, rfl⟩
  · have H := Lib.hid (show kdN c = 2 by
      have a : sml c = false := by simp [sml, h95]; omega
      have b : grt c = true := by simp [grt]; omega
      have d : dgt c = false := by simp [dgt]; omega
      rw [kdN, a, b]; rfl)
    clear h95 hn
    go_enter Try.func63, Try.ntmps63
    go_wp2
    go_ret
    exact ⟨ret_kd H.out rfl, rfl⟩
  · have H := Lib.hid (show kdN c = 0 by
      have a : sml c = false := by simp [sml, h95]; omega
      have b : grt c = false := by simp [grt]; omega
      have d : dgt c = false := by simp [dgt]; omega
      rw [kdN, a, b, d]; rfl)
    clear h95 hn
    go_enter Try.func63, Try.ntmps63
    go_wp2
    go_ret
    exact ⟨ret_kd H.out rfl, rfl⟩
  · have H := Lib.hid (show kdN c = 3 by
      have a : sml c = false := by simp [sml, h95]; omega
      have b : grt c = false := by simp [grt]; omega
      have d : dgt c = true := by simp [dgt]; omega
      rw [kdN, a, b, d]; rfl)
    clear h95 hn
    go_enter Try.func63, Try.ntmps63
    go_wp2
    go_ret
    exact ⟨ret_kd H.out rfl, rfl⟩
  · have H := Lib.hid (show kdN c = 0 by
      have a : sml c = false := by simp [sml, h95]; omega
      have b : grt c = false := by simp [grt]; omega
      have d : dgt c = false := by simp [dgt]; omega
      rw [kdN, a, b, d]; rfl)
    clear h95 hn
    go_enter Try.func63, Try.ntmps63
    go_wp2
    go_ret
    exact ⟨ret_kd H.out rfl, rfl⟩

theorem kd_pos (c : UInt8) : (0 < kdN c) ↔ nam c = true := by
  unfold kdN nam
  cases sml c <;> cases grt c <;> cases dgt c <;> simp

theorem runL_cons {p : UInt8 → Bool} {c : UInt8} {t : List UInt8} (h : p c = true) : runL p (c :: t) = runL p t + 1 := by rw [runL, if_pos h]
theorem runL_none {p : UInt8 → Bool} {c : UInt8} {t : List UInt8} (h : p c = false) : runL p (c :: t) = 0 := by rw [runL, if_neg (by simp [h])]

set_option maxHeartbeats 400000 in
theorem inner_any (s : ByteArray) (i : Nat) (hi : i ≤ s.size) (hs : s.size ≤ 1000000) (R : Nat) (hR : Hid (i + runL nam (s.data.toList.drop i) = R)) (w : World) :
    Calls Try.prog 64 #[.string s, .int .i64 i] w fun e w' => e = .returned (.int .i64 (R : Nat)) ∧ w = w' := by
  go_enter Try.func64, Try.ntmps64
  go_wp2
  go_loop [1] (fun i => ∃ k : Nat, k ≤ s.size ∧ i = .int .i64 k ∧ k + runL nam (s.data.toList.drop k) = R) (fun i => s.size - (intOf i).toNat)
  case atStart => exact ⟨i, hi, rfl, hR.out⟩
  case round =>
    clear hR
    obtain ⟨k, hk, rfl, hk2⟩ := hrel
    by_cases hlt : k < s.size
    · rw [drop_cons s k hlt] at hk2
      have HP := Lib.hid (fun w => kind_any s[k] w)
      obtain ⟨n, hn⟩ : ∃ n, kdN s[k] = n := ⟨_, rfl⟩
      rw [hn] at HP
      have hpos := kd_pos s[k]
      rw [hn] at hpos
      cases hp : nam s[k] with
      | true =>
        have h0 : 0 < n := hpos.2 hp
        have h0' : (0 : Int) < n := by omega
        rw [runL_cons hp] at hk2
        replace hk2 := Lib.hid hk2
        clear hp hpos hn
        go_wp2_with fail
        refine (HP.out _).mono ?_
        rintro e w' ⟨rfl, rfl⟩
        go_wp2
        go_round
        case rel => exact ⟨k + 1, hlt, by go_num, by have := hk2.out; omega⟩
        case measure => simp [intOf]; omega
      | false =>
        obtain rfl : n = 0 := by
          have : ¬ 0 < n := fun h => by have := hpos.1 h; rw [hp] at this; cases this
          omega
        rw [runL_none hp] at hk2
        replace hk2 := Lib.hid hk2
        clear hp hpos hn
        go_wp2_with fail
        refine (HP.out _).mono ?_
        rintro e w' ⟨rfl, rfl⟩
        go_wp2
        go_ret
        exact ⟨ret_int (by have := hk2.out; omega), rfl⟩
    · rw [drop_end s k (by omega)] at hk2
      have hlt2 : ¬ (k : Int) < s.size := by omega
      replace hk2 := Lib.hid (show k = R from hk2)
      go_wp2
      go_ret
      exact ⟨ret_int (by have := hk2.out; omega), rfl⟩


end Go.Proofs.Ytogpfbmkbnooeaa
