/-
  Contracts of quote.readDigits and quote.readByte. Conditions: texts of at most 1000000 bytes.
-/
import Derived.Test.YtbknflaooemigaaSmall
namespace Go.Proofs.Ytbknflaooemigaa
open Go.RowKit
set_option linter.unusedVariables false

theorem drop_cons (s : ByteArray) (k : Nat) (h : k < s.size) : s.data.toList.drop k = s[k] :: s.data.toList.drop (k + 1) := by
  rw [List.drop_eq_getElem_cons (by rw [size_list]; exact h)]; rfl

theorem drop_end (s : ByteArray) (k : Nat) (h : s.size ≤ k) : s.data.toList.drop k = [] := List.drop_of_length_le (by rw [size_list]; exact h)

abbrev tri (r : Rb) : Value := .tuple #[byt r.1, .int .i64 (r.2.1 : Nat), .bool r.2.2]

theorem ret_tri {a b : Int} {t : Bool} {r : Rb} {x : UInt8} {k : Nat} (h : r = (x, k, t)) (h1 : a = (x.toNat : Nat)) (h2 : b = (k : Nat)) : Ending.returned (.tuple #[.int .u8 a, .int .i64 b, .bool t]) = .returned (tri r) := by
  rw [h, h1, h2]

theorem dgo_some {c : UInt8} {x : Nat} (h : dg c = some x) (w : World) : Calls Try.prog 88 #[byt c] w fun e w' => e = .returned (.tuple #[.int .u8 x, .bool true]) ∧ w = w' := by
  have := digit_any c w
  rw [dgo, h] at this
  simp only [byt, of_nat (show x < 256 from Nat.lt_trans (dg_lt h) (by decide))] at this
  exact this

theorem dgo_none {c : UInt8} (h : dg c = none) (w : World) : Calls Try.prog 88 #[byt c] w fun e w' => e = .returned (.tuple #[.int .u8 0, .bool false]) ∧ w = w' := by
  have := digit_any c w
  rw [dgo, h] at this
  exact this

theorem or4 : ∀ x y : Fin 16, bits BinOp.or IntKind.u8 ((x.val : Int) * 16) (y.val : Int) = ((16 * x.val + y.val : Nat) : Int) := by decide +kernel

set_option maxHeartbeats 1000000 in
theorem digits_any (s : ByteArray) (w : World) (h2 : 2 ≤ s.size) (hs : s.size ≤ 1000000) : Calls Try.prog 79 #[.string s] w fun e w' => e = .returned (tri (rd (s.data.toList.drop 2))) ∧ w = w' := by
  obtain ⟨r, hr⟩ : ∃ r, rd (s.data.toList.drop 2) = r := ⟨_, rfl⟩
  rw [hr]
  replace hr := Lib.hid hr
  go_enter Try.func79, Try.ntmps79
  go_wp2
  go_loop [5, 6] (fun b i => (b = .int .u8 0 ∧ i = .int .i64 2) ∨ (∃ (h : 2 < s.size) (x : Nat), dg s[2] = some x ∧ b = .int .u8 x ∧ i = .int .i64 3) ∨
    (∃ (h : 3 < s.size) (x y : Nat), dg s[2] = some x ∧ dg s[3] = some y ∧ b = .int .u8 (16 * x + y : Nat) ∧ i = .int .i64 4)) (fun _ i => 4 - (intOf i).toNat)
  case atStart => exact .inl ⟨rfl, rfl⟩
  case round =>
    rcases hrel with ⟨rfl, rfl⟩ | ⟨h, x, hx, rfl, rfl⟩ | ⟨h, x, y, hx, hy, rfl, rfl⟩
    · by_cases hlt : 2 < s.size
      · have hne : ((2 : Int) == (s.size : Int)) = false := by rw [beq_eq_false_iff_ne]; omega
        cases hd : dg s[2] with
        | none =>
          have HD := Lib.hid (dgo_none hd)
          have HR := Lib.hid (show r = (0, 2, false) by rw [← hr.out, drop_cons s 2 hlt, rd_bad _ _ hd])
          clear hd
          go_wp2_with fail
          refine (HD.out _).mono ?_
          rintro e w1 ⟨rfl, rfl⟩
          go_wp2
          go_ret3
          exact ⟨ret_tri HR.out rfl rfl, rfl⟩
        | some x =>
          have HD := Lib.hid (dgo_some hd)
          have hx16 := dg_lt hd
          have hor : bits BinOp.or IntKind.u8 0 (x : Int) = x := by simpa using or4 0 ⟨x, hx16⟩
          replace hd := Lib.hid hd
          go_wp2_with fail
          refine (HD.out _).mono ?_
          rintro e w1 ⟨rfl, rfl⟩
          go_wp2
          go_round
          case rel => exact .inr (.inl ⟨hlt, x, hd.out, rfl, by go_num⟩)
          case measure => simp [intOf]
      · have hsz : s.size = 2 := by omega
        have HR := Lib.hid (show r = (0, 2, false) by rw [← hr.out, drop_end s 2 (by omega), rd_nil])
        have he : ((2 : Int) == (s.size : Int)) = true := by rw [beq_iff_eq]; omega
        clear hsz hlt
        go_wp2
        go_ret3
        exact ⟨ret_tri HR.out rfl rfl, rfl⟩
    · by_cases hlt : 3 < s.size
      · have hne : ((3 : Int) == (s.size : Int)) = false := by rw [beq_eq_false_iff_ne]; omega
        cases hd : dg s[3] with
        | none =>
          have HD := Lib.hid (dgo_none hd)
          have HR := Lib.hid (show r = (0, 3, false) by rw [← hr.out, drop_cons s 2 h, drop_cons s 3 hlt, rd_bad2 _ _ _ _ hx hd])
          clear hd
          go_wp2_with fail
          refine (HD.out _).mono ?_
          rintro e w1 ⟨rfl, rfl⟩
          go_wp2
          go_ret3
          exact ⟨ret_tri HR.out rfl rfl, rfl⟩
        | some y =>
          have HD := Lib.hid (dgo_some hd)
          have hx16 := dg_lt hx
          have hy16 := dg_lt hd
          have hor := or4 ⟨x, hx16⟩ ⟨y, hy16⟩
          simp only at hor
          replace hd := Lib.hid hd
          replace hx := Lib.hid hx
          go_wp2_with fail
          refine (HD.out _).mono ?_
          rintro e w1 ⟨rfl, rfl⟩
          go_wp2
          go_round
          case rel => exact .inr (.inr ⟨hlt, x, y, hx.out, hd.out, rfl, by go_num⟩)
          case measure => simp [intOf]
      · have hsz : s.size = 3 := by omega
        have HR := Lib.hid (show r = (0, 3, false) by rw [← hr.out, drop_cons s 2 h, drop_end s 3 (by omega), rd_one _ _ hx])
        have he : ((3 : Int) == (s.size : Int)) = true := by rw [beq_iff_eq]; omega
        clear hsz hlt
        go_wp2
        go_ret3
        exact ⟨ret_tri HR.out rfl rfl, rfl⟩
    · have HR := Lib.hid (show r = (UInt8.ofNat (16 * x + y), 4, true) by rw [← hr.out, drop_cons s 2 (by omega), drop_cons s 3 h, rd_two _ _ _ _ _ hx hy])
      have hx16 := dg_lt hx
      have hy16 := dg_lt hy
      clear hx hy
      go_wp2
      go_ret3
      exact ⟨ret_tri HR.out (by rw [of_nat (by omega)]; omega) rfl, rfl⟩

theorem wth_true {c : UInt8} (h : wth c = true) : ¬ (c.toNat < 32 ∨ 126 < c.toNat) := by simp [wth] at h; omega
theorem wth_false {c : UInt8} (h : wth c = false) : c.toNat < 32 ∨ 126 < c.toNat := by simp [wth] at h; omega

theorem byo_some {c b : UInt8} (h : bk c = some b) (w : World) : Calls Try.prog 80 #[byt c] w fun e w' => e = .returned (.tuple #[byt b, .bool true]) ∧ w = w' := by
  have := byte_any c w
  rw [byo, h] at this
  exact this

theorem byo_none {c : UInt8} (h : bk c = none) (w : World) : Calls Try.prog 80 #[byt c] w fun e w' => e = .returned (.tuple #[byt 0, .bool false]) ∧ w = w' := by
  have := byte_any c w
  rw [byo, h] at this
  exact this

theorem rb0 (w : World) : Calls Try.prog 71 #[.string { data := #[] }] w fun e w' => e = .returned (tri (0, 0, false)) ∧ w = w' := by
  go_enter Try.func71, Try.ntmps71
  go_wp2
  go_ret3
  exact ⟨rfl, rfl⟩

theorem rb_le (l : List UInt8) : (rb l).2.1 ≤ 4 := by
  match l with
  | [] => simp [rb_nil]
  | c :: t =>
    by_cases h1 : c.toNat < 32 ∨ 126 < c.toNat
    · simp [rb_out c t h1]
    · by_cases h2 : c = 92
      · subst h2
        match t with
        | [] => simp [rb_end]
        | d :: u =>
          by_cases h3 : d = 120
          · subst h3
            rw [rb_x]
            match u with
            | [] => simp [rd_nil]
            | e :: v =>
              cases he : dg e with
              | none => simp [rd_bad e v he]
              | some x =>
                match v with
                | [] => simp [rd_one e x he]
                | f :: v =>
                  cases hf : dg f with
                  | none => simp [rd_bad2 e f v x he hf]
                  | some y => simp [rd_two e f v x y he hf]
          · cases hb : bk d with
            | none => simp [rb_no d u h3 hb]
            | some b => simp [rb_bk d u h3 b hb]
      · simp [rb_plain c t h1 h2]

theorem not_nil (s : ByteArray) (h : 0 < s.size) : (s.toList == []) = false := by
  rw [beq_eq_false_iff_ne, ByteArray.toList_eq]
  intro e
  have := congrArg List.length e
  rw [size_list, List.length_nil] at this
  omega

set_option maxHeartbeats 1000000 in
theorem readByte_any (s : ByteArray) (w : World) (hs : s.size ≤ 1000000) : Calls Try.prog 71 #[.string s] w fun e w' => e = .returned (tri (rb s.data.toList)) ∧ w = w' := by
  by_cases h0 : 0 < s.size
  case neg =>
    rw [empty_of s h0]
    exact rb0 w
  obtain ⟨r, hr⟩ : ∃ r, rb s.data.toList = r := ⟨_, rfl⟩
  rw [hr]
  have e0 := drop_cons s 0 h0
  rw [List.drop_zero] at e0
  rw [e0] at hr
  replace hr := Lib.hid hr
  clear e0
  have HW := Lib.hid (fun w => within_any s[0] w)
  have hne := not_nil s h0
  cases hw : wth s[0] with
  | false =>
    have HR := Lib.hid (show r = (0, 0, false) by rw [← hr.out, rb_out _ _ (wth_false hw)])
    rw [hw] at HW
    clear hw
    go_enter Try.func71, Try.ntmps71
    go_wp2_with fail
    refine (HW.out _).mono ?_
    rintro e w1 ⟨rfl, rfl⟩
    go_wp2
    go_ret3
    exact ⟨ret_tri HR.out rfl rfl, rfl⟩
  | true =>
    rw [hw] at HW
    by_cases h92 : s[0] = 92
    case neg =>
      have HR := Lib.hid (show r = (s[0], 1, true) by rw [← hr.out, rb_plain _ _ (wth_true hw) h92])
      have e1 := b_ne (n := 92) (by decide) h92
      clear hw h92
      go_enter Try.func71, Try.ntmps71
      go_wp2_with fail
      refine (HW.out _).mono ?_
      rintro e w1 ⟨rfl, rfl⟩
      go_wp2
      go_ret3
      exact ⟨ret_tri HR.out rfl rfl, rfl⟩
    have e1 : ((s[0].toNat : Int) != 92) = false := by rw [h92]; rfl
    clear hw
    by_cases h1 : 1 < s.size
    case neg =>
      have HR := Lib.hid (show r = (0, 1, false) by rw [← hr.out, drop_end s _ (by omega), h92, rb_end])
      have e2 : ((s.size : Int) == 1) = true := by rw [beq_iff_eq]; omega
      clear h92 h1
      go_enter Try.func71, Try.ntmps71
      go_wp2_with fail
      refine (HW.out _).mono ?_
      rintro e w1 ⟨rfl, rfl⟩
      go_wp2
      go_ret3
      exact ⟨ret_tri HR.out rfl rfl, rfl⟩
    have e2 : ((s.size : Int) == 1) = false := by rw [beq_eq_false_iff_ne]; omega
    by_cases h120 : s[1] = 120
    case pos =>
      have HR := Lib.hid (show rd (s.data.toList.drop 2) = r by rw [← hr.out, drop_cons s 1 h1, h92, h120, rb_x])
      have e3 : ((s[1].toNat : Int) == 120) = true := by rw [h120]; rfl
      have HD := Lib.hid (fun w => digits_any s w h1 hs)
      rw [HR.out] at HD
      clear h92 h120
      go_enter Try.func71, Try.ntmps71
      go_wp2_with fail
      refine (HW.out _).mono ?_
      rintro e w1 ⟨rfl, rfl⟩
      go_wp2_with fail
      refine (HD.out _).mono ?_
      rintro e w1 ⟨rfl, rfl⟩
      go_wp2
      go_ret3
      exact ⟨rfl, rfl⟩
    have e3 := byte_ne (n := 120) (by decide) h120
    cases hb : bk s[1] with
    | none =>
      have HR := Lib.hid (show r = (0, 1, false) by rw [← hr.out, drop_cons s 1 h1, h92, rb_no _ _ h120 hb])
      have HD := Lib.hid (fun w => byo_none hb w)
      clear h92 h120 hb
      go_enter Try.func71, Try.ntmps71
      go_wp2_with fail
      refine (HW.out _).mono ?_
      rintro e w1 ⟨rfl, rfl⟩
      go_wp2_with fail
      refine (HD.out _).mono ?_
      rintro e w1 ⟨rfl, rfl⟩
      go_wp2
      go_ret3
      exact ⟨ret_tri HR.out rfl rfl, rfl⟩
    | some b =>
      have HR := Lib.hid (show r = (b, 2, true) by rw [← hr.out, drop_cons s 1 h1, h92, rb_bk _ _ h120 _ hb])
      have HD := Lib.hid (fun w => byo_some hb w)
      clear h92 h120 hb
      go_enter Try.func71, Try.ntmps71
      go_wp2_with fail
      refine (HW.out _).mono ?_
      rintro e w1 ⟨rfl, rfl⟩
      go_wp2_with fail
      refine (HD.out _).mono ?_
      rintro e w1 ⟨rfl, rfl⟩
      go_wp2
      go_ret3
      exact ⟨ret_tri HR.out rfl rfl, rfl⟩

end Go.Proofs.Ytbknflaooemigaa
