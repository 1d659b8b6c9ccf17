/-
  The walks of the laws of layer 3 out of their callees' contracts. Conditions: those contracts.
-/
import Derived.Test.YtcjliachoahndaaAw
namespace Go.Proofs.Ytcjliachoahndaa
open Go.RowKit Go.Sort
set_option linter.unusedVariables false

abbrev AwakeC : Prop := ∀ w, Calls Try.prog 7 #[] w fun e w' => e = .returned (.bool true) ∧ Below w.heap.size w w'

theorem writes_long (s : ByteArray) (w : World) (h : (3000 : Int) < s.size) (H0 : Hid AwakeC) : Calls Try.prog 3 #[.string s] w fun e w' => e = .returned (.bool true) ∧ Below w.heap.size w w' := by
  go_enter Try.func3, Try.ntmps3
  go_wp2_with fail
  refine (H0.out _).mono ?_
  rintro e w1 ⟨rfl, hb⟩
  go_wp2
  go_ret
  exact ⟨rfl, hb⟩

theorem reads_long (s : ByteArray) (w : World) (h : (3000 : Int) < s.size) (H0 : Hid AwakeC) : Calls Try.prog 4 #[.string s] w fun e w' => e = .returned (.bool true) ∧ Below w.heap.size w w' := by
  go_enter Try.func4, Try.ntmps4
  go_wp2_with fail
  refine (H0.out _).mono ?_
  rintro e w1 ⟨rfl, hb⟩
  go_wp2
  go_ret
  exact ⟨rfl, hb⟩

set_option maxHeartbeats 400000 in
theorem writes_core (s Q : ByteArray) (w : World) (h : ¬ (3000 : Int) < s.size) (H0 : Hid AwakeC)
    (H8 : Hid (∀ w, Calls Try.prog 8 #[.string s] w fun e w' => e = .returned (.string Q) ∧ Below w.heap.size w w'))
    (H9 : Hid (∀ w, Calls Try.prog 9 #[.string Q] w fun e w' => e = .returned (.tuple #[.string s, .int .i64 0]) ∧ Below w.heap.size w w'))
    (H10 : Hid (∀ w, Calls Try.prog 10 #[.string s] w fun e w' => e = .returned (.string Q) ∧ Below w.heap.size w w'))
    (H11 : Hid (∀ w, Calls Try.prog 11 #[.string s] w fun e w' => e = .returned (.int .i64 (Q.size : Nat)) ∧ w = w')) :
    Calls Try.prog 3 #[.string s] w fun e w' => e = .returned (.bool true) ∧ Below w.heap.size w w' := by
  go_enter Try.func3, Try.ntmps3
  go_wp2_with fail
  refine (H8.out _).mono ?_
  rintro e w1 ⟨rfl, hb1⟩
  replace hb1 := Lib.hid hb1
  go_wp2_with fail
  refine (H9.out _).mono ?_
  rintro e w2 ⟨rfl, hb2⟩
  replace hb2 := Lib.hid (below_step hb1.out hb2)
  go_wp2_with fail
  refine (H10.out _).mono ?_
  rintro e w3 ⟨rfl, hb3⟩
  replace hb3 := Lib.hid (below_step hb2.out hb3)
  go_wp2_with fail
  refine (H11.out _).mono ?_
  rintro e w4 ⟨rfl, rfl⟩
  go_wp2_with fail
  refine (H0.out _).mono ?_
  rintro e w5 ⟨rfl, hb5⟩
  replace hb5 := Lib.hid (below_step hb3.out hb5)
  go_wp2
  go_ret
  exact ⟨rfl, hb5.out⟩

/-- What is refused. -/
theorem reads_no (s W : ByteArray) (w : World) (h : ¬ (3000 : Int) < s.size) (n : Nat) (is : Bool) (hno : is = false ∨ (is = true ∧ n < s.size)) (H0 : Hid AwakeC)
    (H9 : Hid (∀ w, Calls Try.prog 9 #[.string s] w fun e w' => e = .returned (.tuple #[.string { data := #[] }, .int .i64 2]) ∧ Below w.heap.size w w'))
    (H12 : Hid (∀ w, Calls Try.prog 12 #[.string s] w fun e w' => e = .returned (.tuple #[.int .i64 (n : Nat), .bool is]) ∧ w = w'))
    (H13 : Hid (∀ w, Calls Try.prog 13 #[.string s] w fun e w' => e = .returned (.tuple #[.string W, .int .i64 (n : Nat), .bool is]) ∧ Below w.heap.size w w')) :
    Calls Try.prog 4 #[.string s] w fun e w' => e = .returned (.bool true) ∧ Below w.heap.size w w' := by
  rcases hno with rfl | ⟨rfl, hn⟩
  · go_enter Try.func4, Try.ntmps4
    go_wp2_with fail
    refine (H9.out _).mono ?_
    rintro e w1 ⟨rfl, hb1⟩
    replace hb1 := Lib.hid hb1
    go_wp2_with fail
    refine (H12.out _).mono ?_
    rintro e w2 ⟨rfl, rfl⟩
    go_wp2_with fail
    refine (H13.out _).mono ?_
    rintro e w3 ⟨rfl, hb3⟩
    replace hb3 := Lib.hid (below_step hb1.out hb3)
    go_wp2_with fail
    refine (H0.out _).mono ?_
    rintro e w5 ⟨rfl, hb5⟩
    replace hb5 := Lib.hid (below_step hb3.out hb5)
    go_wp2
    go_ret
    exact ⟨rfl, hb5.out⟩
  · have e1 : ((n : Int) != (s.size : Int)) = true := by rw [bne_iff_ne]; omega
    go_enter Try.func4, Try.ntmps4
    go_wp2_with fail
    refine (H9.out _).mono ?_
    rintro e w1 ⟨rfl, hb1⟩
    replace hb1 := Lib.hid hb1
    go_wp2_with fail
    refine (H12.out _).mono ?_
    rintro e w2 ⟨rfl, rfl⟩
    go_wp2_with fail
    refine (H13.out _).mono ?_
    rintro e w3 ⟨rfl, hb3⟩
    replace hb3 := Lib.hid (below_step hb1.out hb3)
    go_wp2_with fail
    refine (H0.out _).mono ?_
    rintro e w5 ⟨rfl, hb5⟩
    replace hb5 := Lib.hid (below_step hb3.out hb5)
    go_wp2
    go_ret
    exact ⟨rfl, hb5.out⟩

theorem reads_yes (s W : ByteArray) (w : World) (h : ¬ (3000 : Int) < s.size) (H0 : Hid AwakeC)
    (H9 : Hid (∀ w, Calls Try.prog 9 #[.string s] w fun e w' => e = .returned (.tuple #[.string W, .int .i64 0]) ∧ Below w.heap.size w w'))
    (H12 : Hid (∀ w, Calls Try.prog 12 #[.string s] w fun e w' => e = .returned (.tuple #[.int .i64 (s.size : Nat), .bool true]) ∧ w = w'))
    (H13 : Hid (∀ w, Calls Try.prog 13 #[.string s] w fun e w' => e = .returned (.tuple #[.string W, .int .i64 (s.size : Nat), .bool true]) ∧ Below w.heap.size w w')) :
    Calls Try.prog 4 #[.string s] w fun e w' => e = .returned (.bool true) ∧ Below w.heap.size w w' := by
  go_enter Try.func4, Try.ntmps4
  go_wp2_with fail
  refine (H9.out _).mono ?_
  rintro e w1 ⟨rfl, hb1⟩
  replace hb1 := Lib.hid hb1
  go_wp2_with fail
  refine (H12.out _).mono ?_
  rintro e w2 ⟨rfl, rfl⟩
  go_wp2_with fail
  refine (H13.out _).mono ?_
  rintro e w3 ⟨rfl, hb3⟩
  replace hb3 := Lib.hid (below_step hb1.out hb3)
  go_wp2_with fail
  refine (H0.out _).mono ?_
  rintro e w5 ⟨rfl, hb5⟩
  replace hb5 := Lib.hid (below_step hb3.out hb5)
  go_wp2
  go_ret
  exact ⟨rfl, hb5.out⟩

theorem begins_long (s t : ByteArray) (w : World) (h : (500 : Int) < s.size ∨ (500 : Int) < t.size) (H0 : Hid AwakeC) : Calls Try.prog 5 #[.string s, .string t] w fun e w' => e = .returned (.bool true) ∧ Below w.heap.size w w' := by
  by_cases h1 : (500 : Int) < s.size
  · go_enter Try.func5, Try.ntmps5
    go_wp2_with fail
    refine (H0.out _).mono ?_
    rintro e w1 ⟨rfl, hb⟩
    go_wp2
    go_ret
    exact ⟨rfl, hb⟩
  · have h2 : (500 : Int) < t.size := by omega
    clear h
    go_enter Try.func5, Try.ntmps5
    go_wp2_with fail
    refine (H0.out _).mono ?_
    rintro e w1 ⟨rfl, hb⟩
    go_wp2
    go_ret
    exact ⟨rfl, hb⟩

theorem joins_long (s t : ByteArray) (w : World) (h : (1000 : Int) < s.size ∨ (1000 : Int) < t.size) (H0 : Hid AwakeC) : Calls Try.prog 6 #[.string s, .string t] w fun e w' => e = .returned (.bool true) ∧ Below w.heap.size w w' := by
  by_cases h1 : (1000 : Int) < s.size
  · go_enter Try.func6, Try.ntmps6
    go_wp2_with fail
    refine (H0.out _).mono ?_
    rintro e w1 ⟨rfl, hb⟩
    go_wp2
    go_ret
    exact ⟨rfl, hb⟩
  · have h2 : (1000 : Int) < t.size := by omega
    clear h
    go_enter Try.func6, Try.ntmps6
    go_wp2_with fail
    refine (H0.out _).mono ?_
    rintro e w1 ⟨rfl, hb⟩
    go_wp2
    go_ret
    exact ⟨rfl, hb⟩

set_option maxHeartbeats 400000 in
theorem begins_core (s t Q : ByteArray) (w : World) (h1 : ¬ (500 : Int) < s.size) (h2 : ¬ (500 : Int) < t.size) (hQ : Q.size ≤ 100000) (H0 : Hid AwakeC)
    (H8 : Hid (∀ w, Calls Try.prog 8 #[.string s] w fun e w' => e = .returned (.string Q) ∧ Below w.heap.size w w'))
    (HP : Hid (∀ i, i < Q.size → ∀ w, Calls Try.prog 12 #[.string (Q.extract 0 i)] w fun e w' => e = .returned (.tuple #[.int .i64 (i : Nat), .bool false]) ∧ w = w'))
    (HM : Hid (∀ w, Calls Try.prog 12 #[.string (Q ++ t)] w fun e w' => e = .returned (.tuple #[.int .i64 (Q.size : Nat), .bool true]) ∧ w = w')) :
    Calls Try.prog 5 #[.string s, .string t] w fun e w' => e = .returned (.bool true) ∧ Below w.heap.size w w' := by
  have hsum : ¬ 9223372036854775807 < Q.size + t.size := by omega
  go_enter Try.func5, Try.ntmps5
  go_wp2_with fail
  refine (H8.out _).mono ?_
  rintro e w1 ⟨rfl, hb1⟩
  replace hb1 := Lib.hid hb1
  go_wp2_with fail
  go_loop [6] (fun i => ∃ k : Nat, k ≤ Q.size ∧ i = .int .i64 k) (fun i => Q.size - (intOf i).toNat)
  case atStart => exact ⟨0, Nat.zero_le _, rfl⟩
  case round =>
    obtain ⟨k, hk, rfl⟩ := hrel
    by_cases hlt : k < Q.size
    · have HPk := Lib.hid (HP.out k hlt)
      go_wp2_with fail
      refine (HPk.out _).mono ?_
      rintro e w2 ⟨rfl, rfl⟩
      go_wp2
      go_round
      case rel => exact ⟨k + 1, hlt, by go_num⟩
      case measure => simp [intOf]; omega
    · have hlt2 : ¬ (k : Int) < Q.size := by omega
      go_wp2_with fail
      refine (HM.out _).mono ?_
      rintro e w2 ⟨rfl, rfl⟩
      go_wp2_with fail
      refine (H0.out _).mono ?_
      rintro e w5 ⟨rfl, hb5⟩
      replace hb5 := Lib.hid (below_step hb1.out hb5)
      go_wp2
      go_ret
      exact ⟨rfl, hb5.out⟩

set_option maxHeartbeats 1000000 in
theorem joins_core (s t A B C T X Y : ByteArray) (w : World) (h1 : ¬ (1000 : Int) < s.size) (h2 : ¬ (1000 : Int) < t.size) (hA : 2 ≤ A.size) (hB2 : 2 ≤ B.size) (hA3 : A.size ≤ 100000) (hB3 : B.size ≤ 100000)
    (m p : Nat) (hm : (A.size : Int) - 1 = m) (hp : ((A.size : Nat) + (B.size : Nat) : Int) - 2 = p) (H0 : Hid AwakeC)
    (hX : A.extract 0 m = X) (hY : B.extract 1 B.size = Y)
    (a1 : ∀ w, (Op.stringOp .add s t).run Try.prog w = .ok (.string T) w) (a2 : ∀ w, (Op.stringOp .add X Y).run Try.prog w = .ok (.string C) w)
    (H8a : Hid (∀ w, Calls Try.prog 8 #[.string s] w fun e w' => e = .returned (.string A) ∧ Below w.heap.size w w'))
    (H8b : Hid (∀ w, Calls Try.prog 8 #[.string t] w fun e w' => e = .returned (.string B) ∧ Below w.heap.size w w'))
    (H8c : Hid (∀ w, Calls Try.prog 8 #[.string T] w fun e w' => e = .returned (.string C) ∧ Below w.heap.size w w'))
    (H11a : Hid (∀ w, Calls Try.prog 11 #[.string s] w fun e w' => e = .returned (.int .i64 (A.size : Nat)) ∧ Below w.heap.size w w'))
    (H11b : Hid (∀ w, Calls Try.prog 11 #[.string t] w fun e w' => e = .returned (.int .i64 (B.size : Nat)) ∧ Below w.heap.size w w'))
    (H11c : Hid (∀ w, Calls Try.prog 11 #[.string T] w fun e w' => e = .returned (.int .i64 (p : Nat)) ∧ Below w.heap.size w w')) :
    Calls Try.prog 6 #[.string s, .string t] w fun e w' => e = .returned (.bool true) ∧ Below w.heap.size w w' := by
  have hB1 : (1 : Int) ≤ B.size := by omega
  have hA4 : ¬ (A.size : Int) < 2 := by omega
  have hB4 : ¬ (B.size : Int) < 2 := by omega
  have hmA : m ≤ A.size := by omega
  have hmA' : (m : Int) ≤ A.size := by omega
  have hw1 : IntKind.i64.wrap (m : Int) = m := by rw [IntKind.wrap_i64]; omega
  have hw2 : IntKind.i64.wrap ((A.size : Int) + B.size) = (A.size : Int) + B.size := by rw [IntKind.wrap_i64]; omega
  have hw3 : IntKind.i64.wrap (p : Int) = p := by rw [IntKind.wrap_i64]; omega
  go_enter Try.func6, Try.ntmps6
  go_wp2_with fail
  refine (H8a.out _).mono ?_
  rintro e w1 ⟨rfl, hb1⟩
  replace hb1 := Lib.hid hb1
  go_wp2_with fail
  refine (H8b.out _).mono ?_
  rintro e W ⟨rfl, hb2⟩
  replace hb2 := Lib.hid (below_step hb1.out hb2)
  go_wp2_with fail
  have c0 : ∀ D os, Calls Try.prog 8 #[.string T] (grow (redrawn W D) os) fun e w'' => e = .returned (.string C) ∧ ∃ p : Regrown, w'' = grow (redrawn W p.d) p.os := fun D os => Calls.regrown_of (H8c.out _)
  have c1 : ∀ D os, Calls Try.prog 11 #[.string T] (grow (redrawn W D) os) fun e w'' => e = .returned (.int .i64 (p : Nat)) ∧ ∃ p : Regrown, w'' = grow (redrawn W p.d) p.os := fun D os => Calls.regrown_of (H11c.out _)
  have c2 : ∀ D os, Calls Try.prog 11 #[.string s] (grow (redrawn W D) os) fun e w'' => e = .returned (.int .i64 (A.size : Nat)) ∧ ∃ p : Regrown, w'' = grow (redrawn W p.d) p.os := fun D os => Calls.regrown_of (H11a.out _)
  have c3 : ∀ D os, Calls Try.prog 11 #[.string t] (grow (redrawn W D) os) fun e w'' => e = .returned (.int .i64 (B.size : Nat)) ∧ ∃ p : Regrown, w'' = grow (redrawn W p.d) p.os := fun D os => Calls.regrown_of (H11b.out _)
  have c4 : ∀ D os, Calls Try.prog 7 #[] (grow (redrawn W D) os) fun e w'' => e = .returned (.bool true) ∧ ∃ p : Regrown, w'' = grow (redrawn W p.d) p.os := fun D os => Calls.regrown_of (H0.out _)
  refine wp_region_quiet_below (by kernel_rfl) (by kernel_rfl) ?_
  repeat (quiet_step (first | with_reducible exact c0 _ _ | with_reducible exact c1 _ _ | with_reducible exact c2 _ _ | with_reducible exact c3 _ _ | with_reducible exact c4 _ _))
  refine wpQuiet_nil ?_
  rintro _ ⟨⟨dq, osq⟩, rfl⟩
  have hb := below_regrown W dq osq
  clear c0 c1 c2 c3 c4
  generalize grow (redrawn W dq) osq = w' at *
  go_wp2
  go_ret
  exact ⟨rfl, below_step hb2.out hb⟩

end Go.Proofs.Ytcjliachoahndaa
