/-
  '==' between nodes and between faults; contracts of the document's Same and Equal (layer 5). Conditions: rows of at most 1000000 nodes.
-/
import Derived.Test.YtbknflaooemigaaRef
import Derived.Laws.StructEq
import Derived.Lib.QuietBelow
namespace Go.Proofs.Ytbknflaooemigaa
open Go.RowKit Go.Sort
set_option linter.unusedVariables false

def eqN (x y : Nd) : Bool := (x.kind == y.kind) && ((x.size == y.size) && ((x.num == y.num) && (x.text.data.toList == y.text.data.toList)))
def sameB (l m : List Nd) : Bool := decide (l.length = m.length) && (List.range l.length).all fun i => eqN (nd l i) (nd m i)

theorem equalIn_self (k : Nat) (ln cl s num : Int) (tx : ByteArray) (w : World) : (Op.equalIn 10000 32 (.agg #[.int .u8 (k : Nat), .int .i64 ln, .int .i64 cl, .int .i64 s, .int .i64 num, .string tx]) (.agg #[.int .u8 (k : Nat), .int .i64 ln, .int .i64 cl, .int .i64 s, .int .i64 num, .string tx])).run Try.prog w = .ok true w := by
  have u2 := Try.underlying2
  have a2 := Try.isAgg2
  have z2 := Try.sizeOf2
  have u3 := Try.underlying3
  have a3 := Try.isAgg3
  have z3 := Try.sizeOf3
  have u5 := Try.underlying5
  have a5 := Try.isAgg5
  have z5 := Try.sizeOf5
  have u9 := Try.underlying9
  have a9 := Try.isAgg9
  have z9 := Try.sizeOf9
  have hS : Try.prog.underlying 32 = some (.struct (Try.prog.fieldsOf 32)) := by kernel_rfl
  have hp : Try.prog.stoodInHeld 32 = false := by kernel_rfl
  rw [show (10000 : Nat) = 9999 + 1 from rfl, run_equalIn_agg w 9999 32 _ _ hS hp]
  simp only [Program.fieldsOf, Try.underlying32]
  go_simp

theorem guard_nd (op : BinOp) (x y : Operand) (A B : Array Value) (w : World) : (eqGuard op 32 x y (.agg A) (.agg B)).run Try.prog w = .ok () w :=
  run_eqGuard_agg w op 32 x y _ _ (by kernel_rfl)

theorem neq_self (k : Nat) (ln cl s num : Int) (tx : ByteArray) (w : World) : (binOp .neq 32 (.agg #[.int .u8 (k : Nat), .int .i64 ln, .int .i64 cl, .int .i64 s, .int .i64 num, .string tx]) (.agg #[.int .u8 (k : Nat), .int .i64 ln, .int .i64 cl, .int .i64 s, .int .i64 num, .string tx])).run Try.prog w = .ok (.bool false) w := by
  rw [run_neq_struct, equalIn_self]; rfl
theorem eql_self (k : Nat) (ln cl s num : Int) (tx : ByteArray) (w : World) : (binOp .eql 32 (.agg #[.int .u8 (k : Nat), .int .i64 ln, .int .i64 cl, .int .i64 s, .int .i64 num, .string tx]) (.agg #[.int .u8 (k : Nat), .int .i64 ln, .int .i64 cl, .int .i64 s, .int .i64 num, .string tx])).run Try.prog w = .ok (.bool true) w := by
  rw [run_eql_struct, equalIn_self]; rfl
theorem equalIn_fau (a b c d e f : Int) (w : World) : (Op.equalIn 10000 26 (.agg #[.int .i64 a, .int .i64 b, .int .i64 c]) (.agg #[.int .i64 d, .int .i64 e, .int .i64 f])).run Try.prog w = .ok ((a == d) && (b == e) && (c == f)) w := by
  have u3 := Try.underlying3
  have a3 := Try.isAgg3
  have z3 := Try.sizeOf3
  have u24 := Try.underlying24
  have a24 := Try.isAgg24
  have z24 := Try.sizeOf24
  have hS : Try.prog.underlying 26 = some (.struct (Try.prog.fieldsOf 26)) := by kernel_rfl
  have hp : Try.prog.stoodInHeld 26 = false := by kernel_rfl
  rw [show (10000 : Nat) = 9999 + 1 from rfl, run_equalIn_agg w 9999 26 _ _ hS hp]
  simp only [Program.fieldsOf, Try.underlying26]
  go_simp
  by_cases h1 : a = d <;> by_cases h2 : b = e <;> by_cases h3 : c = f <;> simp [h1, h2, h3]

theorem eql_fau (a b c d e f : Int) (t : Bool) (h : ((a == d) && (b == e) && (c == f)) = t) (w : World) : (binOp .eql 26 (.agg #[.int .i64 a, .int .i64 b, .int .i64 c]) (.agg #[.int .i64 d, .int .i64 e, .int .i64 f])).run Try.prog w = .ok (.bool t) w := by
  rw [run_eql_struct, equalIn_fau, h]; rfl
theorem guard_fau (op : BinOp) (x y : Operand) (A B : Array Value) (w : World) : (eqGuard op 26 x y (.agg A) (.agg B)).run Try.prog w = .ok () w :=
  run_eqGuard_agg w op 26 x y _ _ (by kernel_rfl)

theorem same_len {l m : List Nd} (h : ¬ l.length = m.length) : sameB l m = false := by rw [sameB, decide_eq_false h, Bool.false_and]
theorem same_bad {l m : List Nd} {i : Nat} (hi : i < l.length) (h : eqN (nd l i) (nd m i) = false) : sameB l m = false := by
  rw [sameB, Bool.and_eq_false_iff]
  right
  rw [List.all_eq_false]
  exact ⟨i, List.mem_range.2 hi, by rw [h]; simp⟩
theorem same_good {l m : List Nd} (h : l.length = m.length) (ha : ∀ i, i < l.length → eqN (nd l i) (nd m i) = true) : sameB l m = true := by
  rw [sameB, decide_eq_true h, Bool.true_and, List.all_eq_true]
  intro i hi
  exact ha i (List.mem_range.1 hi)


theorem rsame_any (a : Option Addr) (n cap : Nat) (l : List Nd) (a' : Option Addr) (n' cap' : Nat) (m : List Nd) (w : World) (hn : Hid (l.length = n)) (hn' : Hid (m.length = n')) (hl : n ≤ 1000000) (hl' : n' ≤ 1000000) (hr : Hid (NRow w a l)) (hr' : Hid (NRow w a' m)) (p : Bool) (hp : Hid (sameB l m = p)) :
    Calls Try.prog 7 #[.slice a n cap, .slice a' n' cap'] w fun e w' => e = .returned (.bool p) ∧ Below w.heap.size w w' := by
  by_cases hnn : n = n'
  · subst hnn
    have e0 : ((n : Int) != (n : Int)) = false := by simp
    go_enter Try.func7, Try.ntmps7
    go_wp2_with fail
    go_loopw [13] (fun j wr => ∃ k : Nat, k ≤ n ∧ j = .int .i64 k ∧ (∀ i, i < k → eqN (nd l i) (nd m i) = true) ∧ Below w.heap.size w wr) (fun j _ => n - (intOf j).toNat)
    case atStart => exact ⟨0, Nat.zero_le _, rfl, fun i hi => absurd hi (by omega), Below.refl _ _⟩
    case round =>
      obtain ⟨k, hk, rfl, hall, hbel⟩ := hrel
      replace hall := Lib.hid hall
      by_cases hlt : k < n
      · obtain ⟨b, o, rfl, hat⟩ := (hr.out.carry hbel) k (by rw [hn.out]; exact hlt)
        obtain ⟨b', o', rfl, hat'⟩ := (hr'.out.carry hbel) k (by rw [hn'.out]; exact hlt)
        obtain ⟨c0, c1, c2, c3, c4, c5⟩ := hat
        obtain ⟨d0, d1, d2, d3, d4, d5⟩ := hat'
        obtain ⟨kd, ln, cl, s, num, tx, hN⟩ : ∃ kd ln cl s num tx, nd l k = ⟨kd, ln, cl, s, num, tx⟩ := ⟨_, _, _, _, _, _, rfl⟩
        obtain ⟨kd', ln', cl', s', num', tx', hN'⟩ : ∃ kd ln cl s num tx, nd m k = ⟨kd, ln, cl, s, num, tx⟩ := ⟨_, _, _, _, _, _, rfl⟩
        rw [hN] at c0 c1 c2 c3 c4 c5
        rw [hN'] at d0 d1 d2 d3 d4 d5
        simp only at c0 c1 c2 c3 c4 c5 d0 d1 d2 d3 d4 d5
        have hE : eqN (nd l k) (nd m k) = ((kd == kd') && ((s == s') && ((num == num') && (tx.data.toList == tx'.data.toList)))) := by rw [hN, hN']; rfl
        have hbad : Hid (eqN (nd l k) (nd m k) = false → p = false) := Lib.hid fun h => by rw [← hp.out]; exact same_bad (by rw [hn.out]; exact hlt) h
        have hgood : Hid (eqN (nd l k) (nd m k) = true → ∀ i, i < k + 1 → eqN (nd l i) (nd m i) = true) := Lib.hid fun h i hi => by
          by_cases e : i = k
          · subst e; exact h
          · exact hall.out i (by omega)
        replace hE := Lib.hid hE
        replace hbel := Lib.hid hbel
        clear hN hN' c1 c2 d1 d2
        by_cases h1 : kd = kd'
        · have f1 : ((kd : Int) != (kd' : Int)) = false := by rw [h1]; simp
          by_cases h2 : s = s'
          · have f2 : (s != s') = false := by rw [h2]; simp
            by_cases h3 : num = num'
            · have f3 : (num != num') = false := by rw [h3]; simp
              by_cases h4 : tx.data.toList = tx'.data.toList
              · have f4 : (tx.toList != tx'.toList) = false := by rw [ByteArray.toList_eq, ByteArray.toList_eq, h4]; simp
                have f5 : (tx.toList == tx'.toList) = true := by rw [ByteArray.toList_eq, ByteArray.toList_eq, h4]; simp
                have HA := Lib.hid (hgood.out (by rw [hE.out, h1, h2, h3, h4]; simp))
                clear h1 h2 h3 h4
                go_wp2_with fail
                go_quiet (fail)
                have hb5 := Lib.hid (below_step hbel.out (below_drewN _ nq))
                go_wp2_with fail
                go_roundw
                case rel => exact ⟨k + 1, hlt, by go_num, HA.out, hb5.out⟩
                case measure => simp [intOf]; omega
              · have f4 : (tx.toList != tx'.toList) = true := by rw [ByteArray.toList_eq, ByteArray.toList_eq]; simpa using h4
                have f5 : (tx.toList == tx'.toList) = false := by rw [ByteArray.toList_eq, ByteArray.toList_eq]; simpa using h4
                have hp' : p = false := hbad.out (by rw [hE.out, show (tx.data.toList == tx'.data.toList) = false from beq_eq_false_iff_ne.2 h4]; simp)
                subst hp'
                clear h1 h2 h3 h4
                go_wp2_with fail
                go_quiet (fail)
                have hb5 := Lib.hid (below_step hbel.out (below_drewN _ nq))
                go_wp2_with fail
                go_ret
                exact ⟨rfl, hb5.out⟩
            · have f3 : (num != num') = true := by rw [bne_iff_ne]; exact h3
              have hp' : p = false := hbad.out (by rw [hE.out]; simp [h3])
              subst hp'
              clear h1 h2 h3
              go_wp2_with fail
              go_quiet (fail)
              have hb5 := Lib.hid (below_step hbel.out (below_drewN _ nq))
              go_wp2_with fail
              go_ret
              exact ⟨rfl, hb5.out⟩
          · have f2 : (s != s') = true := by rw [bne_iff_ne]; exact h2
            have hp' : p = false := hbad.out (by rw [hE.out]; simp [h2])
            subst hp'
            clear h1 h2
            go_wp2_with fail
            go_quiet (fail)
            have hb5 := Lib.hid (below_step hbel.out (below_drewN _ nq))
            go_wp2_with fail
            go_ret
            exact ⟨rfl, hb5.out⟩
        · have f1 : ((kd : Int) != (kd' : Int)) = true := by rw [bne_iff_ne]; omega
          have hp' : p = false := hbad.out (by rw [hE.out]; simp [h1])
          subst hp'
          clear h1
          go_wp2_with fail
          go_quiet (fail)
          have hb5 := Lib.hid (below_step hbel.out (below_drewN _ nq))
          go_wp2_with fail
          go_ret
          exact ⟨rfl, hb5.out⟩
      · have hp' : p = true := by rw [← hp.out]; exact same_good (by rw [hn.out, hn'.out]) fun i hi => hall.out i (by rw [hn.out] at hi; omega)
        subst hp'
        replace hbel := Lib.hid hbel
        go_wp2_with fail
        go_ret
        exact ⟨rfl, hbel.out⟩
  · have hp' : p = false := by rw [← hp.out]; exact same_len (by rw [hn.out, hn'.out]; exact hnn)
    subst hp'
    have e0 : ((n : Int) != (n' : Int)) = true := by rw [bne_iff_ne]; omega
    go_enter Try.func7, Try.ntmps7
    go_wp2_with fail
    go_ret
    exact ⟨rfl, Below.refl _ _⟩


end Go.Proofs.Ytbknflaooemigaa
