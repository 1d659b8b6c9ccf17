/-
  '==' between values; the document's SameValues and Same over rows that are the same. Conditions: at most 200000 of them.
-/
import Derived.Test.YtfeeikajekemlaaPl
import Derived.Laws.StructEq
namespace Go.Proofs.Ytfeeikajekemlaa
open Go.RowKit Go.Sort
set_option linter.unusedVariables false
set_option linter.unusedSimpArgs false
set_option maxRecDepth 100000

theorem equalIn_vl (v : Vl) (w : World) : (Op.equalIn 10000 35 (vlV v) (vlV v)).run Try.prog w = .ok true w := by
  have u2 := Try.underlying2
  have a2 := Try.isAgg2
  have z2 := Try.sizeOf2
  have u5 := Try.underlying5
  have a5 := Try.isAgg5
  have z5 := Try.sizeOf5
  have hS : Try.prog.underlying 35 = some (.struct (Try.prog.fieldsOf 35)) := by kernel_rfl
  have hp : Try.prog.stoodInHeld 35 = false := by kernel_rfl
  rw [show (10000 : Nat) = 9999 + 1 from rfl, run_equalIn_agg w 9999 35 _ _ hS hp]
  simp only [Program.fieldsOf, Try.underlying35, Try.underlying34]
  go_simp
theorem eql_vl (v : Vl) (w : World) : (binOp .eql 35 (vlV v) (vlV v)).run Try.prog w = .ok (.bool true) w := by
  rw [run_eql_struct, equalIn_vl]; rfl
theorem neq_vl (v : Vl) (w : World) : (binOp .neq 35 (vlV v) (vlV v)).run Try.prog w = .ok (.bool false) w := by
  rw [run_neq_struct, equalIn_vl]; rfl
theorem guard_vl (op : BinOp) (x y : Operand) (v u : Vl) (w : World) : (eqGuard op 35 x y (vlV v) (vlV u)).run Try.prog w = .ok () w :=
  run_eqGuard_agg w op 35 x y _ _ (by kernel_rfl)

set_option maxHeartbeats 2000000 in
theorem same_values (a b : Option Addr) (n c d : Nat) (l : List Vl) (w : World) (hl : Hid (l.length = n)) (hn : n ≤ 1000000) (P Q : Nat → Prop) (ha : Hid (RV P w a l)) (hb : Hid (RV Q w b l)) :
    Calls Try.prog 37 #[.slice a n c, .slice b n d] w fun e w' => e = .returned (.bool true) ∧ Below w.heap.size w w' := by
  go_enter Try.func37, Try.ntmps37
  go_wp2_with fail
  go_loopw [13] (fun j wr => ∃ q : Nat, q ≤ n ∧ j = .int .i64 q ∧ Below w.heap.size w wr) (fun j _ => n - (intOf j).toNat)
  case atStart => exact ⟨0, Nat.zero_le _, rfl, Below.refl _ _⟩
  case round =>
    obtain ⟨q, hq, rfl, hbl⟩ := hrel
    by_cases hlt : q < n
    · obtain ⟨ga, oa, rfl, _, hat⟩ := (ha.out.kp (kp_below hbl)) q (by rw [hl.out]; exact hlt)
      obtain ⟨gb, obb, rfl, _, hbt⟩ := (hb.out.kp (kp_below hbl)) q (by rw [hl.out]; exact hlt)
      obtain ⟨⟨ek, en, er, ei⟩, hE⟩ : ∃ x, vl l q = x := ⟨_, rfl⟩
      rw [hE] at hat hbt
      obtain ⟨x0, x1, x2, x3⟩ := hat
      obtain ⟨y0, y1, y2, y3⟩ := hbt
      simp only at x0 x1 x2 x3 y0 y1 y2 y3
      have hne := neq_vl ⟨ek, en, er, ei⟩
      have hgd := guard_vl .neq (.tmp 19) (.tmp 23) ⟨ek, en, er, ei⟩ ⟨ek, en, er, ei⟩
      simp only [vlV] at hne hgd
      replace hbl := Lib.hid hbl
      clear hE
      go_wp2_with fail
      go_quiet (fail)
      go_wp2_with fail
      go_roundw
      case rel => exact ⟨q + 1, hlt, by go_num, hbl.out.trans ((below_drewN _ _).mono hbl.out.size)⟩
      case measure => simp [intOf]; omega
    · obtain rfl : q = n := by omega
      replace hbl := Lib.hid hbl
      go_wp2_with fail
      go_ret
      exact ⟨rfl, hbl.out⟩

end Go.Proofs.Ytfeeikajekemlaa
