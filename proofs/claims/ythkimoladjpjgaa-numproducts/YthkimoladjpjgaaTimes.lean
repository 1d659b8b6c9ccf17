/-
  Contract of the document's product of two rows of eight digits (hindcastref01.Times). Conditions: each digit is from 0 to 255.
-/
import Derived.Test.YthkimoladjpjgaaTimesB
namespace Go.Proofs.Ythkimoladjpjgaa
open Go.RowKit

def TInv (w : World) (y a0 a1 a2 a3 a4 a5 a6 a7 b0 b1 b2 b3 b4 b5 b6 b7 : Int) (k : Nat) (wr : World) : Prop :=
  ∃ o0 o1 o2 o3 o4 o5 o6 o7 : Int, Bd o0 o1 o2 o3 o4 o5 o6 o7 ∧ Sum8 y a0 a1 a2 a3 a4 a5 a6 a7 k o0 o1 o2 o3 o4 o5 o6 o7 ∧ TCells w a0 a1 a2 a3 a4 a5 a6 a7 b0 b1 b2 b3 b4 b5 b6 b7 o0 o1 o2 o3 o4 o5 o6 o7 wr
def TRel (w : World) (y a0 a1 a2 a3 a4 a5 a6 a7 b0 b1 b2 b3 b4 b5 b6 b7 : Int) (i : Value) (wr : World) : Prop :=
  (i = .int .i64 0 ∧ TInv w y a0 a1 a2 a3 a4 a5 a6 a7 b0 b1 b2 b3 b4 b5 b6 b7 0 wr) ∨ (i = .int .i64 1 ∧ TInv w y a0 a1 a2 a3 a4 a5 a6 a7 b0 b1 b2 b3 b4 b5 b6 b7 1 wr) ∨ (i = .int .i64 2 ∧ TInv w y a0 a1 a2 a3 a4 a5 a6 a7 b0 b1 b2 b3 b4 b5 b6 b7 2 wr) ∨ (i = .int .i64 3 ∧ TInv w y a0 a1 a2 a3 a4 a5 a6 a7 b0 b1 b2 b3 b4 b5 b6 b7 3 wr) ∨ (i = .int .i64 4 ∧ TInv w y a0 a1 a2 a3 a4 a5 a6 a7 b0 b1 b2 b3 b4 b5 b6 b7 4 wr) ∨ (i = .int .i64 5 ∧ TInv w y a0 a1 a2 a3 a4 a5 a6 a7 b0 b1 b2 b3 b4 b5 b6 b7 5 wr) ∨ (i = .int .i64 6 ∧ TInv w y a0 a1 a2 a3 a4 a5 a6 a7 b0 b1 b2 b3 b4 b5 b6 b7 6 wr) ∨ (i = .int .i64 7 ∧ TInv w y a0 a1 a2 a3 a4 a5 a6 a7 b0 b1 b2 b3 b4 b5 b6 b7 7 wr) ∨ (i = .int .i64 8 ∧ TInv w y a0 a1 a2 a3 a4 a5 a6 a7 b0 b1 b2 b3 b4 b5 b6 b7 8 wr)

set_option maxHeartbeats 4000000 in
theorem times_any (x y a0 a1 a2 a3 a4 a5 a6 a7 b0 b1 b2 b3 b4 b5 b6 b7 : Int) (w : World) (ha : Digs x a0 a1 a2 a3 a4 a5 a6 a7) (hb : Digs y b0 b1 b2 b3 b4 b5 b6 b7) :
    Calls Try.prog 21 #[dv a0 a1 a2 a3 a4 a5 a6 a7, dv b0 b1 b2 b3 b4 b5 b6 b7] w (RetD (x * y % 18446744073709551616) w) := by
  unfold Digs at ha hb
  obtain ⟨ah0, ah1, ah2, ah3, ah4, ah5, ah6, ah7, hax⟩ := ha
  obtain ⟨bh0, bh1, bh2, bh3, bh4, bh5, bh6, bh7, hbx⟩ := hb
  have A0 := Lib.hid ah0
  have A1 := Lib.hid ah1
  have A2 := Lib.hid ah2
  have A3 := Lib.hid ah3
  have A4 := Lib.hid ah4
  have A5 := Lib.hid ah5
  have A6 := Lib.hid ah6
  have A7 := Lib.hid ah7
  clear ah0 ah1 ah2 ah3 ah4 ah5 ah6 ah7
  have B0 := Lib.hid bh0
  have B1 := Lib.hid bh1
  have B2 := Lib.hid bh2
  have B3 := Lib.hid bh3
  have B4 := Lib.hid bh4
  have B5 := Lib.hid bh5
  have B6 := Lib.hid bh6
  have B7 := Lib.hid bh7
  clear bh0 bh1 bh2 bh3 bh4 bh5 bh6 bh7
  have Q0 := Lib.hid (row_mul a0 y b0 b1 b2 b3 b4 b5 b6 b7 hbx)
  have Q1 := Lib.hid (row_mul a1 y b0 b1 b2 b3 b4 b5 b6 b7 hbx)
  have Q2 := Lib.hid (row_mul a2 y b0 b1 b2 b3 b4 b5 b6 b7 hbx)
  have Q3 := Lib.hid (row_mul a3 y b0 b1 b2 b3 b4 b5 b6 b7 hbx)
  have Q4 := Lib.hid (row_mul a4 y b0 b1 b2 b3 b4 b5 b6 b7 hbx)
  have Q5 := Lib.hid (row_mul a5 y b0 b1 b2 b3 b4 b5 b6 b7 hbx)
  have Q6 := Lib.hid (row_mul a6 y b0 b1 b2 b3 b4 b5 b6 b7 hbx)
  have Q7 := Lib.hid (row_mul a7 y b0 b1 b2 b3 b4 b5 b6 b7 hbx)
  have QA := Lib.hid (all_mul x y a0 a1 a2 a3 a4 a5 a6 a7 hax)
  clear hax hbx
  obtain ⟨z, hz⟩ : ∃ z, x * y % 18446744073709551616 = z := ⟨_, rfl⟩
  rw [hz]
  have HZ := Lib.hid hz
  clear hz
  go_enter Try.func21, Try.ntmps21
  go_wp2
  go_loopw [6] (fun i wr => TRel w y a0 a1 a2 a3 a4 a5 a6 a7 b0 b1 b2 b3 b4 b5 b6 b7 i wr) (fun i _ => 8 - (intOf i).toNat)
  case atStart =>
    refine Or.inl ⟨rfl, 0, 0, 0, 0, 0, 0, 0, 0, ⟨by omega, by omega, by omega, by omega, by omega, by omega, by omega, by omega⟩, sum_zero y a0 a1 a2 a3 a4 a5 a6 a7, ?_⟩
    constructor
    all_goals first | (simp; done) | (simp [go_sem]; done) | (intro q; simp [go_sem]; done) | (with_reducible go_grown; done)
  case round =>
    rcases hrel with ⟨rfl, h⟩ | ⟨rfl, h⟩ | ⟨rfl, h⟩ | ⟨rfl, h⟩ | ⟨rfl, h⟩ | ⟨rfl, h⟩ | ⟨rfl, h⟩ | ⟨rfl, h⟩ | ⟨rfl, h⟩
    · obtain ⟨o0, o1, o2, o3, o4, o5, o6, o7, hbd, hsum, hcl⟩ := h
      have HB := Lib.hid hbd
      have HS := Lib.hid hsum
      have HC := Lib.hid hcl
      have ka := hcl.ca0
      have kb0 := hcl.cb0
      have kb1 := hcl.cb1
      have kb2 := hcl.cb2
      have kb3 := hcl.cb3
      have kb4 := hcl.cb4
      have kb5 := hcl.cb5
      have kb6 := hcl.cb6
      have kb7 := hcl.cb7
      have ko0 := hcl.co0
      have ko1 := hcl.co1
      have ko2 := hcl.co2
      have ko3 := hcl.co3
      have ko4 := hcl.co4
      have ko5 := hcl.co5
      have ko6 := hcl.co6
      have ko7 := hcl.co7
      have kf := hcl.fo
      obtain ⟨ob0, ob1, ob2, ob3, ob4, ob5, ob6, ob7⟩ := hbd
      clear hsum hcl
      obtain ⟨p0, hp0, P0, pb0⟩ := prod_ex A0 B0
      obtain ⟨n0, c0, ho0, hc0, E0, N0, C0⟩ := step_a ob0 pb0
      obtain ⟨p1, hp1, P1, pb1⟩ := prod_ex A0 B1
      have cb0 := C0.out
      obtain ⟨n1, c1, ho1, hc1, E1, N1, C1⟩ := step_ab ob1 pb1 cb0
      obtain ⟨p2, hp2, P2, pb2⟩ := prod_ex A0 B2
      have cb1 := C1.out
      obtain ⟨n2, c2, ho2, hc2, E2, N2, C2⟩ := step_ab ob2 pb2 cb1
      obtain ⟨p3, hp3, P3, pb3⟩ := prod_ex A0 B3
      have cb2 := C2.out
      obtain ⟨n3, c3, ho3, hc3, E3, N3, C3⟩ := step_ab ob3 pb3 cb2
      obtain ⟨p4, hp4, P4, pb4⟩ := prod_ex A0 B4
      have cb3 := C3.out
      obtain ⟨n4, c4, ho4, hc4, E4, N4, C4⟩ := step_ab ob4 pb4 cb3
      obtain ⟨p5, hp5, P5, pb5⟩ := prod_ex A0 B5
      have cb4 := C4.out
      obtain ⟨n5, c5, ho5, hc5, E5, N5, C5⟩ := step_ab ob5 pb5 cb4
      obtain ⟨p6, hp6, P6, pb6⟩ := prod_ex A0 B6
      have cb5 := C5.out
      obtain ⟨n6, c6, ho6, hc6, E6, N6, C6⟩ := step_ab ob6 pb6 cb5
      obtain ⟨p7, hp7, P7, pb7⟩ := prod_ex A0 B7
      have cb6 := C6.out
      obtain ⟨n7, c7, ho7, hc7, E7, N7, C7⟩ := step_ab ob7 pb7 cb6
      obtain ⟨pl0, pu0⟩ := pb0
      obtain ⟨ol0, ou0⟩ := ob0
      obtain ⟨cl0, cu0⟩ := cb0
      obtain ⟨pl1, pu1⟩ := pb1
      obtain ⟨ol1, ou1⟩ := ob1
      obtain ⟨cl1, cu1⟩ := cb1
      obtain ⟨pl2, pu2⟩ := pb2
      obtain ⟨ol2, ou2⟩ := ob2
      obtain ⟨cl2, cu2⟩ := cb2
      obtain ⟨pl3, pu3⟩ := pb3
      obtain ⟨ol3, ou3⟩ := ob3
      obtain ⟨cl3, cu3⟩ := cb3
      obtain ⟨pl4, pu4⟩ := pb4
      obtain ⟨ol4, ou4⟩ := ob4
      obtain ⟨cl4, cu4⟩ := cb4
      obtain ⟨pl5, pu5⟩ := pb5
      obtain ⟨ol5, ou5⟩ := ob5
      obtain ⟨cl5, cu5⟩ := cb5
      obtain ⟨pl6, pu6⟩ := pb6
      obtain ⟨ol6, ou6⟩ := ob6
      obtain ⟨cl6, cu6⟩ := cb6
      obtain ⟨pl7, pu7⟩ := pb7
      obtain ⟨ol7, ou7⟩ := ob7
      go_wp2
      refine wp_loop_rounds 9 ?_
      iterate 8
        rw [rounds_succ]
        go_wp2
        go_quiet (fail)
        go_wp2
      rw [rounds_succ]
      go_wp2
      go_roundw
      case rel =>
        refine Or.inr (Or.inl ⟨rfl, n0, n1, n2, n3, n4, n5, n6, n7, ⟨N0.out, N1.out, N2.out, N3.out, N4.out, N5.out, N6.out, N7.out⟩, sum_row0 y a0 a1 a2 a3 a4 a5 a6 a7 b0 b1 b2 b3 b4 b5 b6 b7 o0 o1 o2 o3 o4 o5 o6 o7 n0 n1 n2 n3 n4 n5 n6 n7 c0 c1 c2 c3 c4 c5 c6 c7 p0 p1 p2 p3 p4 p5 p6 p7 HS.out E0.out E1.out E2.out E3.out E4.out E5.out E6.out E7.out P0.out P1.out P2.out P3.out P4.out P5.out P6.out P7.out Q0.out, ?_⟩)
        repeat (with_reducible first | exact HC.out | refine TCells.drew ?_ | refine TCells.drewN ?_ _ | refine TCells.set0 (o0 := o0) ?_ _ | refine TCells.set1 (o1 := o1) ?_ _ | refine TCells.set2 (o2 := o2) ?_ _ | refine TCells.set3 (o3 := o3) ?_ _ | refine TCells.set4 (o4 := o4) ?_ _ | refine TCells.set5 (o5 := o5) ?_ _ | refine TCells.set6 (o6 := o6) ?_ _ | refine TCells.set7 (o7 := o7) ?_ _)
      case measure => simp [intOf]
    · obtain ⟨o0, o1, o2, o3, o4, o5, o6, o7, hbd, hsum, hcl⟩ := h
      have HB := Lib.hid hbd
      have HS := Lib.hid hsum
      have HC := Lib.hid hcl
      have ka := hcl.ca1
      have kb0 := hcl.cb0
      have kb1 := hcl.cb1
      have kb2 := hcl.cb2
      have kb3 := hcl.cb3
      have kb4 := hcl.cb4
      have kb5 := hcl.cb5
      have kb6 := hcl.cb6
      have ko1 := hcl.co1
      have ko2 := hcl.co2
      have ko3 := hcl.co3
      have ko4 := hcl.co4
      have ko5 := hcl.co5
      have ko6 := hcl.co6
      have ko7 := hcl.co7
      have kf := hcl.fo
      obtain ⟨ob0, ob1, ob2, ob3, ob4, ob5, ob6, ob7⟩ := hbd
      clear hsum hcl ob0
      obtain ⟨p0, hp0, P0, pb0⟩ := prod_ex A1 B0
      obtain ⟨n1, c0, ho0, hc0, E0, N1, C0⟩ := step_a ob1 pb0
      obtain ⟨p1, hp1, P1, pb1⟩ := prod_ex A1 B1
      have cb0 := C0.out
      obtain ⟨n2, c1, ho1, hc1, E1, N2, C1⟩ := step_ab ob2 pb1 cb0
      obtain ⟨p2, hp2, P2, pb2⟩ := prod_ex A1 B2
      have cb1 := C1.out
      obtain ⟨n3, c2, ho2, hc2, E2, N3, C2⟩ := step_ab ob3 pb2 cb1
      obtain ⟨p3, hp3, P3, pb3⟩ := prod_ex A1 B3
      have cb2 := C2.out
      obtain ⟨n4, c3, ho3, hc3, E3, N4, C3⟩ := step_ab ob4 pb3 cb2
      obtain ⟨p4, hp4, P4, pb4⟩ := prod_ex A1 B4
      have cb3 := C3.out
      obtain ⟨n5, c4, ho4, hc4, E4, N5, C4⟩ := step_ab ob5 pb4 cb3
      obtain ⟨p5, hp5, P5, pb5⟩ := prod_ex A1 B5
      have cb4 := C4.out
      obtain ⟨n6, c5, ho5, hc5, E5, N6, C5⟩ := step_ab ob6 pb5 cb4
      obtain ⟨p6, hp6, P6, pb6⟩ := prod_ex A1 B6
      have cb5 := C5.out
      obtain ⟨n7, c6, ho6, hc6, E6, N7, C6⟩ := step_ab ob7 pb6 cb5
      obtain ⟨pl0, pu0⟩ := pb0
      obtain ⟨ol0, ou0⟩ := ob1
      obtain ⟨cl0, cu0⟩ := cb0
      obtain ⟨pl1, pu1⟩ := pb1
      obtain ⟨ol1, ou1⟩ := ob2
      obtain ⟨cl1, cu1⟩ := cb1
      obtain ⟨pl2, pu2⟩ := pb2
      obtain ⟨ol2, ou2⟩ := ob3
      obtain ⟨cl2, cu2⟩ := cb2
      obtain ⟨pl3, pu3⟩ := pb3
      obtain ⟨ol3, ou3⟩ := ob4
      obtain ⟨cl3, cu3⟩ := cb3
      obtain ⟨pl4, pu4⟩ := pb4
      obtain ⟨ol4, ou4⟩ := ob5
      obtain ⟨cl4, cu4⟩ := cb4
      obtain ⟨pl5, pu5⟩ := pb5
      obtain ⟨ol5, ou5⟩ := ob6
      obtain ⟨cl5, cu5⟩ := cb5
      obtain ⟨pl6, pu6⟩ := pb6
      obtain ⟨ol6, ou6⟩ := ob7
      go_wp2
      refine wp_loop_rounds 8 ?_
      iterate 7
        rw [rounds_succ]
        go_wp2
        go_quiet (fail)
        go_wp2
      rw [rounds_succ]
      go_wp2
      go_roundw
      case rel =>
        refine Or.inr (Or.inr (Or.inl ⟨rfl, o0, n1, n2, n3, n4, n5, n6, n7, ⟨(HB.out.1), N1.out, N2.out, N3.out, N4.out, N5.out, N6.out, N7.out⟩, sum_row1 y a0 a1 a2 a3 a4 a5 a6 a7 b0 b1 b2 b3 b4 b5 b6 b7 o0 o1 o2 o3 o4 o5 o6 o7 n1 n2 n3 n4 n5 n6 n7 c0 c1 c2 c3 c4 c5 c6 p0 p1 p2 p3 p4 p5 p6 HS.out E0.out E1.out E2.out E3.out E4.out E5.out E6.out P0.out P1.out P2.out P3.out P4.out P5.out P6.out Q1.out, ?_⟩))
        repeat (with_reducible first | exact HC.out | refine TCells.drew ?_ | refine TCells.drewN ?_ _ | refine TCells.set1 (o1 := o1) ?_ _ | refine TCells.set2 (o2 := o2) ?_ _ | refine TCells.set3 (o3 := o3) ?_ _ | refine TCells.set4 (o4 := o4) ?_ _ | refine TCells.set5 (o5 := o5) ?_ _ | refine TCells.set6 (o6 := o6) ?_ _ | refine TCells.set7 (o7 := o7) ?_ _)
      case measure => simp [intOf]
    · obtain ⟨o0, o1, o2, o3, o4, o5, o6, o7, hbd, hsum, hcl⟩ := h
      have HB := Lib.hid hbd
      have HS := Lib.hid hsum
      have HC := Lib.hid hcl
      have ka := hcl.ca2
      have kb0 := hcl.cb0
      have kb1 := hcl.cb1
      have kb2 := hcl.cb2
      have kb3 := hcl.cb3
      have kb4 := hcl.cb4
      have kb5 := hcl.cb5
      have ko2 := hcl.co2
      have ko3 := hcl.co3
      have ko4 := hcl.co4
      have ko5 := hcl.co5
      have ko6 := hcl.co6
      have ko7 := hcl.co7
      have kf := hcl.fo
      obtain ⟨ob0, ob1, ob2, ob3, ob4, ob5, ob6, ob7⟩ := hbd
      clear hsum hcl ob0 ob1
      obtain ⟨p0, hp0, P0, pb0⟩ := prod_ex A2 B0
      obtain ⟨n2, c0, ho0, hc0, E0, N2, C0⟩ := step_a ob2 pb0
      obtain ⟨p1, hp1, P1, pb1⟩ := prod_ex A2 B1
      have cb0 := C0.out
      obtain ⟨n3, c1, ho1, hc1, E1, N3, C1⟩ := step_ab ob3 pb1 cb0
      obtain ⟨p2, hp2, P2, pb2⟩ := prod_ex A2 B2
      have cb1 := C1.out
      obtain ⟨n4, c2, ho2, hc2, E2, N4, C2⟩ := step_ab ob4 pb2 cb1
      obtain ⟨p3, hp3, P3, pb3⟩ := prod_ex A2 B3
      have cb2 := C2.out
      obtain ⟨n5, c3, ho3, hc3, E3, N5, C3⟩ := step_ab ob5 pb3 cb2
      obtain ⟨p4, hp4, P4, pb4⟩ := prod_ex A2 B4
      have cb3 := C3.out
      obtain ⟨n6, c4, ho4, hc4, E4, N6, C4⟩ := step_ab ob6 pb4 cb3
      obtain ⟨p5, hp5, P5, pb5⟩ := prod_ex A2 B5
      have cb4 := C4.out
      obtain ⟨n7, c5, ho5, hc5, E5, N7, C5⟩ := step_ab ob7 pb5 cb4
      obtain ⟨pl0, pu0⟩ := pb0
      obtain ⟨ol0, ou0⟩ := ob2
      obtain ⟨cl0, cu0⟩ := cb0
      obtain ⟨pl1, pu1⟩ := pb1
      obtain ⟨ol1, ou1⟩ := ob3
      obtain ⟨cl1, cu1⟩ := cb1
      obtain ⟨pl2, pu2⟩ := pb2
      obtain ⟨ol2, ou2⟩ := ob4
      obtain ⟨cl2, cu2⟩ := cb2
      obtain ⟨pl3, pu3⟩ := pb3
      obtain ⟨ol3, ou3⟩ := ob5
      obtain ⟨cl3, cu3⟩ := cb3
      obtain ⟨pl4, pu4⟩ := pb4
      obtain ⟨ol4, ou4⟩ := ob6
      obtain ⟨cl4, cu4⟩ := cb4
      obtain ⟨pl5, pu5⟩ := pb5
      obtain ⟨ol5, ou5⟩ := ob7
      go_wp2
      refine wp_loop_rounds 7 ?_
      iterate 6
        rw [rounds_succ]
        go_wp2
        go_quiet (fail)
        go_wp2
      rw [rounds_succ]
      go_wp2
      go_roundw
      case rel =>
        refine Or.inr (Or.inr (Or.inr (Or.inl ⟨rfl, o0, o1, n2, n3, n4, n5, n6, n7, ⟨(HB.out.1), (HB.out.2.1), N2.out, N3.out, N4.out, N5.out, N6.out, N7.out⟩, sum_row2 y a0 a1 a2 a3 a4 a5 a6 a7 b0 b1 b2 b3 b4 b5 b6 b7 o0 o1 o2 o3 o4 o5 o6 o7 n2 n3 n4 n5 n6 n7 c0 c1 c2 c3 c4 c5 p0 p1 p2 p3 p4 p5 HS.out E0.out E1.out E2.out E3.out E4.out E5.out P0.out P1.out P2.out P3.out P4.out P5.out Q2.out, ?_⟩)))
        repeat (with_reducible first | exact HC.out | refine TCells.drew ?_ | refine TCells.drewN ?_ _ | refine TCells.set2 (o2 := o2) ?_ _ | refine TCells.set3 (o3 := o3) ?_ _ | refine TCells.set4 (o4 := o4) ?_ _ | refine TCells.set5 (o5 := o5) ?_ _ | refine TCells.set6 (o6 := o6) ?_ _ | refine TCells.set7 (o7 := o7) ?_ _)
      case measure => simp [intOf]
    · obtain ⟨o0, o1, o2, o3, o4, o5, o6, o7, hbd, hsum, hcl⟩ := h
      have HB := Lib.hid hbd
      have HS := Lib.hid hsum
      have HC := Lib.hid hcl
      have ka := hcl.ca3
      have kb0 := hcl.cb0
      have kb1 := hcl.cb1
      have kb2 := hcl.cb2
      have kb3 := hcl.cb3
      have kb4 := hcl.cb4
      have ko3 := hcl.co3
      have ko4 := hcl.co4
      have ko5 := hcl.co5
      have ko6 := hcl.co6
      have ko7 := hcl.co7
      have kf := hcl.fo
      obtain ⟨ob0, ob1, ob2, ob3, ob4, ob5, ob6, ob7⟩ := hbd
      clear hsum hcl ob0 ob1 ob2
      obtain ⟨p0, hp0, P0, pb0⟩ := prod_ex A3 B0
      obtain ⟨n3, c0, ho0, hc0, E0, N3, C0⟩ := step_a ob3 pb0
      obtain ⟨p1, hp1, P1, pb1⟩ := prod_ex A3 B1
      have cb0 := C0.out
      obtain ⟨n4, c1, ho1, hc1, E1, N4, C1⟩ := step_ab ob4 pb1 cb0
      obtain ⟨p2, hp2, P2, pb2⟩ := prod_ex A3 B2
      have cb1 := C1.out
      obtain ⟨n5, c2, ho2, hc2, E2, N5, C2⟩ := step_ab ob5 pb2 cb1
      obtain ⟨p3, hp3, P3, pb3⟩ := prod_ex A3 B3
      have cb2 := C2.out
      obtain ⟨n6, c3, ho3, hc3, E3, N6, C3⟩ := step_ab ob6 pb3 cb2
      obtain ⟨p4, hp4, P4, pb4⟩ := prod_ex A3 B4
      have cb3 := C3.out
      obtain ⟨n7, c4, ho4, hc4, E4, N7, C4⟩ := step_ab ob7 pb4 cb3
      obtain ⟨pl0, pu0⟩ := pb0
      obtain ⟨ol0, ou0⟩ := ob3
      obtain ⟨cl0, cu0⟩ := cb0
      obtain ⟨pl1, pu1⟩ := pb1
      obtain ⟨ol1, ou1⟩ := ob4
      obtain ⟨cl1, cu1⟩ := cb1
      obtain ⟨pl2, pu2⟩ := pb2
      obtain ⟨ol2, ou2⟩ := ob5
      obtain ⟨cl2, cu2⟩ := cb2
      obtain ⟨pl3, pu3⟩ := pb3
      obtain ⟨ol3, ou3⟩ := ob6
      obtain ⟨cl3, cu3⟩ := cb3
      obtain ⟨pl4, pu4⟩ := pb4
      obtain ⟨ol4, ou4⟩ := ob7
      go_wp2
      refine wp_loop_rounds 6 ?_
      iterate 5
        rw [rounds_succ]
        go_wp2
        go_quiet (fail)
        go_wp2
      rw [rounds_succ]
      go_wp2
      go_roundw
      case rel =>
        refine Or.inr (Or.inr (Or.inr (Or.inr (Or.inl ⟨rfl, o0, o1, o2, n3, n4, n5, n6, n7, ⟨(HB.out.1), (HB.out.2.1), (HB.out.2.2.1), N3.out, N4.out, N5.out, N6.out, N7.out⟩, sum_row3 y a0 a1 a2 a3 a4 a5 a6 a7 b0 b1 b2 b3 b4 b5 b6 b7 o0 o1 o2 o3 o4 o5 o6 o7 n3 n4 n5 n6 n7 c0 c1 c2 c3 c4 p0 p1 p2 p3 p4 HS.out E0.out E1.out E2.out E3.out E4.out P0.out P1.out P2.out P3.out P4.out Q3.out, ?_⟩))))
        repeat (with_reducible first | exact HC.out | refine TCells.drew ?_ | refine TCells.drewN ?_ _ | refine TCells.set3 (o3 := o3) ?_ _ | refine TCells.set4 (o4 := o4) ?_ _ | refine TCells.set5 (o5 := o5) ?_ _ | refine TCells.set6 (o6 := o6) ?_ _ | refine TCells.set7 (o7 := o7) ?_ _)
      case measure => simp [intOf]
    · obtain ⟨o0, o1, o2, o3, o4, o5, o6, o7, hbd, hsum, hcl⟩ := h
      have HB := Lib.hid hbd
      have HS := Lib.hid hsum
      have HC := Lib.hid hcl
      have ka := hcl.ca4
      have kb0 := hcl.cb0
      have kb1 := hcl.cb1
      have kb2 := hcl.cb2
      have kb3 := hcl.cb3
      have ko4 := hcl.co4
      have ko5 := hcl.co5
      have ko6 := hcl.co6
      have ko7 := hcl.co7
      have kf := hcl.fo
      obtain ⟨ob0, ob1, ob2, ob3, ob4, ob5, ob6, ob7⟩ := hbd
      clear hsum hcl ob0 ob1 ob2 ob3
      obtain ⟨p0, hp0, P0, pb0⟩ := prod_ex A4 B0
      obtain ⟨n4, c0, ho0, hc0, E0, N4, C0⟩ := step_a ob4 pb0
      obtain ⟨p1, hp1, P1, pb1⟩ := prod_ex A4 B1
      have cb0 := C0.out
      obtain ⟨n5, c1, ho1, hc1, E1, N5, C1⟩ := step_ab ob5 pb1 cb0
      obtain ⟨p2, hp2, P2, pb2⟩ := prod_ex A4 B2
      have cb1 := C1.out
      obtain ⟨n6, c2, ho2, hc2, E2, N6, C2⟩ := step_ab ob6 pb2 cb1
      obtain ⟨p3, hp3, P3, pb3⟩ := prod_ex A4 B3
      have cb2 := C2.out
      obtain ⟨n7, c3, ho3, hc3, E3, N7, C3⟩ := step_ab ob7 pb3 cb2
      obtain ⟨pl0, pu0⟩ := pb0
      obtain ⟨ol0, ou0⟩ := ob4
      obtain ⟨cl0, cu0⟩ := cb0
      obtain ⟨pl1, pu1⟩ := pb1
      obtain ⟨ol1, ou1⟩ := ob5
      obtain ⟨cl1, cu1⟩ := cb1
      obtain ⟨pl2, pu2⟩ := pb2
      obtain ⟨ol2, ou2⟩ := ob6
      obtain ⟨cl2, cu2⟩ := cb2
      obtain ⟨pl3, pu3⟩ := pb3
      obtain ⟨ol3, ou3⟩ := ob7
      go_wp2
      refine wp_loop_rounds 5 ?_
      iterate 4
        rw [rounds_succ]
        go_wp2
        go_quiet (fail)
        go_wp2
      rw [rounds_succ]
      go_wp2
      go_roundw
      case rel =>
        refine Or.inr (Or.inr (Or.inr (Or.inr (Or.inr (Or.inl ⟨rfl, o0, o1, o2, o3, n4, n5, n6, n7, ⟨(HB.out.1), (HB.out.2.1), (HB.out.2.2.1), (HB.out.2.2.2.1), N4.out, N5.out, N6.out, N7.out⟩, sum_row4 y a0 a1 a2 a3 a4 a5 a6 a7 b0 b1 b2 b3 b4 b5 b6 b7 o0 o1 o2 o3 o4 o5 o6 o7 n4 n5 n6 n7 c0 c1 c2 c3 p0 p1 p2 p3 HS.out E0.out E1.out E2.out E3.out P0.out P1.out P2.out P3.out Q4.out, ?_⟩)))))
        repeat (with_reducible first | exact HC.out | refine TCells.drew ?_ | refine TCells.drewN ?_ _ | refine TCells.set4 (o4 := o4) ?_ _ | refine TCells.set5 (o5 := o5) ?_ _ | refine TCells.set6 (o6 := o6) ?_ _ | refine TCells.set7 (o7 := o7) ?_ _)
      case measure => simp [intOf]
    · obtain ⟨o0, o1, o2, o3, o4, o5, o6, o7, hbd, hsum, hcl⟩ := h
      have HB := Lib.hid hbd
      have HS := Lib.hid hsum
      have HC := Lib.hid hcl
      have ka := hcl.ca5
      have kb0 := hcl.cb0
      have kb1 := hcl.cb1
      have kb2 := hcl.cb2
      have ko5 := hcl.co5
      have ko6 := hcl.co6
      have ko7 := hcl.co7
      have kf := hcl.fo
      obtain ⟨ob0, ob1, ob2, ob3, ob4, ob5, ob6, ob7⟩ := hbd
      clear hsum hcl ob0 ob1 ob2 ob3 ob4
      obtain ⟨p0, hp0, P0, pb0⟩ := prod_ex A5 B0
      obtain ⟨n5, c0, ho0, hc0, E0, N5, C0⟩ := step_a ob5 pb0
      obtain ⟨p1, hp1, P1, pb1⟩ := prod_ex A5 B1
      have cb0 := C0.out
      obtain ⟨n6, c1, ho1, hc1, E1, N6, C1⟩ := step_ab ob6 pb1 cb0
      obtain ⟨p2, hp2, P2, pb2⟩ := prod_ex A5 B2
      have cb1 := C1.out
      obtain ⟨n7, c2, ho2, hc2, E2, N7, C2⟩ := step_ab ob7 pb2 cb1
      obtain ⟨pl0, pu0⟩ := pb0
      obtain ⟨ol0, ou0⟩ := ob5
      obtain ⟨cl0, cu0⟩ := cb0
      obtain ⟨pl1, pu1⟩ := pb1
      obtain ⟨ol1, ou1⟩ := ob6
      obtain ⟨cl1, cu1⟩ := cb1
      obtain ⟨pl2, pu2⟩ := pb2
      obtain ⟨ol2, ou2⟩ := ob7
      go_wp2
      refine wp_loop_rounds 4 ?_
      iterate 3
        rw [rounds_succ]
        go_wp2
        go_quiet (fail)
        go_wp2
      rw [rounds_succ]
      go_wp2
      go_roundw
      case rel =>
        refine Or.inr (Or.inr (Or.inr (Or.inr (Or.inr (Or.inr (Or.inl ⟨rfl, o0, o1, o2, o3, o4, n5, n6, n7, ⟨(HB.out.1), (HB.out.2.1), (HB.out.2.2.1), (HB.out.2.2.2.1), (HB.out.2.2.2.2.1), N5.out, N6.out, N7.out⟩, sum_row5 y a0 a1 a2 a3 a4 a5 a6 a7 b0 b1 b2 b3 b4 b5 b6 b7 o0 o1 o2 o3 o4 o5 o6 o7 n5 n6 n7 c0 c1 c2 p0 p1 p2 HS.out E0.out E1.out E2.out P0.out P1.out P2.out Q5.out, ?_⟩))))))
        repeat (with_reducible first | exact HC.out | refine TCells.drew ?_ | refine TCells.drewN ?_ _ | refine TCells.set5 (o5 := o5) ?_ _ | refine TCells.set6 (o6 := o6) ?_ _ | refine TCells.set7 (o7 := o7) ?_ _)
      case measure => simp [intOf]
    · obtain ⟨o0, o1, o2, o3, o4, o5, o6, o7, hbd, hsum, hcl⟩ := h
      have HB := Lib.hid hbd
      have HS := Lib.hid hsum
      have HC := Lib.hid hcl
      have ka := hcl.ca6
      have kb0 := hcl.cb0
      have kb1 := hcl.cb1
      have ko6 := hcl.co6
      have ko7 := hcl.co7
      have kf := hcl.fo
      obtain ⟨ob0, ob1, ob2, ob3, ob4, ob5, ob6, ob7⟩ := hbd
      clear hsum hcl ob0 ob1 ob2 ob3 ob4 ob5
      obtain ⟨p0, hp0, P0, pb0⟩ := prod_ex A6 B0
      obtain ⟨n6, c0, ho0, hc0, E0, N6, C0⟩ := step_a ob6 pb0
      obtain ⟨p1, hp1, P1, pb1⟩ := prod_ex A6 B1
      have cb0 := C0.out
      obtain ⟨n7, c1, ho1, hc1, E1, N7, C1⟩ := step_ab ob7 pb1 cb0
      obtain ⟨pl0, pu0⟩ := pb0
      obtain ⟨ol0, ou0⟩ := ob6
      obtain ⟨cl0, cu0⟩ := cb0
      obtain ⟨pl1, pu1⟩ := pb1
      obtain ⟨ol1, ou1⟩ := ob7
      go_wp2
      refine wp_loop_rounds 3 ?_
      iterate 2
        rw [rounds_succ]
        go_wp2
        go_quiet (fail)
        go_wp2
      rw [rounds_succ]
      go_wp2
      go_roundw
      case rel =>
        refine Or.inr (Or.inr (Or.inr (Or.inr (Or.inr (Or.inr (Or.inr (Or.inl ⟨rfl, o0, o1, o2, o3, o4, o5, n6, n7, ⟨(HB.out.1), (HB.out.2.1), (HB.out.2.2.1), (HB.out.2.2.2.1), (HB.out.2.2.2.2.1), (HB.out.2.2.2.2.2.1), N6.out, N7.out⟩, sum_row6 y a0 a1 a2 a3 a4 a5 a6 a7 b0 b1 b2 b3 b4 b5 b6 b7 o0 o1 o2 o3 o4 o5 o6 o7 n6 n7 c0 c1 p0 p1 HS.out E0.out E1.out P0.out P1.out Q6.out, ?_⟩)))))))
        repeat (with_reducible first | exact HC.out | refine TCells.drew ?_ | refine TCells.drewN ?_ _ | refine TCells.set6 (o6 := o6) ?_ _ | refine TCells.set7 (o7 := o7) ?_ _)
      case measure => simp [intOf]
    · obtain ⟨o0, o1, o2, o3, o4, o5, o6, o7, hbd, hsum, hcl⟩ := h
      have HB := Lib.hid hbd
      have HS := Lib.hid hsum
      have HC := Lib.hid hcl
      have ka := hcl.ca7
      have kb0 := hcl.cb0
      have ko7 := hcl.co7
      have kf := hcl.fo
      obtain ⟨ob0, ob1, ob2, ob3, ob4, ob5, ob6, ob7⟩ := hbd
      clear hsum hcl ob0 ob1 ob2 ob3 ob4 ob5 ob6
      obtain ⟨p0, hp0, P0, pb0⟩ := prod_ex A7 B0
      obtain ⟨n7, c0, ho0, hc0, E0, N7, C0⟩ := step_a ob7 pb0
      obtain ⟨pl0, pu0⟩ := pb0
      obtain ⟨ol0, ou0⟩ := ob7
      go_wp2
      refine wp_loop_rounds 2 ?_
      iterate 1
        rw [rounds_succ]
        go_wp2
        go_quiet (fail)
        go_wp2
      rw [rounds_succ]
      go_wp2
      go_roundw
      case rel =>
        refine Or.inr (Or.inr (Or.inr (Or.inr (Or.inr (Or.inr (Or.inr (Or.inr (⟨rfl, o0, o1, o2, o3, o4, o5, o6, n7, ⟨(HB.out.1), (HB.out.2.1), (HB.out.2.2.1), (HB.out.2.2.2.1), (HB.out.2.2.2.2.1), (HB.out.2.2.2.2.2.1), (HB.out.2.2.2.2.2.2.1), N7.out⟩, sum_row7 y a0 a1 a2 a3 a4 a5 a6 a7 b0 b1 b2 b3 b4 b5 b6 b7 o0 o1 o2 o3 o4 o5 o6 o7 n7 c0 p0 HS.out E0.out P0.out Q7.out, ?_⟩))))))))
        repeat (with_reducible first | exact HC.out | refine TCells.drew ?_ | refine TCells.drewN ?_ _ | refine TCells.set7 (o7 := o7) ?_ _)
      case measure => simp [intOf]
    · obtain ⟨o0, o1, o2, o3, o4, o5, o6, o7, hbd, hsum, hcl⟩ := h
      have HD := Lib.hid (sum_end x y z a0 a1 a2 a3 a4 a5 a6 a7 o0 o1 o2 o3 o4 o5 o6 o7 hsum hbd HZ.out QA.out)
      have hb := hcl.below
      have kr0 := hcl.cr0
      have ko0 := hcl.co0
      have kr1 := hcl.cr1
      have ko1 := hcl.co1
      have kr2 := hcl.cr2
      have ko2 := hcl.co2
      have kr3 := hcl.cr3
      have ko3 := hcl.co3
      have kr4 := hcl.cr4
      have ko4 := hcl.co4
      have kr5 := hcl.cr5
      have ko5 := hcl.co5
      have kr6 := hcl.cr6
      have ko6 := hcl.co6
      have kr7 := hcl.cr7
      have ko7 := hcl.co7
      have kf := hcl.fr
      clear hsum hbd hcl
      go_wp2
      refine bodyPost_ret (v := dv o0 o1 o2 o3 o4 o5 o6 o7) (by simp [results, Try.results21, go_sem, kr0, kr1, kr2, kr3, kr4, kr5, kr6, kr7]) rfl ?_
      refine ⟨o0, o1, o2, o3, o4, o5, o6, o7, HD.out, rfl, ?_⟩
      go_grown

end Go.Proofs.Ythkimoladjpjgaa
