/-
  Contract of the document's sum of two rows of eight digits (hindcastref01.Plus). Conditions: each digit is from 0 to 255.
-/
import Derived.Test.YtddeiidkmihkkaaND
import Derived.BigQuiet
import Derived.Deep.QuietTactic
namespace Go.Proofs.Ytddeiidkmihkkaa.Nm
open Go.RowKit

theorem carry (s : Int) : ∃ o c : Int, s % 256 = o ∧ s / 256 = c ∧ s = 256 * c + o ∧ 0 ≤ o ∧ o ≤ 255 := ⟨s % 256, s / 256, rfl, rfl, by omega, by omega, by omega⟩
theorem digs_plus (x y a0 a1 a2 a3 a4 a5 a6 a7 b0 b1 b2 b3 b4 b5 b6 b7 o0 o1 o2 o3 o4 o5 o6 o7 c0 c1 c2 c3 c4 c5 c6 c7 : Int) (ha : Digs x a0 a1 a2 a3 a4 a5 a6 a7) (hb : Digs y b0 b1 b2 b3 b4 b5 b6 b7)
    (e0 : a0 + b0 = 256 * c0 + o0) (u0 : 0 ≤ o0 ∧ o0 ≤ 255)
    (e1 : a1 + b1 + c0 = 256 * c1 + o1) (u1 : 0 ≤ o1 ∧ o1 ≤ 255)
    (e2 : a2 + b2 + c1 = 256 * c2 + o2) (u2 : 0 ≤ o2 ∧ o2 ≤ 255)
    (e3 : a3 + b3 + c2 = 256 * c3 + o3) (u3 : 0 ≤ o3 ∧ o3 ≤ 255)
    (e4 : a4 + b4 + c3 = 256 * c4 + o4) (u4 : 0 ≤ o4 ∧ o4 ≤ 255)
    (e5 : a5 + b5 + c4 = 256 * c5 + o5) (u5 : 0 ≤ o5 ∧ o5 ≤ 255)
    (e6 : a6 + b6 + c5 = 256 * c6 + o6) (u6 : 0 ≤ o6 ∧ o6 ≤ 255)
    (e7 : a7 + b7 + c6 = 256 * c7 + o7) (u7 : 0 ≤ o7 ∧ o7 ≤ 255) :
    Digs ((x + y) % 18446744073709551616) o0 o1 o2 o3 o4 o5 o6 o7 := by
  unfold Digs at *
  refine ⟨u0, u1, u2, u3, u4, u5, u6, u7, ?_⟩
  omega

set_option maxHeartbeats 1000000 in
theorem plus_any (x y a0 a1 a2 a3 a4 a5 a6 a7 b0 b1 b2 b3 b4 b5 b6 b7 : Int) (w : World) (ha : Digs x a0 a1 a2 a3 a4 a5 a6 a7) (hb : Digs y b0 b1 b2 b3 b4 b5 b6 b7) :
    Calls Try.prog 49 #[dv a0 a1 a2 a3 a4 a5 a6 a7, dv b0 b1 b2 b3 b4 b5 b6 b7] w (RetD ((x + y) % 18446744073709551616) w) := by
  have HA := Lib.hid ha
  have HB := Lib.hid hb
  unfold Digs at ha hb
  obtain ⟨⟨al0, au0⟩, ⟨al1, au1⟩, ⟨al2, au2⟩, ⟨al3, au3⟩, ⟨al4, au4⟩, ⟨al5, au5⟩, ⟨al6, au6⟩, ⟨al7, au7⟩, hax⟩ := ha
  clear hax
  obtain ⟨⟨bl0, bu0⟩, ⟨bl1, bu1⟩, ⟨bl2, bu2⟩, ⟨bl3, bu3⟩, ⟨bl4, bu4⟩, ⟨bl5, bu5⟩, ⟨bl6, bu6⟩, ⟨bl7, bu7⟩, hbx⟩ := hb
  clear hbx
  obtain ⟨o0, c0, ho0, hc0, e0, ol0, ou0⟩ := carry (a0 + b0)
  have cb0 : 0 ≤ c0 ∧ c0 ≤ 1 := by omega
  obtain ⟨cl0, cu0⟩ := cb0
  have E0 := Lib.hid e0
  clear e0
  obtain ⟨o1, c1, ho1, hc1, e1, ol1, ou1⟩ := carry (a1 + b1 + c0)
  have cb1 : 0 ≤ c1 ∧ c1 ≤ 1 := by omega
  obtain ⟨cl1, cu1⟩ := cb1
  have E1 := Lib.hid e1
  clear e1
  obtain ⟨o2, c2, ho2, hc2, e2, ol2, ou2⟩ := carry (a2 + b2 + c1)
  have cb2 : 0 ≤ c2 ∧ c2 ≤ 1 := by omega
  obtain ⟨cl2, cu2⟩ := cb2
  have E2 := Lib.hid e2
  clear e2
  obtain ⟨o3, c3, ho3, hc3, e3, ol3, ou3⟩ := carry (a3 + b3 + c2)
  have cb3 : 0 ≤ c3 ∧ c3 ≤ 1 := by omega
  obtain ⟨cl3, cu3⟩ := cb3
  have E3 := Lib.hid e3
  clear e3
  obtain ⟨o4, c4, ho4, hc4, e4, ol4, ou4⟩ := carry (a4 + b4 + c3)
  have cb4 : 0 ≤ c4 ∧ c4 ≤ 1 := by omega
  obtain ⟨cl4, cu4⟩ := cb4
  have E4 := Lib.hid e4
  clear e4
  obtain ⟨o5, c5, ho5, hc5, e5, ol5, ou5⟩ := carry (a5 + b5 + c4)
  have cb5 : 0 ≤ c5 ∧ c5 ≤ 1 := by omega
  obtain ⟨cl5, cu5⟩ := cb5
  have E5 := Lib.hid e5
  clear e5
  obtain ⟨o6, c6, ho6, hc6, e6, ol6, ou6⟩ := carry (a6 + b6 + c5)
  have cb6 : 0 ≤ c6 ∧ c6 ≤ 1 := by omega
  obtain ⟨cl6, cu6⟩ := cb6
  have E6 := Lib.hid e6
  clear e6
  obtain ⟨o7, c7, ho7, hc7, e7, ol7, ou7⟩ := carry (a7 + b7 + c6)
  have cb7 : 0 ≤ c7 ∧ c7 ≤ 1 := by omega
  obtain ⟨cl7, cu7⟩ := cb7
  have E7 := Lib.hid e7
  clear e7
  go_enter Try.func49, Try.ntmps49
  go_wp2
  refine wp_loop_rounds 9 ?_
  iterate 8
    rw [rounds_succ]
    go_wp2
    go_region
    go_wp2
  rw [rounds_succ]
  go_wp2
  go_returns
  refine ⟨_, _, _, _, _, _, _, _, digs_plus _ _ _ _ _ _ _ _ _ _ _ _ _ _ _ _ _ _ o0 o1 o2 o3 o4 o5 o6 o7 _ _ _ _ _ _ _ _ HA.out HB.out E0.out ⟨ol0, ou0⟩ E1.out ⟨ol1, ou1⟩ E2.out ⟨ol2, ou2⟩ E3.out ⟨ol3, ou3⟩ E4.out ⟨ol4, ou4⟩ E5.out ⟨ol5, ou5⟩ E6.out ⟨ol6, ou6⟩ E7.out ⟨ol7, ou7⟩, rfl, by go_grown⟩

end Go.Proofs.Ytddeiidkmihkkaa.Nm
