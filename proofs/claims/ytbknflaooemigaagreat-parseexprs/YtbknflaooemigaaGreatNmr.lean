/-
 Contracts of the document's digits (package hindcastref01). Contract of the document's sum of two rows of eight digits (hindcastref01.Plus). Conditions: each digit is from 0 to 255. Contracts of the document's number with the other sign (hindcastref01.Minus) and of a number's size (hindcastref01.Size). Conditions: each digit is from 0 to 255. The document's rows of digits as functions of the number, and their contracts. Conditions: the number is from 0 to 2^64 - 1. Contract of the document's Parse. Conditions: texts of at most 100000 bytes.
-/
import Derived.Test.YtbknflaooemigaaGreatRows
import Derived.WalkKit
import Derived.WalkSpells
import Derived.WalkLawsBesides
import Derived.Lib.Hide
import Derived.Handy
import Derived.BigQuiet
import Derived.Deep.QuietTactic
import Derived.Below
import Derived.Lib.QuietBelow
import Derived.Test.YtbknflaooemigaaGreatNm
namespace Go.Proofs.YtbknflaooemigaaGreat.Nm
section
open Go.RowKit

def Digs (x d0 d1 d2 d3 d4 d5 d6 d7 : Int) : Prop :=
 (0 ≤ d0 ∧ d0 ≤ 255) ∧ (0 ≤ d1 ∧ d1 ≤ 255) ∧ (0 ≤ d2 ∧ d2 ≤ 255) ∧ (0 ≤ d3 ∧ d3 ≤ 255) ∧ (0 ≤ d4 ∧ d4 ≤ 255) ∧ (0 ≤ d5 ∧ d5 ≤ 255) ∧ (0 ≤ d6 ∧ d6 ≤ 255) ∧ (0 ≤ d7 ∧ d7 ≤ 255) ∧
 x = d0 + 256 * d1 + 65536 * d2 + 16777216 * d3 + 4294967296 * d4 + 1099511627776 * d5 + 281474976710656 * d6 + 72057594037927936 * d7

/-- A row of eight digits, as a value. -/
abbrev dv (d0 d1 d2 d3 d4 d5 d6 d7 : Int) : Value := .agg #[.int .i64 d0, .int .i64 d1, .int .i64 d2, .int .i64 d3, .int .i64 d4, .int .i64 d5, .int .i64 d6, .int .i64 d7]
def RetD (x : Int) (w : World) (e : Ending) (w' : World) : Prop :=
 ∃ d0 d1 d2 d3 d4 d5 d6 d7 : Int, Digs x d0 d1 d2 d3 d4 d5 d6 d7 ∧ e = .returned (.agg #[.int .i64 d0, .int .i64 d1, .int .i64 d2, .int .i64 d3, .int .i64 d4, .int .i64 d5, .int .i64 d6, .int .i64 d7]) ∧ Below w.heap.size w w'
theorem ret_int {k : IntKind} {a b : Int} (h : a = b) : Ending.returned (.int k a) = .returned (.int k b) := by rw [h]
theorem ret_bool {a b : Bool} (h : a = b) : Ending.returned (.bool a) = .returned (.bool b) := by rw [h]

theorem digs_of (u : Int) (h0 : 0 ≤ u) (h1 : u ≤ 18446744073709551615) :
  Digs u (u % 256) (u / 256 % 256) (u / 256 / 256 % 256) (u / 256 / 256 / 256 % 256) (u / 256 / 256 / 256 / 256 % 256) (u / 256 / 256 / 256 / 256 / 256 % 256) (u / 256 / 256 / 256 / 256 / 256 / 256 % 256) (u / 256 / 256 / 256 / 256 / 256 / 256 / 256 % 256) := by
 unfold Digs; omega

set_option maxHeartbeats 400000 in
theorem number_any (x d0 d1 d2 d3 d4 d5 d6 d7 : Int) (w : World) (hd : Digs x d0 d1 d2 d3 d4 d5 d6 d7) :
  Calls Tryz.prog 84 #[dv d0 d1 d2 d3 d4 d5 d6 d7] w fun e w' => e = .returned (.int .i64 (wrap64 x)) ∧ Below w.heap.size w w' := by
 obtain ⟨⟨p0, q0⟩, ⟨p1, q1⟩, ⟨p2, q2⟩, ⟨p3, q3⟩, ⟨p4, q4⟩, ⟨p5, q5⟩, ⟨p6, q6⟩, ⟨p7, q7⟩, hx⟩ := hd
 have HX := Lib.hid hx
 clear hx
 go_enter Tryz.func84, Tryz.ntmps84
 go_wp2
 go_rounds 9
 go_ret
 refine ⟨ret_int (congrArg wrap64 ?_), by go_grown⟩
 rw [HX.out]; omega

set_option maxHeartbeats 400000 in
theorem of_any (a : Int) (w : World) :
  Calls Tryz.prog 83 #[.int .i64 a] w (RetD (IntKind.u64.wrap a) w) := by
 have hb : 0 ≤ IntKind.u64.wrap a ∧ IntKind.u64.wrap a ≤ 18446744073709551615 := by rw [IntKind.wrap_u64]; omega
 obtain ⟨u, hu⟩ : ∃ u, IntKind.u64.wrap a = u := ⟨_, rfl⟩
 rw [hu] at hb ⊢
 obtain ⟨h0, h1⟩ := hb
 have HD := Lib.hid (digs_of u h0 h1)
 go_enter Tryz.func83, Tryz.ntmps83
 go_wp2
 go_rounds 9
 go_returns
 exact ⟨_, _, _, _, _, _, _, _, HD.out, rfl, by go_grown⟩
end
end Go.Proofs.YtbknflaooemigaaGreat.Nm

namespace Go.Proofs.YtbknflaooemigaaGreat.Nm
section
open Go.RowKit

theorem carry (s : Int) : ∃ o c : Int, s % 256 = o ∧ s / 256 = c ∧ s = 256 * c + o ∧ 0 ≤ o ∧ o ≤ 255 := ⟨s % 256, s / 256, rfl, rfl, by omega, by omega, by omega⟩
theorem digs_plus (x y a0 a1 a2 a3 a4 a5 a6 a7 b0 b1 b2 b3 b4 b5 b6 b7 o0 o1 o2 o3 o4 o5 o6 o7 c0 c1 c2 c3 c4 c5 c6 c7 : Int) (ha : Digs x a0 a1 a2 a3 a4 a5 a6 a7) (hb : Digs y b0 b1 b2 b3 b4 b5 b6 b7)
  (e0 : a0 + b0 = 256 * c0 + o0) (u0 : 0 ≤ o0 ∧ o0 ≤ 255)
  (e1 : a1 + b1 + c0 = 256 * c1 + o1) (u1 : 0 ≤ o1 ∧ o1 ≤ 255)
  (e2 : a2 + b2 + c1 = 256 * c2 + o2) (u2 : 0 ≤ o2 ∧ o2 ≤ 255)
  (e3 : a3 + b3 + c2 = 256 * c3 + o3) (u3 : 0 ≤ o3 ∧ o3 ≤ 255)
  (e4 : a4 + b4 + c3 = 256 * c4 + o4) (u4 : 0 ≤ o4 ∧ o4 ≤ 255)
  (e5 : a5 + b5 + c4 = 256 * c5 + o5) (u5 : 0 ≤ o5 ∧ o5 ≤ 255)
  (e6 : a6 + b6 + c5 = 256 * c6 + o6) (u6 : 0 ≤ o6 ∧ o6 ≤ 255)
  (e7 : a7 + b7 + c6 = 256 * c7 + o7) (u7 : 0 ≤ o7 ∧ o7 ≤ 255) :
  Digs ((x + y) % 18446744073709551616) o0 o1 o2 o3 o4 o5 o6 o7 := by
 unfold Digs at *
 refine ⟨u0, u1, u2, u3, u4, u5, u6, u7, ?_⟩
 omega

set_option maxHeartbeats 1000000 in
theorem plus_any (x y a0 a1 a2 a3 a4 a5 a6 a7 b0 b1 b2 b3 b4 b5 b6 b7 : Int) (w : World) (ha : Digs x a0 a1 a2 a3 a4 a5 a6 a7) (hb : Digs y b0 b1 b2 b3 b4 b5 b6 b7) :
  Calls Tryz.prog 102 #[dv a0 a1 a2 a3 a4 a5 a6 a7, dv b0 b1 b2 b3 b4 b5 b6 b7] w (RetD ((x + y) % 18446744073709551616) w) := by
 have HA := Lib.hid ha
 have HB := Lib.hid hb
 unfold Digs at ha hb
 obtain ⟨⟨al0, au0⟩, ⟨al1, au1⟩, ⟨al2, au2⟩, ⟨al3, au3⟩, ⟨al4, au4⟩, ⟨al5, au5⟩, ⟨al6, au6⟩, ⟨al7, au7⟩, hax⟩ := ha
 clear hax
 obtain ⟨⟨bl0, bu0⟩, ⟨bl1, bu1⟩, ⟨bl2, bu2⟩, ⟨bl3, bu3⟩, ⟨bl4, bu4⟩, ⟨bl5, bu5⟩, ⟨bl6, bu6⟩, ⟨bl7, bu7⟩, hbx⟩ := hb
 clear hbx
 obtain ⟨o0, c0, ho0, hc0, e0, ol0, ou0⟩ := carry (a0 + b0)
 have cb0 : 0 ≤ c0 ∧ c0 ≤ 1 := by omega
 obtain ⟨cl0, cu0⟩ := cb0
 have E0 := Lib.hid e0
 clear e0
 obtain ⟨o1, c1, ho1, hc1, e1, ol1, ou1⟩ := carry (a1 + b1 + c0)
 have cb1 : 0 ≤ c1 ∧ c1 ≤ 1 := by omega
 obtain ⟨cl1, cu1⟩ := cb1
 have E1 := Lib.hid e1
 clear e1
 obtain ⟨o2, c2, ho2, hc2, e2, ol2, ou2⟩ := carry (a2 + b2 + c1)
 have cb2 : 0 ≤ c2 ∧ c2 ≤ 1 := by omega
 obtain ⟨cl2, cu2⟩ := cb2
 have E2 := Lib.hid e2
 clear e2
 obtain ⟨o3, c3, ho3, hc3, e3, ol3, ou3⟩ := carry (a3 + b3 + c2)
 have cb3 : 0 ≤ c3 ∧ c3 ≤ 1 := by omega
 obtain ⟨cl3, cu3⟩ := cb3
 have E3 := Lib.hid e3
 clear e3
 obtain ⟨o4, c4, ho4, hc4, e4, ol4, ou4⟩ := carry (a4 + b4 + c3)
 have cb4 : 0 ≤ c4 ∧ c4 ≤ 1 := by omega
 obtain ⟨cl4, cu4⟩ := cb4
 have E4 := Lib.hid e4
 clear e4
 obtain ⟨o5, c5, ho5, hc5, e5, ol5, ou5⟩ := carry (a5 + b5 + c4)
 have cb5 : 0 ≤ c5 ∧ c5 ≤ 1 := by omega
 obtain ⟨cl5, cu5⟩ := cb5
 have E5 := Lib.hid e5
 clear e5
 obtain ⟨o6, c6, ho6, hc6, e6, ol6, ou6⟩ := carry (a6 + b6 + c5)
 have cb6 : 0 ≤ c6 ∧ c6 ≤ 1 := by omega
 obtain ⟨cl6, cu6⟩ := cb6
 have E6 := Lib.hid e6
 clear e6
 obtain ⟨o7, c7, ho7, hc7, e7, ol7, ou7⟩ := carry (a7 + b7 + c6)
 have cb7 : 0 ≤ c7 ∧ c7 ≤ 1 := by omega
 obtain ⟨cl7, cu7⟩ := cb7
 have E7 := Lib.hid e7
 clear e7
 go_enter Tryz.func102, Tryz.ntmps102
 go_wp2
 refine wp_loop_rounds 9 ?_
 iterate 8
  rw [rounds_succ]
  go_wp2
  go_region
  go_wp2
 rw [rounds_succ]
 go_wp2
 go_returns
 refine ⟨_, _, _, _, _, _, _, _, digs_plus _ _ _ _ _ _ _ _ _ _ _ _ _ _ _ _ _ _ o0 o1 o2 o3 o4 o5 o6 o7 _ _ _ _ _ _ _ _ HA.out HB.out E0.out ⟨ol0, ou0⟩ E1.out ⟨ol1, ou1⟩ E2.out ⟨ol2, ou2⟩ E3.out ⟨ol3, ou3⟩ E4.out ⟨ol4, ou4⟩ E5.out ⟨ol5, ou5⟩ E6.out ⟨ol6, ou6⟩ E7.out ⟨ol7, ou7⟩, rfl, by go_grown⟩
end
end Go.Proofs.YtbknflaooemigaaGreat.Nm

namespace Go.Proofs.YtbknflaooemigaaGreat.Nm
section
open Go.RowKit

theorem bcell {W w1 : World} (hb : Below W.heap.size W w1) : (∀ b o, b < W.heap.size → w1.cell? ⟨b, o, none⟩ = W.cell? ⟨b, o, none⟩) ∧ (∀ b o, b < W.heap.size → w1.frozen? ⟨b, o, none⟩ = W.frozen? ⟨b, o, none⟩) :=
 ⟨fun b o h => hb.cell (p := ⟨b, o, none⟩) h, fun b o h => hb.frozen (p := ⟨b, o, none⟩) h⟩

theorem below_step {w W w' : World} (h : Below w.heap.size w W) (k : Below W.heap.size W w') : Below w.heap.size w w' := h.trans (k.mono h.size)

theorem digs_flip (x a0 a1 a2 a3 a4 a5 a6 a7 : Int) (h : Digs x a0 a1 a2 a3 a4 a5 a6 a7) : Digs (18446744073709551615 - x) (255 - a0) (255 - a1) (255 - a2) (255 - a3) (255 - a4) (255 - a5) (255 - a6) (255 - a7) := by
 unfold Digs at *; omega
theorem digs_one : Digs 1 1 0 0 0 0 0 0 0 := by unfold Digs; omega

set_option maxHeartbeats 400000 in
theorem minus_any (x a0 a1 a2 a3 a4 a5 a6 a7 : Int) (w : World) (ha : Digs x a0 a1 a2 a3 a4 a5 a6 a7) :
  Calls Tryz.prog 82 #[dv a0 a1 a2 a3 a4 a5 a6 a7] w (RetD ((18446744073709551616 - x) % 18446744073709551616) w) := by
 have hp := fun w => plus_any _ _ _ _ _ _ _ _ _ _ _ _ _ _ _ _ _ _ w (digs_flip _ _ _ _ _ _ _ _ _ ha) digs_one
 rw [show (18446744073709551615 - x + 1) = 18446744073709551616 - x by omega] at hp
 have HP := Lib.hid hp
 clear hp
 unfold Digs at ha
 obtain ⟨⟨al0, au0⟩, ⟨al1, au1⟩, ⟨al2, au2⟩, ⟨al3, au3⟩, ⟨al4, au4⟩, ⟨al5, au5⟩, ⟨al6, au6⟩, ⟨al7, au7⟩, hax⟩ := ha
 clear hax
 generalize (18446744073709551616 - x) % 18446744073709551616 = z at *
 go_enter Tryz.func82, Tryz.ntmps82
 go_wp2
 refine wp_loop_rounds 9 ?_
 iterate 9
  rw [rounds_succ]
  go_wp2_with fail
 refine (HP.out _).mono ?_
 rintro e w1 ⟨d0, d1, d2, d3, d4, d5, d6, d7, hD, rfl, hb⟩
 have HD := Lib.hid hD
 clear hD
 obtain ⟨hc, hf⟩ := bcell hb
 have hz := hb.size
 simp only [World.size_alloc] at hc hf hz
 go_wp2
 refine bodyPost_ret (v := dv d0 d1 d2 d3 d4 d5 d6 d7) (by simp [results, Tryz.results82, go_sem, hc]) rfl ?_
 refine ⟨_, _, _, _, _, _, _, _, HD.out, rfl, ?_⟩
 have hb' := (by go_grown : Below w.heap.size w _).trans (hb.mono (by simp; omega))
 go_grown

theorem minus_at (x z a0 a1 a2 a3 a4 a5 a6 a7 : Int) (w : World) (ha : Digs x a0 a1 a2 a3 a4 a5 a6 a7) (hz : (18446744073709551616 - x) % 18446744073709551616 = z) :
  Calls Tryz.prog 82 #[dv a0 a1 a2 a3 a4 a5 a6 a7] w (RetD z w) := hz ▸ minus_any x a0 a1 a2 a3 a4 a5 a6 a7 w ha
theorem number_at (x n a0 a1 a2 a3 a4 a5 a6 a7 : Int) (w : World) (ha : Digs x a0 a1 a2 a3 a4 a5 a6 a7) (hn : wrap64 x = n) :
  Calls Tryz.prog 84 #[dv a0 a1 a2 a3 a4 a5 a6 a7] w fun e w' => e = .returned (.int .i64 n) ∧ Below w.heap.size w w' := hn ▸ number_any x a0 a1 a2 a3 a4 a5 a6 a7 w ha
theorem of_at (a u : Int) (w : World) (hu : IntKind.u64.wrap a = u) : Calls Tryz.prog 83 #[.int .i64 a] w (RetD u w) := hu ▸ of_any a w
end
end Go.Proofs.YtbknflaooemigaaGreat.Nm

namespace Go.Proofs.YtbknflaooemigaaGreat.Nm
section
open Go.RowKit Go.Sort

/-- Digit number i to the base 256. -/
def dg (i : Nat) (x : Int) : Int := x / (256 ^ i : Nat) % 256
abbrev dx (x : Int) : Value := .agg #[.int .i64 (dg 0 x), .int .i64 (dg 1 x), .int .i64 (dg 2 x), .int .i64 (dg 3 x), .int .i64 (dg 4 x), .int .i64 (dg 5 x), .int .i64 (dg 6 x), .int .i64 (dg 7 x)]
def In64 (x : Int) : Prop := 0 ≤ x ∧ x ≤ 18446744073709551615

theorem digs_dg {x : Int} (h : In64 x) : Digs x (dg 0 x) (dg 1 x) (dg 2 x) (dg 3 x) (dg 4 x) (dg 5 x) (dg 6 x) (dg 7 x) := by
 unfold In64 at h
 simp only [Digs, dg, Nat.reducePow]
 omega
theorem digs_uniq {x d0 d1 d2 d3 d4 d5 d6 d7 : Int} (h : Digs x d0 d1 d2 d3 d4 d5 d6 d7) : d0 = dg 0 x ∧ d1 = dg 1 x ∧ d2 = dg 2 x ∧ d3 = dg 3 x ∧ d4 = dg 4 x ∧ d5 = dg 5 x ∧ d6 = dg 6 x ∧ d7 = dg 7 x := by
 unfold Digs at h
 simp only [dg, Nat.reducePow]
 obtain ⟨h0, h1, h2, h3, h4, h5, h6, h7, hx⟩ := h
 refine ⟨?_, ?_, ?_, ?_, ?_, ?_, ?_, ?_⟩ <;> omega
theorem det {P : Program} {f : FuncId} {args : Array Value} {x : Int} {w : World} (h : Calls P f args w (RetD x w)) :
  Calls P f args w fun e w' => e = .returned (dx x) ∧ Below w.heap.size w w' :=
 h.mono fun e w' ⟨d0, d1, d2, d3, d4, d5, d6, d7, hd, he, hb⟩ => by
  obtain ⟨e0, e1, e2, e3, e4, e5, e6, e7⟩ := digs_uniq hd
  refine ⟨?_, hb⟩
  rw [he, e0, e1, e2, e3, e4, e5, e6, e7]

theorem of_dx (a u : Int) (w : World) (hu : IntKind.u64.wrap a = u) : Calls Tryz.prog 83 #[.int .i64 a] w fun e w' => e = .returned (dx u) ∧ Below w.heap.size w w' := det (of_at a u w hu)
theorem minus_dx (x z : Int) (w : World) (hx : In64 x) (hz : (18446744073709551616 - x) % 18446744073709551616 = z) :
  Calls Tryz.prog 82 #[dx x] w fun e w' => e = .returned (dx z) ∧ Below w.heap.size w w' := det (minus_at x z _ _ _ _ _ _ _ _ w (digs_dg hx) hz)
theorem number_dx (x n : Int) (w : World) (hx : In64 x) (hn : wrap64 x = n) :
  Calls Tryz.prog 84 #[dx x] w fun e w' => e = .returned (.int .i64 n) ∧ Below w.heap.size w w' := number_at x n _ _ _ _ _ _ _ _ w (digs_dg hx) hn

theorem same_below {P : Program} {f : FuncId} {args : Array Value} {v : Value} {w : World} (h : Calls P f args w fun e w' => e = .returned v ∧ w = w') :
  Calls P f args w fun e w' => e = .returned v ∧ Below w.heap.size w w' := h.mono fun _ _ ⟨he, hw⟩ => ⟨he, hw ▸ Below.refl _ _⟩

theorem in64 (n : Nat) (h : n ≤ 9223372036854775808) : In64 (n : Int) := by unfold In64; omega
theorem back64 (n : Nat) (h : n ≤ 9223372036854775808) : IntKind.u64.wrap (wrap64 n) = n := by rw [IntKind.wrap_u64]; unfold wrap64; omega
theorem in64m (n : Int) : In64 (n % 18446744073709551616) := by unfold In64; omega
end
end Go.Proofs.YtbknflaooemigaaGreat.Nm

namespace Go.Proofs.YtbknflaooemigaaGreat.Nm
section
open Go.RowKit

theorem valL_take_le (s : ByteArray) (k : Nat) : valL (s.data.toList.take k) ≤ valL s.data.toList := by
 have := valL_mono (s.data.toList.take k) (s.data.toList.drop k)
 rwa [List.take_append_drop] at this

set_option maxRecDepth 100000 in
set_option maxHeartbeats 1000000 in
theorem rparse_minus (s d : ByteArray) (w : World) (hs : s.size ≤ 100000) (h0 : 0 < s.size) (hm : ((s[0].toNat : Int) == 45) = true) (hd : s.extract 1 s.size = d) (hds : d.size < s.size) (h0d : 0 < d.size) (hz : ((d[0].toNat : Int) == 48) = false)
  (hh : Hid (d.data.toList.headD 0 ≠ 48 ∨ d.data.toList.length ≤ 1))
  (n e : Int) (hn : Hid (n = if d.data.toList.all digB then (if 9223372036854775808 < valL d.data.toList then 0 else -(valL d.data.toList : Int)) else 0))
  (he : Hid (e = if d.data.toList.all digB then (if 9223372036854775808 < valL d.data.toList then 14 else 0) else 2)) :
  Calls Tryz.prog 55 #[.string s] w fun x w' => x = .returned (.tuple #[.int .i64 n, .int .i64 e]) ∧ Below w.heap.size w w' := by
 have h0' : (0 : Int) < s.size := by omega
 have g1 : ((d.size : Int) == 0) = false := by rw [beq_eq_false_iff_ne]; omega
 have g2 : (0 : Int) < d.size := by omega
 have g3 : (d.size : Int) < s.size := by omega
 go_enter Tryz.func55, Tryz.ntmps55
 go_wp2
 go_loop [5] (fun i => ∃ k : Nat, k ≤ d.size ∧ i = .int .i64 k ∧ (d.data.toList.take k).all digB = true) (fun i => d.size - (intOf i).toNat)
 case atStart => exact ⟨0, by omega, rfl, rfl⟩
 case round =>
  obtain ⟨k, hk, rfl, hall⟩ := hrel
  have HA := Lib.hid hall
  clear hall
  by_cases hlt : k < d.size
  ·by_cases hbad : d[k].toNat < 48 ∨ 57 < d[k].toNat
   ·have hdd : digB d[k] = false := by unfold digB; simp; omega
    have hf := all_split d k hlt hdd
    have hn2 := hn.out
    have he2 := he.out
    rw [hf] at hn2 he2
    simp only [Bool.false_eq_true, if_false] at hn2 he2
    subst hn2; subst he2
    clear hn he hdd hf
    rcases hbad with hlo | hhi
    ·have hlo' : (d[k].toNat : Int) < 48 := by omega
     go_wp2
     go_ret2
     exact ⟨rfl, Below.refl _ _⟩
    ·have hlo' : ¬ (d[k].toNat : Int) < 48 := by omega
     have hhi' : 57 < (d[k].toNat : Int) := by omega
     go_wp2
     go_ret2
     exact ⟨rfl, Below.refl _ _⟩
   ·have hdd : digB d[k] = true := by unfold digB; simp; omega
    have HS := Lib.hid (show (d.data.toList.take (k + 1)).all digB = true by rw [take_snoc d k hlt, List.all_append, HA.out]; simp [hdd])
    clear hdd
    have hlo' : ¬ (d[k].toNat : Int) < 48 := by omega
    have hhi' : ¬ 57 < (d[k].toNat : Int) := by omega
    clear hbad
    go_wp2
    go_round
    case rel => exact ⟨k + 1, by omega, by go_num, HS.out⟩
    case measure => simp [intOf]; omega
  ·obtain rfl : k = d.size := by omega
   have hall : d.data.toList.all digB = true := by
    have ha := HA.out
    rwa [List.take_of_length_le (by rw [size_list]; omega)] at ha
   have hov := over19 d.data.toList [57, 50, 50, 51, 51, 55, 50, 48, 51, 54, 56, 53, 52, 55, 55, 53, 56, 48, 56] hall (by decide) rfl hh.out (by decide) (by decide)
   have hval : valL [57, 50, 50, 51, 51, 55, 50, 48, 51, 54, 56, 53, 52, 55, 55, 53, 56, 48, 56] = 9223372036854775808 := by decide
   rw [hval, size_list] at hov
   have hn2 := hn.out
   have he2 := he.out
   rw [hall] at hn2 he2
   simp only [if_true] at hn2 he2
   have HALL := Lib.hid hall
   clear hn he HA hall hval
   by_cases ho : 9223372036854775808 < valL d.data.toList
   ·rw [if_pos ho] at hn2 he2
    subst hn2; subst he2
    rw [decide_eq_true ho] at hov
    clear ho
    by_cases c1 : 19 < d.size
    ·have c1' : (19 : Int) < d.size := by omega
     clear hov
     go_wp2
     go_ret2
     exact ⟨rfl, Below.refl _ _⟩
    ·have c2 : d.size = 19 := by
      by_cases q : d.size = 19
      ·exact q
      ·rw [decide_eq_false c1, decide_eq_false q] at hov; simp at hov
     rw [decide_eq_false c1, decide_eq_true c2] at hov
     simp only [Bool.false_or, Bool.true_and, Bool.and_eq_true, Bool.not_eq_true'] at hov
     obtain ⟨q1, q2⟩ := hov
     rw [← ByteArray.toList_eq] at q1 q2
     have c1' : ¬ (19 : Int) < d.size := by omega
     have c2' : ((d.size : Int) == 19) = true := by rw [beq_iff_eq]; omega
     have c3' : ¬ d.toList = [57, 50, 50, 51, 51, 55, 50, 48, 51, 54, 56, 53, 52, 55, 55, 53, 56, 48, 56] := by simpa using q2
     clear c2 c1
     go_wp2
     go_ret2
     exact ⟨rfl, Below.refl _ _⟩
   ·rw [if_neg ho] at hn2 he2
    subst he2
    rw [decide_eq_false ho] at hov
    have HL := Lib.hid (show valL d.data.toList ≤ 9223372036854775808 by omega)
    have HN := Lib.hid hn2.symm
    clear hn2 ho
    by_cases c2 : d.size = 19
    ·rw [decide_eq_true c2, decide_eq_false (show ¬ 19 < d.size by omega)] at hov
     rw [← ByteArray.toList_eq] at hov
     have c1' : ¬ (19 : Int) < d.size := by omega
     have c2' : ((d.size : Int) == 19) = true := by rw [beq_iff_eq]; omega
     simp only [Bool.false_or, Bool.true_and] at hov
     have hcase : Op.bytesLess d.toList [57, 50, 50, 51, 51, 55, 50, 48, 51, 54, 56, 53, 52, 55, 55, 53, 56, 48, 56] = true ∨ (Op.bytesLess d.toList [57, 50, 50, 51, 51, 55, 50, 48, 51, 54, 56, 53, 52, 55, 55, 53, 56, 48, 56] = false ∧ d.toList = [57, 50, 50, 51, 51, 55, 50, 48, 51, 54, 56, 53, 52, 55, 55, 53, 56, 48, 56]) := by
      cases hq : Op.bytesLess d.toList [57, 50, 50, 51, 51, 55, 50, 48, 51, 54, 56, 53, 52, 55, 55, 53, 56, 48, 56]
      ·right; rw [hq] at hov; refine ⟨rfl, ?_⟩; simpa using hov
      ·left; rfl
     clear hov c2
     rcases hcase with q1 | ⟨q1, q2⟩
     ·have q3 : ¬ d.toList = [57, 50, 50, 51, 51, 55, 50, 48, 51, 54, 56, 53, 52, 55, 55, 53, 56, 48, 56] := by intro e; rw [e] at q1; exact absurd q1 (by decide)
      go_wp2
      go_loop [7, 8] (fun q i => ∃ (k : Nat) (vi : Int), k ≤ d.size ∧ i = .int .i64 k ∧ q = .int .u64 vi ∧ vi = (valL (d.data.toList.take k) : Nat)) (fun _ i => d.size - (intOf i).toNat)
      case atStart => exact ⟨0, 0, by omega, rfl, rfl, rfl⟩
      case round =>
       obtain ⟨k, vi, hk, rfl, rfl, hv⟩ := hrel
       have hv0 : 0 ≤ vi := by omega
       have hvM : vi ≤ 9223372036854775808 := by have := valL_take_le d k; have := HL.out; omega
       have HV := Lib.hid hv
       clear hv
       by_cases hlt : k < d.size
       ·have hc := all_at d HALL.out k hlt
        have hS2 : ((valL (d.data.toList.take (k + 1)) : Nat) : Int) = vi * 10 + ((d[k].toNat : Int)) - 48 := by
         rw [take_snoc d k hlt, valL_snoc, HV.out]; omega
        have hvn : vi * 10 + (d[k].toNat : Int) - 48 ≤ 9223372036854775808 := by have := valL_take_le d (k + 1); have := HL.out; omega
        have HS := Lib.hid hS2
        clear hS2
        obtain ⟨c1, c2⟩ := hc
        have c1' : 48 ≤ (d[k].toNat : Int) := by omega
        have c2' : (d[k].toNat : Int) ≤ 57 := by omega
        clear c1 c2
        go_wp2
        go_round
        case rel => exact ⟨k + 1, _, by omega, by go_num, rfl, HS.out.symm⟩
        case measure => simp [intOf]; omega
       ·have hvv : vi = (valL d.data.toList : Nat) := by
         have hv := HV.out
         rwa [List.take_of_length_le (by rw [size_list]; omega)] at hv
        have G1 := Lib.hid (fun w => of_dx (wrap64 vi) vi w (by rw [hvv]; exact back64 _ HL.out))
        have G2 := Lib.hid (fun w => minus_dx vi _ w (by rw [hvv]; exact in64 _ HL.out) rfl)
        have G3 := Lib.hid (fun w => number_dx _ n w (in64m (18446744073709551616 - vi)) (by rw [← HN.out, ← hvv]; unfold wrap64; omega))
        generalize (18446744073709551616 - vi) % 18446744073709551616 = z at *
        clear hvv
        go_wp2_with fail
        refine (G1.out _).mono ?_
        rintro e w1 ⟨rfl, hb1⟩
        go_wp2_with fail
        refine (G2.out _).mono ?_
        rintro e w2 ⟨rfl, hb2⟩
        go_wp2_with fail
        refine (G3.out _).mono ?_
        rintro e w3 ⟨rfl, hb3⟩
        go_wp2
        go_ret2
        exact ⟨rfl, below_step (below_step hb1 hb2) hb3⟩
     ·have q4 : (d.toList == [57, 50, 50, 51, 51, 55, 50, 48, 51, 54, 56, 53, 52, 55, 55, 53, 56, 48, 56]) = true := by simpa using q2
      go_wp2
      go_loop [7, 8] (fun q i => ∃ (k : Nat) (vi : Int), k ≤ d.size ∧ i = .int .i64 k ∧ q = .int .u64 vi ∧ vi = (valL (d.data.toList.take k) : Nat)) (fun _ i => d.size - (intOf i).toNat)
      case atStart => exact ⟨0, 0, by omega, rfl, rfl, rfl⟩
      case round =>
       obtain ⟨k, vi, hk, rfl, rfl, hv⟩ := hrel
       have hv0 : 0 ≤ vi := by omega
       have hvM : vi ≤ 9223372036854775808 := by have := valL_take_le d k; have := HL.out; omega
       have HV := Lib.hid hv
       clear hv
       by_cases hlt : k < d.size
       ·have hc := all_at d HALL.out k hlt
        have hS2 : ((valL (d.data.toList.take (k + 1)) : Nat) : Int) = vi * 10 + ((d[k].toNat : Int)) - 48 := by
         rw [take_snoc d k hlt, valL_snoc, HV.out]; omega
        have hvn : vi * 10 + (d[k].toNat : Int) - 48 ≤ 9223372036854775808 := by have := valL_take_le d (k + 1); have := HL.out; omega
        have HS := Lib.hid hS2
        clear hS2
        obtain ⟨c1, c2⟩ := hc
        have c1' : 48 ≤ (d[k].toNat : Int) := by omega
        have c2' : (d[k].toNat : Int) ≤ 57 := by omega
        clear c1 c2
        go_wp2
        go_round
        case rel => exact ⟨k + 1, _, by omega, by go_num, rfl, HS.out.symm⟩
        case measure => simp [intOf]; omega
       ·have hvv : vi = (valL d.data.toList : Nat) := by
         have hv := HV.out
         rwa [List.take_of_length_le (by rw [size_list]; omega)] at hv
        have G1 := Lib.hid (fun w => of_dx (wrap64 vi) vi w (by rw [hvv]; exact back64 _ HL.out))
        have G2 := Lib.hid (fun w => minus_dx vi _ w (by rw [hvv]; exact in64 _ HL.out) rfl)
        have G3 := Lib.hid (fun w => number_dx _ n w (in64m (18446744073709551616 - vi)) (by rw [← HN.out, ← hvv]; unfold wrap64; omega))
        generalize (18446744073709551616 - vi) % 18446744073709551616 = z at *
        clear hvv
        go_wp2_with fail
        refine (G1.out _).mono ?_
        rintro e w1 ⟨rfl, hb1⟩
        go_wp2_with fail
        refine (G2.out _).mono ?_
        rintro e w2 ⟨rfl, hb2⟩
        go_wp2_with fail
        refine (G3.out _).mono ?_
        rintro e w3 ⟨rfl, hb3⟩
        go_wp2
        go_ret2
        exact ⟨rfl, below_step (below_step hb1 hb2) hb3⟩
    ·have c1' : ¬ (19 : Int) < d.size := by
      intro c; have c' : 19 < d.size := by omega
      rw [decide_eq_true c'] at hov; simp at hov
     have c2' : ((d.size : Int) == 19) = false := by rw [beq_eq_false_iff_ne]; omega
     clear hov c2
     go_wp2
     go_loop [7, 8] (fun q i => ∃ (k : Nat) (vi : Int), k ≤ d.size ∧ i = .int .i64 k ∧ q = .int .u64 vi ∧ vi = (valL (d.data.toList.take k) : Nat)) (fun _ i => d.size - (intOf i).toNat)
     case atStart => exact ⟨0, 0, by omega, rfl, rfl, rfl⟩
     case round =>
      obtain ⟨k, vi, hk, rfl, rfl, hv⟩ := hrel
      have hv0 : 0 ≤ vi := by omega
      have hvM : vi ≤ 9223372036854775808 := by have := valL_take_le d k; have := HL.out; omega
      have HV := Lib.hid hv
      clear hv
      by_cases hlt : k < d.size
      ·have hc := all_at d HALL.out k hlt
       have hS2 : ((valL (d.data.toList.take (k + 1)) : Nat) : Int) = vi * 10 + ((d[k].toNat : Int)) - 48 := by
        rw [take_snoc d k hlt, valL_snoc, HV.out]; omega
       have hvn : vi * 10 + (d[k].toNat : Int) - 48 ≤ 9223372036854775808 := by have := valL_take_le d (k + 1); have := HL.out; omega
       have HS := Lib.hid hS2
       clear hS2
       obtain ⟨c1, c2⟩ := hc
       have c1' : 48 ≤ (d[k].toNat : Int) := by omega
       have c2' : (d[k].toNat : Int) ≤ 57 := by omega
       clear c1 c2
       go_wp2
       go_round
       case rel => exact ⟨k + 1, _, by omega, by go_num, rfl, HS.out.symm⟩
       case measure => simp [intOf]; omega
      ·have hvv : vi = (valL d.data.toList : Nat) := by
        have hv := HV.out
        rwa [List.take_of_length_le (by rw [size_list]; omega)] at hv
       have G1 := Lib.hid (fun w => of_dx (wrap64 vi) vi w (by rw [hvv]; exact back64 _ HL.out))
       have G2 := Lib.hid (fun w => minus_dx vi _ w (by rw [hvv]; exact in64 _ HL.out) rfl)
       have G3 := Lib.hid (fun w => number_dx _ n w (in64m (18446744073709551616 - vi)) (by rw [← HN.out, ← hvv]; unfold wrap64; omega))
       generalize (18446744073709551616 - vi) % 18446744073709551616 = z at *
       clear hvv
       go_wp2_with fail
       refine (G1.out _).mono ?_
       rintro e w1 ⟨rfl, hb1⟩
       go_wp2_with fail
       refine (G2.out _).mono ?_
       rintro e w2 ⟨rfl, hb2⟩
       go_wp2_with fail
       refine (G3.out _).mono ?_
       rintro e w3 ⟨rfl, hb3⟩
       go_wp2
       go_ret2
       exact ⟨rfl, below_step (below_step hb1 hb2) hb3⟩

set_option maxRecDepth 100000 in
set_option maxHeartbeats 1000000 in
theorem rparse_plainA (s : ByteArray) (w : World) (hs : s.size ≤ 100000) (h0 : 0 < s.size) (hm : ((s[0].toNat : Int) == 45) = false) (hz : ((s[0].toNat : Int) == 48) = false)
  (hh : Hid (s.data.toList.headD 0 ≠ 48 ∨ s.data.toList.length ≤ 1))
  (n e : Int) (hn : Hid (n = if s.data.toList.all digB then (if 9223372036854775807 < valL s.data.toList then 0 else (valL s.data.toList : Int)) else 0))
  (he : Hid (e = if s.data.toList.all digB then (if 9223372036854775807 < valL s.data.toList then 14 else 0) else 2)) :
  Calls Tryz.prog 55 #[.string s] w fun x w' => x = .returned (.tuple #[.int .i64 n, .int .i64 e]) ∧ Below w.heap.size w w' := by
 have h0' : (0 : Int) < s.size := by omega
 have g1 : ((s.size : Int) == 0) = false := by rw [beq_eq_false_iff_ne]; omega
 go_enter Tryz.func55, Tryz.ntmps55
 go_wp2
 go_loop [5] (fun i => ∃ k : Nat, k ≤ s.size ∧ i = .int .i64 k ∧ (s.data.toList.take k).all digB = true) (fun i => s.size - (intOf i).toNat)
 case atStart => exact ⟨0, by omega, rfl, rfl⟩
 case round =>
  obtain ⟨k, hk, rfl, hall⟩ := hrel
  have HA := Lib.hid hall
  clear hall
  by_cases hlt : k < s.size
  ·by_cases hbad : s[k].toNat < 48 ∨ 57 < s[k].toNat
   ·have hdd : digB s[k] = false := by unfold digB; simp; omega
    have hf := all_split s k hlt hdd
    have hn2 := hn.out
    have he2 := he.out
    rw [hf] at hn2 he2
    simp only [Bool.false_eq_true, if_false] at hn2 he2
    subst hn2; subst he2
    clear hn he hdd hf
    rcases hbad with hlo | hhi
    ·have hlo' : (s[k].toNat : Int) < 48 := by omega
     go_wp2
     go_ret2
     exact ⟨rfl, Below.refl _ _⟩
    ·have hlo' : ¬ (s[k].toNat : Int) < 48 := by omega
     have hhi' : 57 < (s[k].toNat : Int) := by omega
     go_wp2
     go_ret2
     exact ⟨rfl, Below.refl _ _⟩
   ·have hdd : digB s[k] = true := by unfold digB; simp; omega
    have HS := Lib.hid (show (s.data.toList.take (k + 1)).all digB = true by rw [take_snoc s k hlt, List.all_append, HA.out]; simp [hdd])
    clear hdd
    have hlo' : ¬ (s[k].toNat : Int) < 48 := by omega
    have hhi' : ¬ 57 < (s[k].toNat : Int) := by omega
    clear hbad
    go_wp2
    go_round
    case rel => exact ⟨k + 1, by omega, by go_num, HS.out⟩
    case measure => simp [intOf]; omega
  ·obtain rfl : k = s.size := by omega
   have hall : s.data.toList.all digB = true := by
    have ha := HA.out
    rwa [List.take_of_length_le (by rw [size_list]; omega)] at ha
   have hov := over19 s.data.toList [57, 50, 50, 51, 51, 55, 50, 48, 51, 54, 56, 53, 52, 55, 55, 53, 56, 48, 55] hall (by decide) rfl hh.out (by decide) (by decide)
   have hval : valL [57, 50, 50, 51, 51, 55, 50, 48, 51, 54, 56, 53, 52, 55, 55, 53, 56, 48, 55] = 9223372036854775807 := by decide
   rw [hval, size_list] at hov
   have hn2 := hn.out
   have he2 := he.out
   rw [hall] at hn2 he2
   simp only [if_true] at hn2 he2
   have HALL := Lib.hid hall
   clear hn he HA hall hval
   by_cases ho : 9223372036854775807 < valL s.data.toList
   ·rw [if_pos ho] at hn2 he2
    subst hn2; subst he2
    rw [decide_eq_true ho] at hov
    clear ho
    by_cases c1 : 19 < s.size
    ·have c1' : (19 : Int) < s.size := by omega
     clear hov
     go_wp2
     go_ret2
     exact ⟨rfl, Below.refl _ _⟩
    ·have c2 : s.size = 19 := by
      by_cases q : s.size = 19
      ·exact q
      ·rw [decide_eq_false c1, decide_eq_false q] at hov; simp at hov
     rw [decide_eq_false c1, decide_eq_true c2] at hov
     simp only [Bool.false_or, Bool.true_and, Bool.and_eq_true, Bool.not_eq_true'] at hov
     obtain ⟨q1, q2⟩ := hov
     rw [← ByteArray.toList_eq] at q1 q2
     have c1' : ¬ (19 : Int) < s.size := by omega
     have c2' : ((s.size : Int) == 19) = true := by rw [beq_iff_eq]; omega
     have c3' : ¬ s.toList = [57, 50, 50, 51, 51, 55, 50, 48, 51, 54, 56, 53, 52, 55, 55, 53, 56, 48, 55] := by simpa using q2
     clear c2 c1
     go_wp2
     go_ret2
     exact ⟨rfl, Below.refl _ _⟩
   ·rw [if_neg ho] at hn2 he2
    subst he2
    rw [decide_eq_false ho] at hov
    have HL := Lib.hid (show valL s.data.toList ≤ 9223372036854775807 by omega)
    have HN := Lib.hid hn2.symm
    clear hn2 ho
    by_cases c2 : s.size = 19
    ·rw [decide_eq_true c2, decide_eq_false (show ¬ 19 < s.size by omega)] at hov
     rw [← ByteArray.toList_eq] at hov
     have c1' : ¬ (19 : Int) < s.size := by omega
     have c2' : ((s.size : Int) == 19) = true := by rw [beq_iff_eq]; omega
     simp only [Bool.false_or, Bool.true_and] at hov
     have hcase : Op.bytesLess s.toList [57, 50, 50, 51, 51, 55, 50, 48, 51, 54, 56, 53, 52, 55, 55, 53, 56, 48, 55] = true ∨ (Op.bytesLess s.toList [57, 50, 50, 51, 51, 55, 50, 48, 51, 54, 56, 53, 52, 55, 55, 53, 56, 48, 55] = false ∧ s.toList = [57, 50, 50, 51, 51, 55, 50, 48, 51, 54, 56, 53, 52, 55, 55, 53, 56, 48, 55]) := by
      cases hq : Op.bytesLess s.toList [57, 50, 50, 51, 51, 55, 50, 48, 51, 54, 56, 53, 52, 55, 55, 53, 56, 48, 55]
      ·right; rw [hq] at hov; refine ⟨rfl, ?_⟩; simpa using hov
      ·left; rfl
     clear hov c2
     rcases hcase with q1 | ⟨q1, q2⟩
     ·have q3 : ¬ s.toList = [57, 50, 50, 51, 51, 55, 50, 48, 51, 54, 56, 53, 52, 55, 55, 53, 56, 48, 55] := by intro e; rw [e] at q1; exact absurd q1 (by decide)
      go_wp2
      go_loop [7, 8] (fun q i => ∃ (k : Nat) (vi : Int), k ≤ s.size ∧ i = .int .i64 k ∧ q = .int .u64 vi ∧ vi = (valL (s.data.toList.take k) : Nat)) (fun _ i => s.size - (intOf i).toNat)
      case atStart => exact ⟨0, 0, by omega, rfl, rfl, rfl⟩
      case round =>
       obtain ⟨k, vi, hk, rfl, rfl, hv⟩ := hrel
       have hv0 : 0 ≤ vi := by omega
       have hvM : vi ≤ 9223372036854775807 := by have := valL_take_le s k; have := HL.out; omega
       have HV := Lib.hid hv
       clear hv
       by_cases hlt : k < s.size
       ·have hc := all_at s HALL.out k hlt
        have hS2 : ((valL (s.data.toList.take (k + 1)) : Nat) : Int) = vi * 10 + ((s[k].toNat : Int)) - 48 := by
         rw [take_snoc s k hlt, valL_snoc, HV.out]; omega
        have hvn : vi * 10 + (s[k].toNat : Int) - 48 ≤ 9223372036854775807 := by have := valL_take_le s (k + 1); have := HL.out; omega
        have HS := Lib.hid hS2
        clear hS2
        obtain ⟨c1, c2⟩ := hc
        have c1' : 48 ≤ (s[k].toNat : Int) := by omega
        have c2' : (s[k].toNat : Int) ≤ 57 := by omega
        clear c1 c2
        go_wp2
        go_round
        case rel => exact ⟨k + 1, _, by omega, by go_num, rfl, HS.out.symm⟩
        case measure => simp [intOf]; omega
       ·obtain rfl : vi = n := by
         have hv := HV.out
         rw [List.take_of_length_le (by rw [size_list]; omega)] at hv
         rw [hv]; exact HN.out
        go_wp2
        go_ret2
        exact ⟨rfl, Below.refl _ _⟩
     ·have q4 : (s.toList == [57, 50, 50, 51, 51, 55, 50, 48, 51, 54, 56, 53, 52, 55, 55, 53, 56, 48, 55]) = true := by simpa using q2
      go_wp2
      go_loop [7, 8] (fun q i => ∃ (k : Nat) (vi : Int), k ≤ s.size ∧ i = .int .i64 k ∧ q = .int .u64 vi ∧ vi = (valL (s.data.toList.take k) : Nat)) (fun _ i => s.size - (intOf i).toNat)
      case atStart => exact ⟨0, 0, by omega, rfl, rfl, rfl⟩
      case round =>
       obtain ⟨k, vi, hk, rfl, rfl, hv⟩ := hrel
       have hv0 : 0 ≤ vi := by omega
       have hvM : vi ≤ 9223372036854775807 := by have := valL_take_le s k; have := HL.out; omega
       have HV := Lib.hid hv
       clear hv
       by_cases hlt : k < s.size
       ·have hc := all_at s HALL.out k hlt
        have hS2 : ((valL (s.data.toList.take (k + 1)) : Nat) : Int) = vi * 10 + ((s[k].toNat : Int)) - 48 := by
         rw [take_snoc s k hlt, valL_snoc, HV.out]; omega
        have hvn : vi * 10 + (s[k].toNat : Int) - 48 ≤ 9223372036854775807 := by have := valL_take_le s (k + 1); have := HL.out; omega
        have HS := Lib.hid hS2
        clear hS2
        obtain ⟨c1, c2⟩ := hc
        have c1' : 48 ≤ (s[k].toNat : Int) := by omega
        have c2' : (s[k].toNat : Int) ≤ 57 := by omega
        clear c1 c2
        go_wp2
        go_round
        case rel => exact ⟨k + 1, _, by omega, by go_num, rfl, HS.out.symm⟩
        case measure => simp [intOf]; omega
       ·obtain rfl : vi = n := by
         have hv := HV.out
         rw [List.take_of_length_le (by rw [size_list]; omega)] at hv
         rw [hv]; exact HN.out
        go_wp2
        go_ret2
        exact ⟨rfl, Below.refl _ _⟩
    ·have c1' : ¬ (19 : Int) < s.size := by
      intro c; have c' : 19 < s.size := by omega
      rw [decide_eq_true c'] at hov; simp at hov
     have c2' : ((s.size : Int) == 19) = false := by rw [beq_eq_false_iff_ne]; omega
     clear hov c2
     go_wp2
     go_loop [7, 8] (fun q i => ∃ (k : Nat) (vi : Int), k ≤ s.size ∧ i = .int .i64 k ∧ q = .int .u64 vi ∧ vi = (valL (s.data.toList.take k) : Nat)) (fun _ i => s.size - (intOf i).toNat)
     case atStart => exact ⟨0, 0, by omega, rfl, rfl, rfl⟩
     case round =>
      obtain ⟨k, vi, hk, rfl, rfl, hv⟩ := hrel
      have hv0 : 0 ≤ vi := by omega
      have hvM : vi ≤ 9223372036854775807 := by have := valL_take_le s k; have := HL.out; omega
      have HV := Lib.hid hv
      clear hv
      by_cases hlt : k < s.size
      ·have hc := all_at s HALL.out k hlt
       have hS2 : ((valL (s.data.toList.take (k + 1)) : Nat) : Int) = vi * 10 + ((s[k].toNat : Int)) - 48 := by
        rw [take_snoc s k hlt, valL_snoc, HV.out]; omega
       have hvn : vi * 10 + (s[k].toNat : Int) - 48 ≤ 9223372036854775807 := by have := valL_take_le s (k + 1); have := HL.out; omega
       have HS := Lib.hid hS2
       clear hS2
       obtain ⟨c1, c2⟩ := hc
       have c1' : 48 ≤ (s[k].toNat : Int) := by omega
       have c2' : (s[k].toNat : Int) ≤ 57 := by omega
       clear c1 c2
       go_wp2
       go_round
       case rel => exact ⟨k + 1, _, by omega, by go_num, rfl, HS.out.symm⟩
       case measure => simp [intOf]; omega
      ·obtain rfl : vi = n := by
        have hv := HV.out
        rw [List.take_of_length_le (by rw [size_list]; omega)] at hv
        rw [hv]; exact HN.out
       go_wp2
       go_ret2
       exact ⟨rfl, Below.refl _ _⟩

set_option maxRecDepth 100000 in
set_option maxHeartbeats 1000000 in
theorem rparse_plainB (s : ByteArray) (w : World) (hs : s.size ≤ 100000) (h0 : 0 < s.size) (hm : ((s[0].toNat : Int) == 45) = false) (hz : ((s[0].toNat : Int) == 48) = true) (hone : ¬ 1 < s.size)
  (hh : Hid (s.data.toList.headD 0 ≠ 48 ∨ s.data.toList.length ≤ 1))
  (n e : Int) (hn : Hid (n = if s.data.toList.all digB then (if 9223372036854775807 < valL s.data.toList then 0 else (valL s.data.toList : Int)) else 0))
  (he : Hid (e = if s.data.toList.all digB then (if 9223372036854775807 < valL s.data.toList then 14 else 0) else 2)) :
  Calls Tryz.prog 55 #[.string s] w fun x w' => x = .returned (.tuple #[.int .i64 n, .int .i64 e]) ∧ Below w.heap.size w w' := by
 have h0' : (0 : Int) < s.size := by omega
 have g1 : ((s.size : Int) == 0) = false := by rw [beq_eq_false_iff_ne]; omega
 have g4 : ¬ (1 : Int) < s.size := by omega
 go_enter Tryz.func55, Tryz.ntmps55
 go_wp2
 go_loop [5] (fun i => ∃ k : Nat, k ≤ s.size ∧ i = .int .i64 k ∧ (s.data.toList.take k).all digB = true) (fun i => s.size - (intOf i).toNat)
 case atStart => exact ⟨0, by omega, rfl, rfl⟩
 case round =>
  obtain ⟨k, hk, rfl, hall⟩ := hrel
  have HA := Lib.hid hall
  clear hall
  by_cases hlt : k < s.size
  ·by_cases hbad : s[k].toNat < 48 ∨ 57 < s[k].toNat
   ·have hdd : digB s[k] = false := by unfold digB; simp; omega
    have hf := all_split s k hlt hdd
    have hn2 := hn.out
    have he2 := he.out
    rw [hf] at hn2 he2
    simp only [Bool.false_eq_true, if_false] at hn2 he2
    subst hn2; subst he2
    clear hn he hdd hf
    rcases hbad with hlo | hhi
    ·have hlo' : (s[k].toNat : Int) < 48 := by omega
     go_wp2
     go_ret2
     exact ⟨rfl, Below.refl _ _⟩
    ·have hlo' : ¬ (s[k].toNat : Int) < 48 := by omega
     have hhi' : 57 < (s[k].toNat : Int) := by omega
     go_wp2
     go_ret2
     exact ⟨rfl, Below.refl _ _⟩
   ·have hdd : digB s[k] = true := by unfold digB; simp; omega
    have HS := Lib.hid (show (s.data.toList.take (k + 1)).all digB = true by rw [take_snoc s k hlt, List.all_append, HA.out]; simp [hdd])
    clear hdd
    have hlo' : ¬ (s[k].toNat : Int) < 48 := by omega
    have hhi' : ¬ 57 < (s[k].toNat : Int) := by omega
    clear hbad
    go_wp2
    go_round
    case rel => exact ⟨k + 1, by omega, by go_num, HS.out⟩
    case measure => simp [intOf]; omega
  ·obtain rfl : k = s.size := by omega
   have hall : s.data.toList.all digB = true := by
    have ha := HA.out
    rwa [List.take_of_length_le (by rw [size_list]; omega)] at ha
   have hov := over19 s.data.toList [57, 50, 50, 51, 51, 55, 50, 48, 51, 54, 56, 53, 52, 55, 55, 53, 56, 48, 55] hall (by decide) rfl hh.out (by decide) (by decide)
   have hval : valL [57, 50, 50, 51, 51, 55, 50, 48, 51, 54, 56, 53, 52, 55, 55, 53, 56, 48, 55] = 9223372036854775807 := by decide
   rw [hval, size_list] at hov
   have hn2 := hn.out
   have he2 := he.out
   rw [hall] at hn2 he2
   simp only [if_true] at hn2 he2
   have HALL := Lib.hid hall
   clear hn he HA hall hval
   by_cases ho : 9223372036854775807 < valL s.data.toList
   ·rw [if_pos ho] at hn2 he2
    subst hn2; subst he2
    rw [decide_eq_true ho] at hov
    clear ho
    by_cases c1 : 19 < s.size
    ·have c1' : (19 : Int) < s.size := by omega
     clear hov
     go_wp2
     go_ret2
     exact ⟨rfl, Below.refl _ _⟩
    ·have c2 : s.size = 19 := by
      by_cases q : s.size = 19
      ·exact q
      ·rw [decide_eq_false c1, decide_eq_false q] at hov; simp at hov
     rw [decide_eq_false c1, decide_eq_true c2] at hov
     simp only [Bool.false_or, Bool.true_and, Bool.and_eq_true, Bool.not_eq_true'] at hov
     obtain ⟨q1, q2⟩ := hov
     rw [← ByteArray.toList_eq] at q1 q2
     have c1' : ¬ (19 : Int) < s.size := by omega
     have c2' : ((s.size : Int) == 19) = true := by rw [beq_iff_eq]; omega
     have c3' : ¬ s.toList = [57, 50, 50, 51, 51, 55, 50, 48, 51, 54, 56, 53, 52, 55, 55, 53, 56, 48, 55] := by simpa using q2
     clear c2 c1
     go_wp2
     go_ret2
     exact ⟨rfl, Below.refl _ _⟩
   ·rw [if_neg ho] at hn2 he2
    subst he2
    rw [decide_eq_false ho] at hov
    have HL := Lib.hid (show valL s.data.toList ≤ 9223372036854775807 by omega)
    have HN := Lib.hid hn2.symm
    clear hn2 ho
    by_cases c2 : s.size = 19
    ·rw [decide_eq_true c2, decide_eq_false (show ¬ 19 < s.size by omega)] at hov
     rw [← ByteArray.toList_eq] at hov
     have c1' : ¬ (19 : Int) < s.size := by omega
     have c2' : ((s.size : Int) == 19) = true := by rw [beq_iff_eq]; omega
     simp only [Bool.false_or, Bool.true_and] at hov
     have hcase : Op.bytesLess s.toList [57, 50, 50, 51, 51, 55, 50, 48, 51, 54, 56, 53, 52, 55, 55, 53, 56, 48, 55] = true ∨ (Op.bytesLess s.toList [57, 50, 50, 51, 51, 55, 50, 48, 51, 54, 56, 53, 52, 55, 55, 53, 56, 48, 55] = false ∧ s.toList = [57, 50, 50, 51, 51, 55, 50, 48, 51, 54, 56, 53, 52, 55, 55, 53, 56, 48, 55]) := by
      cases hq : Op.bytesLess s.toList [57, 50, 50, 51, 51, 55, 50, 48, 51, 54, 56, 53, 52, 55, 55, 53, 56, 48, 55]
      ·right; rw [hq] at hov; refine ⟨rfl, ?_⟩; simpa using hov
      ·left; rfl
     clear hov c2
     rcases hcase with q1 | ⟨q1, q2⟩
     ·have q3 : ¬ s.toList = [57, 50, 50, 51, 51, 55, 50, 48, 51, 54, 56, 53, 52, 55, 55, 53, 56, 48, 55] := by intro e; rw [e] at q1; exact absurd q1 (by decide)
      go_wp2
      go_loop [7, 8] (fun q i => ∃ (k : Nat) (vi : Int), k ≤ s.size ∧ i = .int .i64 k ∧ q = .int .u64 vi ∧ vi = (valL (s.data.toList.take k) : Nat)) (fun _ i => s.size - (intOf i).toNat)
      case atStart => exact ⟨0, 0, by omega, rfl, rfl, rfl⟩
      case round =>
       obtain ⟨k, vi, hk, rfl, rfl, hv⟩ := hrel
       have hv0 : 0 ≤ vi := by omega
       have hvM : vi ≤ 9223372036854775807 := by have := valL_take_le s k; have := HL.out; omega
       have HV := Lib.hid hv
       clear hv
       by_cases hlt : k < s.size
       ·have hc := all_at s HALL.out k hlt
        have hS2 : ((valL (s.data.toList.take (k + 1)) : Nat) : Int) = vi * 10 + ((s[k].toNat : Int)) - 48 := by
         rw [take_snoc s k hlt, valL_snoc, HV.out]; omega
        have hvn : vi * 10 + (s[k].toNat : Int) - 48 ≤ 9223372036854775807 := by have := valL_take_le s (k + 1); have := HL.out; omega
        have HS := Lib.hid hS2
        clear hS2
        obtain ⟨c1, c2⟩ := hc
        have c1' : 48 ≤ (s[k].toNat : Int) := by omega
        have c2' : (s[k].toNat : Int) ≤ 57 := by omega
        clear c1 c2
        go_wp2
        go_round
        case rel => exact ⟨k + 1, _, by omega, by go_num, rfl, HS.out.symm⟩
        case measure => simp [intOf]; omega
       ·obtain rfl : vi = n := by
         have hv := HV.out
         rw [List.take_of_length_le (by rw [size_list]; omega)] at hv
         rw [hv]; exact HN.out
        go_wp2
        go_ret2
        exact ⟨rfl, Below.refl _ _⟩
     ·have q4 : (s.toList == [57, 50, 50, 51, 51, 55, 50, 48, 51, 54, 56, 53, 52, 55, 55, 53, 56, 48, 55]) = true := by simpa using q2
      go_wp2
      go_loop [7, 8] (fun q i => ∃ (k : Nat) (vi : Int), k ≤ s.size ∧ i = .int .i64 k ∧ q = .int .u64 vi ∧ vi = (valL (s.data.toList.take k) : Nat)) (fun _ i => s.size - (intOf i).toNat)
      case atStart => exact ⟨0, 0, by omega, rfl, rfl, rfl⟩
      case round =>
       obtain ⟨k, vi, hk, rfl, rfl, hv⟩ := hrel
       have hv0 : 0 ≤ vi := by omega
       have hvM : vi ≤ 9223372036854775807 := by have := valL_take_le s k; have := HL.out; omega
       have HV := Lib.hid hv
       clear hv
       by_cases hlt : k < s.size
       ·have hc := all_at s HALL.out k hlt
        have hS2 : ((valL (s.data.toList.take (k + 1)) : Nat) : Int) = vi * 10 + ((s[k].toNat : Int)) - 48 := by
         rw [take_snoc s k hlt, valL_snoc, HV.out]; omega
        have hvn : vi * 10 + (s[k].toNat : Int) - 48 ≤ 9223372036854775807 := by have := valL_take_le s (k + 1); have := HL.out; omega
        have HS := Lib.hid hS2
        clear hS2
        obtain ⟨c1, c2⟩ := hc
        have c1' : 48 ≤ (s[k].toNat : Int) := by omega
        have c2' : (s[k].toNat : Int) ≤ 57 := by omega
        clear c1 c2
        go_wp2
        go_round
        case rel => exact ⟨k + 1, _, by omega, by go_num, rfl, HS.out.symm⟩
        case measure => simp [intOf]; omega
       ·obtain rfl : vi = n := by
         have hv := HV.out
         rw [List.take_of_length_le (by rw [size_list]; omega)] at hv
         rw [hv]; exact HN.out
        go_wp2
        go_ret2
        exact ⟨rfl, Below.refl _ _⟩
    ·have c1' : ¬ (19 : Int) < s.size := by
      intro c; have c' : 19 < s.size := by omega
      rw [decide_eq_true c'] at hov; simp at hov
     have c2' : ((s.size : Int) == 19) = false := by rw [beq_eq_false_iff_ne]; omega
     clear hov c2
     go_wp2
     go_loop [7, 8] (fun q i => ∃ (k : Nat) (vi : Int), k ≤ s.size ∧ i = .int .i64 k ∧ q = .int .u64 vi ∧ vi = (valL (s.data.toList.take k) : Nat)) (fun _ i => s.size - (intOf i).toNat)
     case atStart => exact ⟨0, 0, by omega, rfl, rfl, rfl⟩
     case round =>
      obtain ⟨k, vi, hk, rfl, rfl, hv⟩ := hrel
      have hv0 : 0 ≤ vi := by omega
      have hvM : vi ≤ 9223372036854775807 := by have := valL_take_le s k; have := HL.out; omega
      have HV := Lib.hid hv
      clear hv
      by_cases hlt : k < s.size
      ·have hc := all_at s HALL.out k hlt
       have hS2 : ((valL (s.data.toList.take (k + 1)) : Nat) : Int) = vi * 10 + ((s[k].toNat : Int)) - 48 := by
        rw [take_snoc s k hlt, valL_snoc, HV.out]; omega
       have hvn : vi * 10 + (s[k].toNat : Int) - 48 ≤ 9223372036854775807 := by have := valL_take_le s (k + 1); have := HL.out; omega
       have HS := Lib.hid hS2
       clear hS2
       obtain ⟨c1, c2⟩ := hc
       have c1' : 48 ≤ (s[k].toNat : Int) := by omega
       have c2' : (s[k].toNat : Int) ≤ 57 := by omega
       clear c1 c2
       go_wp2
       go_round
       case rel => exact ⟨k + 1, _, by omega, by go_num, rfl, HS.out.symm⟩
       case measure => simp [intOf]; omega
      ·obtain rfl : vi = n := by
        have hv := HV.out
        rw [List.take_of_length_le (by rw [size_list]; omega)] at hv
        rw [hv]; exact HN.out
       go_wp2
       go_ret2
       exact ⟨rfl, Below.refl _ _⟩

set_option maxHeartbeats 400000 in
theorem rparse_empty (w : World) :
  Calls Tryz.prog 55 #[.string { data := #[] }] w fun e w' => e = .returned (.tuple #[.int .i64 0, .int .i64 2]) ∧ Below w.heap.size w w' := by
 go_enter Tryz.func55, Tryz.ntmps55
 go_wp2
 go_ret2
 exact ⟨rfl, Below.refl _ _⟩

set_option maxHeartbeats 400000 in
theorem rparse_bare (s d : ByteArray) (w : World) (h0 : 0 < s.size) (hm : ((s[0].toNat : Int) == 45) = true) (hd : s.extract 1 s.size = d) (hds : d.size = 0) :
  Calls Tryz.prog 55 #[.string s] w fun e w' => e = .returned (.tuple #[.int .i64 0, .int .i64 2]) ∧ Below w.heap.size w w' := by
 have h0' : (0 : Int) < s.size := by omega
 have g1 : ((d.size : Int) == 0) = true := by rw [beq_iff_eq]; omega
 go_enter Tryz.func55, Tryz.ntmps55
 go_wp2
 go_ret2
 exact ⟨rfl, Below.refl _ _⟩

set_option maxHeartbeats 400000 in
theorem rparse_nought (s d : ByteArray) (w : World) (h0 : 0 < s.size) (hm : ((s[0].toNat : Int) == 45) = true) (hd : s.extract 1 s.size = d) (h1 : 1 < s.size) (h0d : 0 < d.size) (hz : ((d[0].toNat : Int) == 48) = true) :
  Calls Tryz.prog 55 #[.string s] w fun e w' => e = .returned (.tuple #[.int .i64 0, .int .i64 2]) ∧ Below w.heap.size w w' := by
 have h0' : (0 : Int) < s.size := by omega
 have h1' : (1 : Int) < s.size := by omega
 have g1 : ((d.size : Int) == 0) = false := by rw [beq_eq_false_iff_ne]; omega
 have g2 : (0 : Int) < d.size := by omega
 go_enter Tryz.func55, Tryz.ntmps55
 go_wp2
 go_ret2
 exact ⟨rfl, Below.refl _ _⟩

set_option maxHeartbeats 400000 in
theorem rparse_noughts (s : ByteArray) (w : World) (h0 : 0 < s.size) (hm : ((s[0].toNat : Int) == 45) = false) (h1 : 1 < s.size) (hz : ((s[0].toNat : Int) == 48) = true) :
  Calls Tryz.prog 55 #[.string s] w fun e w' => e = .returned (.tuple #[.int .i64 0, .int .i64 2]) ∧ Below w.heap.size w w' := by
 have h0' : (0 : Int) < s.size := by omega
 have h1' : (1 : Int) < s.size := by omega
 have g1 : ((s.size : Int) == 0) = false := by rw [beq_eq_false_iff_ne]; omega
 go_enter Tryz.func55, Tryz.ntmps55
 go_wp2
 go_ret2
 exact ⟨rfl, Below.refl _ _⟩

theorem head48 (s : ByteArray) (h0 : 0 < s.size) : (s.data.toList.headD 0 == 48) = ((s[0].toNat : Int) == 48) := by
 rw [head_list s h0, Bool.eq_iff_iff]
 simp only [beq_iff_eq]
 constructor
 ·intro e; rw [e]; rfl
 ·intro e; exact UInt8.toNat_inj.1 (by have : (48 : UInt8).toNat = 48 := rfl; omega)

theorem rparse_any (s : ByteArray) (w : World) (hs : s.size ≤ 100000) :
  Calls Tryz.prog 55 #[.string s] w fun x w' => x = .returned (.tuple #[.int .i64 (parseN s.data.toList), .int .i64 (parseE s.data.toList)]) ∧ Below w.heap.size w w' := by
 by_cases h0 : 0 < s.size
 ·by_cases hm : ((s[0].toNat : Int) == 45) = true
  ·have hn := neg_true s h0 hm
   have hsz := extract_size s
   have hls := extract_list s
   have hb : body s.data.toList = (s.extract 1 s.size).data.toList := by unfold body; rw [hn, hls]; rfl
   have hgood : good s.data.toList = (isDec (s.extract 1 s.size).data.toList && !((s.extract 1 s.size).data.toList == [48])) := by
    unfold good; rw [hn, hb]; rfl
   have hM : mostOf (negB s.data.toList) = 9223372036854775808 := by rw [hn]; rfl
   obtain ⟨d, hd⟩ : ∃ d, s.extract 1 s.size = d := ⟨_, rfl⟩
   rw [hd] at hsz hls hb hgood
   by_cases hd0 : d.size = 0
   ·have e : d = { data := #[] } := empty_of d (by omega)
    have hg : good s.data.toList = false := by rw [hgood, e]; rfl
    unfold parseN parseE
    rw [hg]
    exact rparse_bare s d w h0 hm hd hd0
   ·have h0d : 0 < d.size := by omega
    by_cases hz : ((d[0].toNat : Int) == 48) = true
    ·have hg : good s.data.toList = false := by
      rw [hgood]
      have h48 := head48 d h0d
      rw [hz] at h48
      by_cases h1 : 1 < d.size
      ·unfold isDec; rw [h48, size_list, decide_eq_true h1]; simp
      ·have : d.data.toList = [48] := by
        have hl : d.data.toList.length = 1 := by rw [size_list]; omega
        cases hx : d.data.toList with
        | nil => rw [hx] at hl; simp at hl
        | cons c x =>
         rw [hx] at hl h48
         have hx0 : x = [] := List.length_eq_zero_iff.1 (by simpa using hl)
         subst hx0
         have : c = 48 := by simpa using h48
         rw [this]
       rw [this]; simp
     unfold parseN parseE
     rw [hg]
     exact rparse_nought s d w h0 hm hd (by omega) h0d hz
    ·have hz2 : ((d[0].toNat : Int) == 48) = false := by simpa using hz
     have h48 := head48 d h0d
     rw [hz2] at h48
     have hdec : isDec d.data.toList = d.data.toList.all digB := by unfold isDec; rw [h48, empty_list d h0d]; simp
     have hne : (d.data.toList == [48]) = false := by
      rw [beq_eq_false_iff_ne]; intro e; rw [e] at h48; exact absurd h48 (by decide)
     have hg : good s.data.toList = d.data.toList.all digB := by rw [hgood, hdec, hne]; simp
     refine rparse_minus s d w hs h0 hm hd (by omega) h0d hz2 (Or.inl (by simpa using h48)) _ _ ?_ ?_
     ·show _ = _
      unfold parseN; rw [hg, hM, hn, hb]; rfl
     ·show _ = _
      unfold parseE; rw [hg, hM, hb]
  ·have hm2 : ((s[0].toNat : Int) == 45) = false := by simpa using hm
   have hn := neg_false s h0 hm2
   have hb : body s.data.toList = s.data.toList := by unfold body; rw [hn]; rfl
   have hgood : good s.data.toList = isDec s.data.toList := by unfold good; rw [hn, hb]; simp
   have hM : mostOf (negB s.data.toList) = 9223372036854775807 := by rw [hn]; rfl
   have h48 := head48 s h0
   by_cases hz : ((s[0].toNat : Int) == 48) = true
   ·rw [hz] at h48
    by_cases h1 : 1 < s.size
    ·have hg : good s.data.toList = false := by
      rw [hgood]; unfold isDec; rw [h48, size_list, decide_eq_true h1]; simp
     unfold parseN parseE
     rw [hg]
     exact rparse_noughts s w h0 hm2 h1 hz
    ·have hdec : isDec s.data.toList = s.data.toList.all digB := by unfold isDec; rw [size_list, decide_eq_false h1, empty_list s h0]; simp
     refine rparse_plainB s w hs h0 hm2 hz h1 (Or.inr (by rw [size_list]; omega)) _ _ ?_ ?_
     ·show _ = _
      unfold parseN; rw [hgood, hdec, hM, hn, hb]; rfl
     ·show _ = _
      unfold parseE; rw [hgood, hdec, hM, hb]
   ·have hz2 : ((s[0].toNat : Int) == 48) = false := by simpa using hz
    rw [hz2] at h48
    have hdec : isDec s.data.toList = s.data.toList.all digB := by unfold isDec; rw [h48, empty_list s h0]; simp
    refine rparse_plainA s w hs h0 hm2 hz2 (Or.inl (by simpa using h48)) _ _ ?_ ?_
    ·show _ = _
     unfold parseN; rw [hgood, hdec, hM, hn, hb]; rfl
    ·show _ = _
     unfold parseE; rw [hgood, hdec, hM, hb]
 ·have e := empty_of s h0
  subst e
  exact rparse_empty w
end
end Go.Proofs.YtbknflaooemigaaGreat.Nm
