/-
 Contracts and plain facts on the way to PrettyBack. Conditions: as each says.
-/
import Derived.Test.YtoaplbljflhheaaGreatRows
import Derived.WalkKit
import Derived.WalkSpells
import Derived.WalkLawsBesides
import Derived.Lib.Hide
import Derived.Handy
import Derived.BigQuiet
import Derived.Deep.QuietTactic
import Derived.Below
import Derived.Lib.QuietBelow
import Derived.Test.YtoaplbljflhheaaGreatBaa
set_option maxHeartbeats 40000000
set_option maxRecDepth 100000
set_option linter.unusedVariables false
set_option linter.unusedSimpArgs false
namespace Go.Proofs.YtoaplbljflhheaaGreat.Nm
open _root_.Go.Proofs.Tryz
section
open Go.RowKit
def Ql (x d0 d1 d2 d3 d4 d5 d6 d7 : Int) : Prop :=
 (0 <= d0 ∧ d0 <= 255) ∧ (0 <= d1 ∧ d1 <= 255) ∧ (0 <= d2 ∧ d2 <= 255) ∧ (0 <= d3 ∧ d3 <= 255) ∧ (0 <= d4 ∧ d4 <= 255) ∧ (0 <= d5 ∧ d5 <= 255) ∧ (0 <= d6 ∧ d6 <= 255) ∧ (0 <= d7 ∧ d7 <= 255) ∧
 x = d0 + 256 * d1 + 65536 * d2 + 16777216 * d3 + 4294967296 * d4 + 1099511627776 * d5 + 281474976710656 * d6 + 72057594037927936 * d7
abbrev dv (d0 d1 d2 d3 d4 d5 d6 d7 : Int) : Value := .agg #[.int .i64 d0, .int .i64 d1, .int .i64 d2, .int .i64 d3, .int .i64 d4, .int .i64 d5, .int .i64 d6, .int .i64 d7]
def c07 (x : Int) (w : World) (e : Ending) (w' : World) : Prop :=
 ∃ d0 d1 d2 d3 d4 d5 d6 d7 : Int, Ql x d0 d1 d2 d3 d4 d5 d6 d7 ∧ e = .returned (.agg #[.int .i64 d0, .int .i64 d1, .int .i64 d2, .int .i64 d3, .int .i64 d4, .int .i64 d5, .int .i64 d6, .int .i64 d7]) ∧ Below w.heap.size w w'
def b1t (x : Int) : Bool := decide (9223372036854775808 <= x)
theorem Cs {k : IntKind} {a b : Int} (h : a = b) : Ending.returned (.int k a) = .returned (.int k b) := by rw [h]
theorem Yr {a b : Bool} (h : a = b) : Ending.returned (.bool a) = .returned (.bool b) := by rw [h]
theorem b5q (u : Int) (h0 : 0 <= u) (h1 : u <= 18446744073709551615) :
  Ql u (u % 256) (u / 256 % 256) (u / 256 / 256 % 256) (u / 256 / 256 / 256 % 256) (u / 256 / 256 / 256 / 256 % 256) (u / 256 / 256 / 256 / 256 / 256 % 256) (u / 256 / 256 / 256 / 256 / 256 / 256 % 256) (u / 256 / 256 / 256 / 256 / 256 / 256 / 256 % 256) := by
 unfold Ql; omega
theorem a00 (x d0 d1 d2 d3 d4 d5 d6 d7 : Int) (w : World) (hd : Ql x d0 d1 d2 d3 d4 d5 d6 d7) :
  Calls prog 93 #[dv d0 d1 d2 d3 d4 d5 d6 d7] w fun e w' => e = .returned (.int .i64 (wrap64 x)) ∧ Below w.heap.size w w' := by
 obtain ⟨⟨p0, q0⟩, ⟨p1, q1⟩, ⟨p2, q2⟩, ⟨p3, q3⟩, ⟨p4, q4⟩, ⟨p5, q5⟩, ⟨p6, q6⟩, ⟨p7, q7⟩, hx⟩ := hd;have HX := zz hx;clear hx;go_enter func93, ntmps93;go_wp2
 go_rounds 9
 go_ret;refine ⟨Cs (congrArg wrap64 ?_), by go_grown⟩;rw [HX.out]; omega
theorem b8x (a : Int) (w : World) :
  Calls prog 90 #[.int .i64 a] w (c07 (IntKind.u64.wrap a) w) := by
 have hb : 0 <= IntKind.u64.wrap a ∧ IntKind.u64.wrap a <= 18446744073709551615 := by rw [IntKind.wrap_u64]; omega
 obtain ⟨u, hu⟩ : ∃ u, IntKind.u64.wrap a = u := ⟨_, rfl⟩;rw [hu] at hb ⊢;obtain ⟨h0, h1⟩ := hb;have HD := zz (b5q u h0 h1);go_enter func90, ntmps90;go_wp2
 go_rounds 9
 go_returns
 exact ⟨_, _, _, _, _, _, _, _, HD.out, rfl, by go_grown⟩
end
end Go.Proofs.YtoaplbljflhheaaGreat.Nm
namespace Go.Proofs.YtoaplbljflhheaaGreat.Nm
open _root_.Go.Proofs.Tryz
section
open Go.RowKit
theorem carry (s : Int) : ∃ o c : Int, s % 256 = o ∧ s / 256 = c ∧ s = 256 * c + o ∧ 0 <= o ∧ o <= 255 := ⟨s % 256, s / 256, rfl, rfl, by omega, by omega, by omega⟩
theorem a5v (x y a0 a1 a2 a3 a4 a5 a6 a7 b0 b1 b2 b3 b4 b5 b6 b7 o0 o1 o2 o3 o4 o5 o6 o7 c0 c1 c2 c3 c4 c5 c6 c7 : Int) (ha : Ql x a0 a1 a2 a3 a4 a5 a6 a7) (hb : Ql y b0 b1 b2 b3 b4 b5 b6 b7)
  (e0 : a0 + b0 = 256 * c0 + o0) (u0 : 0 <= o0 ∧ o0 <= 255)
  (e1 : a1 + b1 + c0 = 256 * c1 + o1) (u1 : 0 <= o1 ∧ o1 <= 255)
  (e2 : a2 + b2 + c1 = 256 * c2 + o2) (u2 : 0 <= o2 ∧ o2 <= 255)
  (e3 : a3 + b3 + c2 = 256 * c3 + o3) (u3 : 0 <= o3 ∧ o3 <= 255)
  (e4 : a4 + b4 + c3 = 256 * c4 + o4) (u4 : 0 <= o4 ∧ o4 <= 255)
  (e5 : a5 + b5 + c4 = 256 * c5 + o5) (u5 : 0 <= o5 ∧ o5 <= 255)
  (e6 : a6 + b6 + c5 = 256 * c6 + o6) (u6 : 0 <= o6 ∧ o6 <= 255)
  (e7 : a7 + b7 + c6 = 256 * c7 + o7) (u7 : 0 <= o7 ∧ o7 <= 255) :
  Ql ((x + y) % 18446744073709551616) o0 o1 o2 o3 o4 o5 o6 o7 := by
 unfold Ql at *;refine ⟨u0, u1, u2, u3, u4, u5, u6, u7, ?_⟩;omega
theorem a8u (x y a0 a1 a2 a3 a4 a5 a6 a7 b0 b1 b2 b3 b4 b5 b6 b7 : Int) (w : World) (ha : Ql x a0 a1 a2 a3 a4 a5 a6 a7) (hb : Ql y b0 b1 b2 b3 b4 b5 b6 b7) :
  Calls prog 126 #[dv a0 a1 a2 a3 a4 a5 a6 a7, dv b0 b1 b2 b3 b4 b5 b6 b7] w (c07 ((x + y) % 18446744073709551616) w) := by
 have HA := zz ha;have HB := zz hb;unfold Ql at ha hb;obtain ⟨⟨al0, au0⟩, ⟨al1, au1⟩, ⟨al2, au2⟩, ⟨al3, au3⟩, ⟨al4, au4⟩, ⟨al5, au5⟩, ⟨al6, au6⟩, ⟨al7, au7⟩, hax⟩ := ha;clear hax;obtain ⟨⟨bl0, bu0⟩, ⟨bl1, bu1⟩, ⟨bl2, bu2⟩, ⟨bl3, bu3⟩, ⟨bl4, bu4⟩, ⟨bl5, bu5⟩, ⟨bl6, bu6⟩, ⟨bl7, bu7⟩, hbx⟩ := hb;clear hbx;obtain ⟨o0, c0, ho0, hc0, e0, ol0, ou0⟩ := carry (a0 + b0);have cb0 : 0 <= c0 ∧ c0 <= 1 := by omega
 obtain ⟨cl0, cu0⟩ := cb0;have E0 := zz e0;clear e0;obtain ⟨o1, c1, ho1, hc1, e1, ol1, ou1⟩ := carry (a1 + b1 + c0);have cb1 : 0 <= c1 ∧ c1 <= 1 := by omega
 obtain ⟨cl1, cu1⟩ := cb1;have E1 := zz e1;clear e1;obtain ⟨o2, c2, ho2, hc2, e2, ol2, ou2⟩ := carry (a2 + b2 + c1);have cb2 : 0 <= c2 ∧ c2 <= 1 := by omega
 obtain ⟨cl2, cu2⟩ := cb2;have E2 := zz e2;clear e2;obtain ⟨o3, c3, ho3, hc3, e3, ol3, ou3⟩ := carry (a3 + b3 + c2);have cb3 : 0 <= c3 ∧ c3 <= 1 := by omega
 obtain ⟨cl3, cu3⟩ := cb3;have E3 := zz e3;clear e3;obtain ⟨o4, c4, ho4, hc4, e4, ol4, ou4⟩ := carry (a4 + b4 + c3);have cb4 : 0 <= c4 ∧ c4 <= 1 := by omega
 obtain ⟨cl4, cu4⟩ := cb4;have E4 := zz e4;clear e4;obtain ⟨o5, c5, ho5, hc5, e5, ol5, ou5⟩ := carry (a5 + b5 + c4);have cb5 : 0 <= c5 ∧ c5 <= 1 := by omega
 obtain ⟨cl5, cu5⟩ := cb5;have E5 := zz e5;clear e5;obtain ⟨o6, c6, ho6, hc6, e6, ol6, ou6⟩ := carry (a6 + b6 + c5);have cb6 : 0 <= c6 ∧ c6 <= 1 := by omega
 obtain ⟨cl6, cu6⟩ := cb6;have E6 := zz e6;clear e6;obtain ⟨o7, c7, ho7, hc7, e7, ol7, ou7⟩ := carry (a7 + b7 + c6);have cb7 : 0 <= c7 ∧ c7 <= 1 := by omega
 obtain ⟨cl7, cu7⟩ := cb7;have E7 := zz e7;clear e7;go_enter func126, ntmps126;go_wp2;refine wp_loop_rounds 9 ?_
 iterate 8
  rw [rounds_succ];go_wp2;go_region;go_wp2
 rw [rounds_succ];go_wp2
 go_returns
 refine ⟨_, _, _, _, _, _, _, _, a5v _ _ _ _ _ _ _ _ _ _ _ _ _ _ _ _ _ _ o0 o1 o2 o3 o4 o5 o6 o7 _ _ _ _ _ _ _ _ HA.out HB.out E0.out ⟨ol0, ou0⟩ E1.out ⟨ol1, ou1⟩ E2.out ⟨ol2, ou2⟩ E3.out ⟨ol3, ou3⟩ E4.out ⟨ol4, ou4⟩ E5.out ⟨ol5, ou5⟩ E6.out ⟨ol6, ou6⟩ E7.out ⟨ol7, ou7⟩, rfl, by go_grown⟩
end
end Go.Proofs.YtoaplbljflhheaaGreat.Nm
namespace Go.Proofs.YtoaplbljflhheaaGreat.Nm
open _root_.Go.Proofs.Tryz
section
open Go.RowKit
theorem Cr {W w1 : World} (hb : Below W.heap.size W w1) : (∀ b o, b < W.heap.size -> w1.cell? ⟨b, o, none⟩ = W.cell? ⟨b, o, none⟩) ∧ (∀ b o, b < W.heap.size -> w1.frozen? ⟨b, o, none⟩ = W.frozen? ⟨b, o, none⟩) :=
 ⟨fun b o h => hb.cell (p := ⟨b, o, none⟩) h, fun b o h => hb.frozen (p := ⟨b, o, none⟩) h⟩
theorem Ab {w W w' : World} (h : Below w.heap.size w W) (k : Below W.heap.size W w') : Below w.heap.size w w' := h.trans (k.mono h.size)
theorem a5w (x a0 a1 a2 a3 a4 a5 a6 a7 : Int) (h : Ql x a0 a1 a2 a3 a4 a5 a6 a7) : Ql (18446744073709551615 - x) (255 - a0) (255 - a1) (255 - a2) (255 - a3) (255 - a4) (255 - a5) (255 - a6) (255 - a7) := by
 unfold Ql at *; omega
theorem b04 : Ql 1 1 0 0 0 0 0 0 0 := by unfold Ql; omega
theorem a4k (x a0 a1 a2 a3 a4 a5 a6 a7 : Int) (w : World) (ha : Ql x a0 a1 a2 a3 a4 a5 a6 a7) :
  Calls prog 92 #[dv a0 a1 a2 a3 a4 a5 a6 a7] w (c07 ((18446744073709551616 - x) % 18446744073709551616) w) := by
 have hp := fun w => a8u _ _ _ _ _ _ _ _ _ _ _ _ _ _ _ _ _ _ w (a5w _ _ _ _ _ _ _ _ _ ha) b04
 rw [show (18446744073709551615 - x + 1) = 18446744073709551616 - x by omega] at hp;have HP := zz hp;clear hp;unfold Ql at ha;obtain ⟨⟨al0, au0⟩, ⟨al1, au1⟩, ⟨al2, au2⟩, ⟨al3, au3⟩, ⟨al4, au4⟩, ⟨al5, au5⟩, ⟨al6, au6⟩, ⟨al7, au7⟩, hax⟩ := ha;clear hax;generalize (18446744073709551616 - x) % 18446744073709551616 = z at *;go_enter func92, ntmps92;go_wp2;refine wp_loop_rounds 9 ?_
 iterate 9
  rw [rounds_succ];go_wp2_with fail
 refine (HP.out _).mono ?_;rintro e w1 ⟨d0, d1, d2, d3, d4, d5, d6, d7, hD, rfl, hb⟩;have HD := zz hD;clear hD;obtain ⟨hc, hf⟩ := Cr hb;have hz := hb.size;simp only [World.size_alloc] at hc hf hz;go_wp2;refine bodyPost_ret (v := dv d0 d1 d2 d3 d4 d5 d6 d7) (by simp [results, results92, go_sem, hc]) rfl ?_;refine ⟨_, _, _, _, _, _, _, _, HD.out, rfl, ?_⟩;have hb' := (by go_grown : Below w.heap.size w _).trans (hb.mono (by simp; omega));go_grown
theorem a9n (x z a0 a1 a2 a3 a4 a5 a6 a7 : Int) (w : World) (ha : Ql x a0 a1 a2 a3 a4 a5 a6 a7) (hz : (18446744073709551616 - x) % 18446744073709551616 = z) :
  Calls prog 92 #[dv a0 a1 a2 a3 a4 a5 a6 a7] w (c07 z w) := hz ▸ a4k x a0 a1 a2 a3 a4 a5 a6 a7 w ha
theorem Uw (x n a0 a1 a2 a3 a4 a5 a6 a7 : Int) (w : World) (ha : Ql x a0 a1 a2 a3 a4 a5 a6 a7) (hn : wrap64 x = n) :
  Calls prog 93 #[dv a0 a1 a2 a3 a4 a5 a6 a7] w fun e w' => e = .returned (.int .i64 n) ∧ Below w.heap.size w w' := hn ▸ a00 x a0 a1 a2 a3 a4 a5 a6 a7 w ha
theorem b8w (a u : Int) (w : World) (hu : IntKind.u64.wrap a = u) : Calls prog 90 #[.int .i64 a] w (c07 u w) := hu ▸ b8x a w
end
end Go.Proofs.YtoaplbljflhheaaGreat.Nm
namespace Go.Proofs.YtoaplbljflhheaaGreat.Nm
open _root_.Go.Proofs.Tryz
section
open Go.RowKit Go.Sort
def dg (i : Nat) (x : Int) : Int := x / (256 ^ i : Nat) % 256
theorem Eh {P : Program} {f : FuncId} {args : Array Value} {v : Value} {w : World} (h : Calls P f args w fun e w' => e = .returned v ∧ w = w') :
  Calls P f args w fun e w' => e = .returned v ∧ Below w.heap.size w w' := h.mono fun _ _ ⟨he, hw⟩ => ⟨he, hw ▸ Below.refl _ _⟩
end
end Go.Proofs.YtoaplbljflhheaaGreat.Nm
namespace Go.Proofs.YtoaplbljflhheaaGreat.Nm
open _root_.Go.Proofs.Tryz
section
open Go.RowKit
end
end Go.Proofs.YtoaplbljflhheaaGreat.Nm
