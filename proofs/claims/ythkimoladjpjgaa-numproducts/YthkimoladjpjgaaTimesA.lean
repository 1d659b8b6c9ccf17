/-
  Contract of the document's product of two rows of eight digits (hindcastref01.Times). Conditions: each digit is from 0 to 255.
-/
import Derived.Test.YthkimoladjpjgaaPlus
namespace Go.Proofs.Ythkimoladjpjgaa
open Go.RowKit

theorem digit_mul {a b : Int} (h0 : 0 ≤ a) (h1 : a ≤ 255) (h2 : 0 ≤ b) (h3 : b ≤ 255) : 0 ≤ a * b ∧ a * b ≤ 65025 :=
  ⟨Int.mul_nonneg h0 h2, by have := Int.mul_le_mul h1 h3 h2 (by omega : (0:Int) ≤ 255); omega⟩
theorem row_mul (a y b0 b1 b2 b3 b4 b5 b6 b7 : Int) (hy : y = b0 + 256 * b1 + 65536 * b2 + 16777216 * b3 + 4294967296 * b4 + 1099511627776 * b5 + 281474976710656 * b6 + 72057594037927936 * b7) :
    a * y = a * b0 + 256 * (a * b1) + 65536 * (a * b2) + 16777216 * (a * b3) + 4294967296 * (a * b4) + 1099511627776 * (a * b5) + 281474976710656 * (a * b6) + 72057594037927936 * (a * b7) := by
  rw [hy]
  simp only [Int.mul_add, Int.mul_left_comm a]
theorem all_mul (x y a0 a1 a2 a3 a4 a5 a6 a7 : Int) (hx : x = a0 + 256 * a1 + 65536 * a2 + 16777216 * a3 + 4294967296 * a4 + 1099511627776 * a5 + 281474976710656 * a6 + 72057594037927936 * a7) :
    x * y = a0 * y + 256 * (a1 * y) + 65536 * (a2 * y) + 16777216 * (a3 * y) + 4294967296 * (a4 * y) + 1099511627776 * (a5 * y) + 281474976710656 * (a6 * y) + 72057594037927936 * (a7 * y) := by
  rw [hx]
  simp only [Int.add_mul, Int.mul_assoc]
theorem row0 (ay p0 p1 p2 p3 p4 p5 p6 p7  n0 n1 n2 n3 n4 n5 n6 n7 c0 c1 c2 c3 c4 c5 c6 c7 : Int) (e0 : p0 = 256 * c0 + n0) (e1 : p1 + c0 = 256 * c1 + n1) (e2 : p2 + c1 = 256 * c2 + n2) (e3 : p3 + c2 = 256 * c3 + n3) (e4 : p4 + c3 = 256 * c4 + n4) (e5 : p5 + c4 = 256 * c5 + n5) (e6 : p6 + c5 = 256 * c6 + n6) (e7 : p7 + c6 = 256 * c7 + n7)
    (h : ay = p0 + 256 * p1 + 65536 * p2 + 16777216 * p3 + 4294967296 * p4 + 1099511627776 * p5 + 281474976710656 * p6 + 72057594037927936 * p7) :
    ∃ K : Int, 1 * n0 + 256 * n1 + 65536 * n2 + 16777216 * n3 + 4294967296 * n4 + 1099511627776 * n5 + 281474976710656 * n6 + 72057594037927936 * n7 = 1 * 0 + 256 * 0 + 65536 * 0 + 16777216 * 0 + 4294967296 * 0 + 1099511627776 * 0 + 281474976710656 * 0 + 72057594037927936 * 0 + 1 * ay + 18446744073709551616 * K := by
  refine ⟨-(c7), ?_⟩
  omega
theorem row1 (ay p0 p1 p2 p3 p4 p5 p6 p7 o0 o1 o2 o3 o4 o5 o6 o7 n1 n2 n3 n4 n5 n6 n7 c0 c1 c2 c3 c4 c5 c6 : Int) (e0 : o1 + p0 = 256 * c0 + n1) (e1 : o2 + p1 + c0 = 256 * c1 + n2) (e2 : o3 + p2 + c1 = 256 * c2 + n3) (e3 : o4 + p3 + c2 = 256 * c3 + n4) (e4 : o5 + p4 + c3 = 256 * c4 + n5) (e5 : o6 + p5 + c4 = 256 * c5 + n6) (e6 : o7 + p6 + c5 = 256 * c6 + n7)
    (h : ay = p0 + 256 * p1 + 65536 * p2 + 16777216 * p3 + 4294967296 * p4 + 1099511627776 * p5 + 281474976710656 * p6 + 72057594037927936 * p7) :
    ∃ K : Int, 1 * o0 + 256 * n1 + 65536 * n2 + 16777216 * n3 + 4294967296 * n4 + 1099511627776 * n5 + 281474976710656 * n6 + 72057594037927936 * n7 = 1 * o0 + 256 * o1 + 65536 * o2 + 16777216 * o3 + 4294967296 * o4 + 1099511627776 * o5 + 281474976710656 * o6 + 72057594037927936 * o7 + 256 * ay + 18446744073709551616 * K := by
  refine ⟨-(c6 + 1 * p7), ?_⟩
  omega
theorem row2 (ay p0 p1 p2 p3 p4 p5 p6 p7 o0 o1 o2 o3 o4 o5 o6 o7 n2 n3 n4 n5 n6 n7 c0 c1 c2 c3 c4 c5 : Int) (e0 : o2 + p0 = 256 * c0 + n2) (e1 : o3 + p1 + c0 = 256 * c1 + n3) (e2 : o4 + p2 + c1 = 256 * c2 + n4) (e3 : o5 + p3 + c2 = 256 * c3 + n5) (e4 : o6 + p4 + c3 = 256 * c4 + n6) (e5 : o7 + p5 + c4 = 256 * c5 + n7)
    (h : ay = p0 + 256 * p1 + 65536 * p2 + 16777216 * p3 + 4294967296 * p4 + 1099511627776 * p5 + 281474976710656 * p6 + 72057594037927936 * p7) :
    ∃ K : Int, 1 * o0 + 256 * o1 + 65536 * n2 + 16777216 * n3 + 4294967296 * n4 + 1099511627776 * n5 + 281474976710656 * n6 + 72057594037927936 * n7 = 1 * o0 + 256 * o1 + 65536 * o2 + 16777216 * o3 + 4294967296 * o4 + 1099511627776 * o5 + 281474976710656 * o6 + 72057594037927936 * o7 + 65536 * ay + 18446744073709551616 * K := by
  refine ⟨-(c5 + 1 * p6 + 256 * p7), ?_⟩
  omega
theorem row3 (ay p0 p1 p2 p3 p4 p5 p6 p7 o0 o1 o2 o3 o4 o5 o6 o7 n3 n4 n5 n6 n7 c0 c1 c2 c3 c4 : Int) (e0 : o3 + p0 = 256 * c0 + n3) (e1 : o4 + p1 + c0 = 256 * c1 + n4) (e2 : o5 + p2 + c1 = 256 * c2 + n5) (e3 : o6 + p3 + c2 = 256 * c3 + n6) (e4 : o7 + p4 + c3 = 256 * c4 + n7)
    (h : ay = p0 + 256 * p1 + 65536 * p2 + 16777216 * p3 + 4294967296 * p4 + 1099511627776 * p5 + 281474976710656 * p6 + 72057594037927936 * p7) :
    ∃ K : Int, 1 * o0 + 256 * o1 + 65536 * o2 + 16777216 * n3 + 4294967296 * n4 + 1099511627776 * n5 + 281474976710656 * n6 + 72057594037927936 * n7 = 1 * o0 + 256 * o1 + 65536 * o2 + 16777216 * o3 + 4294967296 * o4 + 1099511627776 * o5 + 281474976710656 * o6 + 72057594037927936 * o7 + 16777216 * ay + 18446744073709551616 * K := by
  refine ⟨-(c4 + 1 * p5 + 256 * p6 + 65536 * p7), ?_⟩
  omega
theorem row4 (ay p0 p1 p2 p3 p4 p5 p6 p7 o0 o1 o2 o3 o4 o5 o6 o7 n4 n5 n6 n7 c0 c1 c2 c3 : Int) (e0 : o4 + p0 = 256 * c0 + n4) (e1 : o5 + p1 + c0 = 256 * c1 + n5) (e2 : o6 + p2 + c1 = 256 * c2 + n6) (e3 : o7 + p3 + c2 = 256 * c3 + n7)
    (h : ay = p0 + 256 * p1 + 65536 * p2 + 16777216 * p3 + 4294967296 * p4 + 1099511627776 * p5 + 281474976710656 * p6 + 72057594037927936 * p7) :
    ∃ K : Int, 1 * o0 + 256 * o1 + 65536 * o2 + 16777216 * o3 + 4294967296 * n4 + 1099511627776 * n5 + 281474976710656 * n6 + 72057594037927936 * n7 = 1 * o0 + 256 * o1 + 65536 * o2 + 16777216 * o3 + 4294967296 * o4 + 1099511627776 * o5 + 281474976710656 * o6 + 72057594037927936 * o7 + 4294967296 * ay + 18446744073709551616 * K := by
  refine ⟨-(c3 + 1 * p4 + 256 * p5 + 65536 * p6 + 16777216 * p7), ?_⟩
  omega
theorem row5 (ay p0 p1 p2 p3 p4 p5 p6 p7 o0 o1 o2 o3 o4 o5 o6 o7 n5 n6 n7 c0 c1 c2 : Int) (e0 : o5 + p0 = 256 * c0 + n5) (e1 : o6 + p1 + c0 = 256 * c1 + n6) (e2 : o7 + p2 + c1 = 256 * c2 + n7)
    (h : ay = p0 + 256 * p1 + 65536 * p2 + 16777216 * p3 + 4294967296 * p4 + 1099511627776 * p5 + 281474976710656 * p6 + 72057594037927936 * p7) :
    ∃ K : Int, 1 * o0 + 256 * o1 + 65536 * o2 + 16777216 * o3 + 4294967296 * o4 + 1099511627776 * n5 + 281474976710656 * n6 + 72057594037927936 * n7 = 1 * o0 + 256 * o1 + 65536 * o2 + 16777216 * o3 + 4294967296 * o4 + 1099511627776 * o5 + 281474976710656 * o6 + 72057594037927936 * o7 + 1099511627776 * ay + 18446744073709551616 * K := by
  refine ⟨-(c2 + 1 * p3 + 256 * p4 + 65536 * p5 + 16777216 * p6 + 4294967296 * p7), ?_⟩
  omega
theorem row6 (ay p0 p1 p2 p3 p4 p5 p6 p7 o0 o1 o2 o3 o4 o5 o6 o7 n6 n7 c0 c1 : Int) (e0 : o6 + p0 = 256 * c0 + n6) (e1 : o7 + p1 + c0 = 256 * c1 + n7)
    (h : ay = p0 + 256 * p1 + 65536 * p2 + 16777216 * p3 + 4294967296 * p4 + 1099511627776 * p5 + 281474976710656 * p6 + 72057594037927936 * p7) :
    ∃ K : Int, 1 * o0 + 256 * o1 + 65536 * o2 + 16777216 * o3 + 4294967296 * o4 + 1099511627776 * o5 + 281474976710656 * n6 + 72057594037927936 * n7 = 1 * o0 + 256 * o1 + 65536 * o2 + 16777216 * o3 + 4294967296 * o4 + 1099511627776 * o5 + 281474976710656 * o6 + 72057594037927936 * o7 + 281474976710656 * ay + 18446744073709551616 * K := by
  refine ⟨-(c1 + 1 * p2 + 256 * p3 + 65536 * p4 + 16777216 * p5 + 4294967296 * p6 + 1099511627776 * p7), ?_⟩
  omega
theorem row7 (ay p0 p1 p2 p3 p4 p5 p6 p7 o0 o1 o2 o3 o4 o5 o6 o7 n7 c0 : Int) (e0 : o7 + p0 = 256 * c0 + n7)
    (h : ay = p0 + 256 * p1 + 65536 * p2 + 16777216 * p3 + 4294967296 * p4 + 1099511627776 * p5 + 281474976710656 * p6 + 72057594037927936 * p7) :
    ∃ K : Int, 1 * o0 + 256 * o1 + 65536 * o2 + 16777216 * o3 + 4294967296 * o4 + 1099511627776 * o5 + 281474976710656 * o6 + 72057594037927936 * n7 = 1 * o0 + 256 * o1 + 65536 * o2 + 16777216 * o3 + 4294967296 * o4 + 1099511627776 * o5 + 281474976710656 * o6 + 72057594037927936 * o7 + 72057594037927936 * ay + 18446744073709551616 * K := by
  refine ⟨-(c0 + 1 * p1 + 256 * p2 + 65536 * p3 + 16777216 * p4 + 4294967296 * p5 + 1099511627776 * p6 + 281474976710656 * p7), ?_⟩
  omega

theorem step_ab {o p c : Int} (ho : 0 ≤ o ∧ o ≤ 255) (hp : 0 ≤ p ∧ p ≤ 65025) (hc : 0 ≤ c ∧ c ≤ 255) :
    ∃ n d : Int, (o + p + c) % 256 = n ∧ (o + p + c) / 256 = d ∧ Hid (o + p + c = 256 * d + n) ∧ Hid (0 ≤ n ∧ n ≤ 255) ∧ Hid (0 ≤ d ∧ d ≤ 255) :=
  ⟨_, _, rfl, rfl, Lib.hid (by omega), Lib.hid (by omega), Lib.hid (by omega)⟩
theorem step_a {o p : Int} (ho : 0 ≤ o ∧ o ≤ 255) (hp : 0 ≤ p ∧ p ≤ 65025) :
    ∃ n d : Int, (o + p) % 256 = n ∧ (o + p) / 256 = d ∧ Hid (o + p = 256 * d + n) ∧ Hid (0 ≤ n ∧ n ≤ 255) ∧ Hid (0 ≤ d ∧ d ≤ 255) :=
  ⟨_, _, rfl, rfl, Lib.hid (by omega), Lib.hid (by omega), Lib.hid (by omega)⟩
theorem step_b {p c : Int} (hp : 0 ≤ p ∧ p ≤ 65025) (hc : 0 ≤ c ∧ c ≤ 255) :
    ∃ n d : Int, (p + c) % 256 = n ∧ (p + c) / 256 = d ∧ Hid (p + c = 256 * d + n) ∧ Hid (0 ≤ n ∧ n ≤ 255) ∧ Hid (0 ≤ d ∧ d ≤ 255) :=
  ⟨_, _, rfl, rfl, Lib.hid (by omega), Lib.hid (by omega), Lib.hid (by omega)⟩
theorem step_0 {p : Int} (hp : 0 ≤ p ∧ p ≤ 65025) :
    ∃ n d : Int, p % 256 = n ∧ p / 256 = d ∧ Hid (p = 256 * d + n) ∧ Hid (0 ≤ n ∧ n ≤ 255) ∧ Hid (0 ≤ d ∧ d ≤ 255) :=
  ⟨_, _, rfl, rfl, Lib.hid (by omega), Lib.hid (by omega), Lib.hid (by omega)⟩
theorem prod_ex {a b : Int} (ha : Hid (0 ≤ a ∧ a ≤ 255)) (hb : Hid (0 ≤ b ∧ b ≤ 255)) : ∃ p : Int, a * b = p ∧ Hid (p = a * b) ∧ (0 ≤ p ∧ p ≤ 65025) :=
  ⟨_, rfl, Lib.hid rfl, digit_mul ha.out.1 ha.out.2 hb.out.1 hb.out.2⟩

/-- What the rows up to number k come to. -/
def rowsum (y a0 a1 a2 a3 a4 a5 a6 a7 : Int) (k : Nat) : Int := (if 0 < k then 1 * (a0 * y) else 0) + (if 1 < k then 256 * (a1 * y) else 0) + (if 2 < k then 65536 * (a2 * y) else 0) + (if 3 < k then 16777216 * (a3 * y) else 0) + (if 4 < k then 4294967296 * (a4 * y) else 0) + (if 5 < k then 1099511627776 * (a5 * y) else 0) + (if 6 < k then 281474976710656 * (a6 * y) else 0) + (if 7 < k then 72057594037927936 * (a7 * y) else 0)
def Bd (o0 o1 o2 o3 o4 o5 o6 o7 : Int) : Prop := (0 ≤ o0 ∧ o0 ≤ 255) ∧ (0 ≤ o1 ∧ o1 ≤ 255) ∧ (0 ≤ o2 ∧ o2 ≤ 255) ∧ (0 ≤ o3 ∧ o3 ≤ 255) ∧ (0 ≤ o4 ∧ o4 ≤ 255) ∧ (0 ≤ o5 ∧ o5 ≤ 255) ∧ (0 ≤ o6 ∧ o6 ≤ 255) ∧ (0 ≤ o7 ∧ o7 ≤ 255)
def Sum8 (y a0 a1 a2 a3 a4 a5 a6 a7 : Int) (k : Nat) (o0 o1 o2 o3 o4 o5 o6 o7 : Int) : Prop := ∃ K : Int, 1 * o0 + 256 * o1 + 65536 * o2 + 16777216 * o3 + 4294967296 * o4 + 1099511627776 * o5 + 281474976710656 * o6 + 72057594037927936 * o7 = rowsum y a0 a1 a2 a3 a4 a5 a6 a7 k + 18446744073709551616 * K

theorem sum_zero (y a0 a1 a2 a3 a4 a5 a6 a7 : Int) : Sum8 y a0 a1 a2 a3 a4 a5 a6 a7 0 0 0 0 0 0 0 0 0 := ⟨0, by simp [rowsum]⟩
theorem sum_end (x y z a0 a1 a2 a3 a4 a5 a6 a7 o0 o1 o2 o3 o4 o5 o6 o7 : Int) (h : Sum8 y a0 a1 a2 a3 a4 a5 a6 a7 8 o0 o1 o2 o3 o4 o5 o6 o7) (hb : Bd o0 o1 o2 o3 o4 o5 o6 o7) (hz : x * y % 18446744073709551616 = z)
    (qa : x * y = a0 * y + 256 * (a1 * y) + 65536 * (a2 * y) + 16777216 * (a3 * y) + 4294967296 * (a4 * y) + 1099511627776 * (a5 * y) + 281474976710656 * (a6 * y) + 72057594037927936 * (a7 * y)) :
    Digs z o0 o1 o2 o3 o4 o5 o6 o7 := by
  obtain ⟨K, h⟩ := h
  simp only [rowsum, Nat.reduceLT, if_true] at h
  obtain ⟨h0, h1, h2, h3, h4, h5, h6, h7⟩ := hb
  refine ⟨h0, h1, h2, h3, h4, h5, h6, h7, ?_⟩
  omega
theorem sum_row0 (y a0 a1 a2 a3 a4 a5 a6 a7 b0 b1 b2 b3 b4 b5 b6 b7 o0 o1 o2 o3 o4 o5 o6 o7 n0 n1 n2 n3 n4 n5 n6 n7 c0 c1 c2 c3 c4 c5 c6 c7 p0 p1 p2 p3 p4 p5 p6 p7 : Int) (h : Sum8 y a0 a1 a2 a3 a4 a5 a6 a7 0 o0 o1 o2 o3 o4 o5 o6 o7) (e0 : o0 + p0 = 256 * c0 + n0) (e1 : o1 + p1 + c0 = 256 * c1 + n1) (e2 : o2 + p2 + c1 = 256 * c2 + n2) (e3 : o3 + p3 + c2 = 256 * c3 + n3) (e4 : o4 + p4 + c3 = 256 * c4 + n4) (e5 : o5 + p5 + c4 = 256 * c5 + n5) (e6 : o6 + p6 + c5 = 256 * c6 + n6) (e7 : o7 + p7 + c6 = 256 * c7 + n7) (q0 : p0 = a0 * b0) (q1 : p1 = a0 * b1) (q2 : p2 = a0 * b2) (q3 : p3 = a0 * b3) (q4 : p4 = a0 * b4) (q5 : p5 = a0 * b5) (q6 : p6 = a0 * b6) (q7 : p7 = a0 * b7)
    (hq : a0 * y = a0 * b0 + 256 * (a0 * b1) + 65536 * (a0 * b2) + 16777216 * (a0 * b3) + 4294967296 * (a0 * b4) + 1099511627776 * (a0 * b5) + 281474976710656 * (a0 * b6) + 72057594037927936 * (a0 * b7)) :
    Sum8 y a0 a1 a2 a3 a4 a5 a6 a7 1 n0 n1 n2 n3 n4 n5 n6 n7 := by
  obtain ⟨K, h⟩ := h
  refine ⟨K - (c7), ?_⟩
  simp only [rowsum, Nat.reduceLT, if_true, if_false] at h ⊢
  omega
theorem sum_row1 (y a0 a1 a2 a3 a4 a5 a6 a7 b0 b1 b2 b3 b4 b5 b6 b7 o0 o1 o2 o3 o4 o5 o6 o7 n1 n2 n3 n4 n5 n6 n7 c0 c1 c2 c3 c4 c5 c6 p0 p1 p2 p3 p4 p5 p6 : Int) (h : Sum8 y a0 a1 a2 a3 a4 a5 a6 a7 1 o0 o1 o2 o3 o4 o5 o6 o7) (e0 : o1 + p0 = 256 * c0 + n1) (e1 : o2 + p1 + c0 = 256 * c1 + n2) (e2 : o3 + p2 + c1 = 256 * c2 + n3) (e3 : o4 + p3 + c2 = 256 * c3 + n4) (e4 : o5 + p4 + c3 = 256 * c4 + n5) (e5 : o6 + p5 + c4 = 256 * c5 + n6) (e6 : o7 + p6 + c5 = 256 * c6 + n7) (q0 : p0 = a1 * b0) (q1 : p1 = a1 * b1) (q2 : p2 = a1 * b2) (q3 : p3 = a1 * b3) (q4 : p4 = a1 * b4) (q5 : p5 = a1 * b5) (q6 : p6 = a1 * b6)
    (hq : a1 * y = a1 * b0 + 256 * (a1 * b1) + 65536 * (a1 * b2) + 16777216 * (a1 * b3) + 4294967296 * (a1 * b4) + 1099511627776 * (a1 * b5) + 281474976710656 * (a1 * b6) + 72057594037927936 * (a1 * b7)) :
    Sum8 y a0 a1 a2 a3 a4 a5 a6 a7 2 o0 n1 n2 n3 n4 n5 n6 n7 := by
  obtain ⟨K, h⟩ := h
  refine ⟨K - (c6 + 1 * (a1 * b7)), ?_⟩
  simp only [rowsum, Nat.reduceLT, if_true, if_false] at h ⊢
  omega
theorem sum_row2 (y a0 a1 a2 a3 a4 a5 a6 a7 b0 b1 b2 b3 b4 b5 b6 b7 o0 o1 o2 o3 o4 o5 o6 o7 n2 n3 n4 n5 n6 n7 c0 c1 c2 c3 c4 c5 p0 p1 p2 p3 p4 p5 : Int) (h : Sum8 y a0 a1 a2 a3 a4 a5 a6 a7 2 o0 o1 o2 o3 o4 o5 o6 o7) (e0 : o2 + p0 = 256 * c0 + n2) (e1 : o3 + p1 + c0 = 256 * c1 + n3) (e2 : o4 + p2 + c1 = 256 * c2 + n4) (e3 : o5 + p3 + c2 = 256 * c3 + n5) (e4 : o6 + p4 + c3 = 256 * c4 + n6) (e5 : o7 + p5 + c4 = 256 * c5 + n7) (q0 : p0 = a2 * b0) (q1 : p1 = a2 * b1) (q2 : p2 = a2 * b2) (q3 : p3 = a2 * b3) (q4 : p4 = a2 * b4) (q5 : p5 = a2 * b5)
    (hq : a2 * y = a2 * b0 + 256 * (a2 * b1) + 65536 * (a2 * b2) + 16777216 * (a2 * b3) + 4294967296 * (a2 * b4) + 1099511627776 * (a2 * b5) + 281474976710656 * (a2 * b6) + 72057594037927936 * (a2 * b7)) :
    Sum8 y a0 a1 a2 a3 a4 a5 a6 a7 3 o0 o1 n2 n3 n4 n5 n6 n7 := by
  obtain ⟨K, h⟩ := h
  refine ⟨K - (c5 + 1 * (a2 * b6) + 256 * (a2 * b7)), ?_⟩
  simp only [rowsum, Nat.reduceLT, if_true, if_false] at h ⊢
  omega
theorem sum_row3 (y a0 a1 a2 a3 a4 a5 a6 a7 b0 b1 b2 b3 b4 b5 b6 b7 o0 o1 o2 o3 o4 o5 o6 o7 n3 n4 n5 n6 n7 c0 c1 c2 c3 c4 p0 p1 p2 p3 p4 : Int) (h : Sum8 y a0 a1 a2 a3 a4 a5 a6 a7 3 o0 o1 o2 o3 o4 o5 o6 o7) (e0 : o3 + p0 = 256 * c0 + n3) (e1 : o4 + p1 + c0 = 256 * c1 + n4) (e2 : o5 + p2 + c1 = 256 * c2 + n5) (e3 : o6 + p3 + c2 = 256 * c3 + n6) (e4 : o7 + p4 + c3 = 256 * c4 + n7) (q0 : p0 = a3 * b0) (q1 : p1 = a3 * b1) (q2 : p2 = a3 * b2) (q3 : p3 = a3 * b3) (q4 : p4 = a3 * b4)
    (hq : a3 * y = a3 * b0 + 256 * (a3 * b1) + 65536 * (a3 * b2) + 16777216 * (a3 * b3) + 4294967296 * (a3 * b4) + 1099511627776 * (a3 * b5) + 281474976710656 * (a3 * b6) + 72057594037927936 * (a3 * b7)) :
    Sum8 y a0 a1 a2 a3 a4 a5 a6 a7 4 o0 o1 o2 n3 n4 n5 n6 n7 := by
  obtain ⟨K, h⟩ := h
  refine ⟨K - (c4 + 1 * (a3 * b5) + 256 * (a3 * b6) + 65536 * (a3 * b7)), ?_⟩
  simp only [rowsum, Nat.reduceLT, if_true, if_false] at h ⊢
  omega
theorem sum_row4 (y a0 a1 a2 a3 a4 a5 a6 a7 b0 b1 b2 b3 b4 b5 b6 b7 o0 o1 o2 o3 o4 o5 o6 o7 n4 n5 n6 n7 c0 c1 c2 c3 p0 p1 p2 p3 : Int) (h : Sum8 y a0 a1 a2 a3 a4 a5 a6 a7 4 o0 o1 o2 o3 o4 o5 o6 o7) (e0 : o4 + p0 = 256 * c0 + n4) (e1 : o5 + p1 + c0 = 256 * c1 + n5) (e2 : o6 + p2 + c1 = 256 * c2 + n6) (e3 : o7 + p3 + c2 = 256 * c3 + n7) (q0 : p0 = a4 * b0) (q1 : p1 = a4 * b1) (q2 : p2 = a4 * b2) (q3 : p3 = a4 * b3)
    (hq : a4 * y = a4 * b0 + 256 * (a4 * b1) + 65536 * (a4 * b2) + 16777216 * (a4 * b3) + 4294967296 * (a4 * b4) + 1099511627776 * (a4 * b5) + 281474976710656 * (a4 * b6) + 72057594037927936 * (a4 * b7)) :
    Sum8 y a0 a1 a2 a3 a4 a5 a6 a7 5 o0 o1 o2 o3 n4 n5 n6 n7 := by
  obtain ⟨K, h⟩ := h
  refine ⟨K - (c3 + 1 * (a4 * b4) + 256 * (a4 * b5) + 65536 * (a4 * b6) + 16777216 * (a4 * b7)), ?_⟩
  simp only [rowsum, Nat.reduceLT, if_true, if_false] at h ⊢
  omega
theorem sum_row5 (y a0 a1 a2 a3 a4 a5 a6 a7 b0 b1 b2 b3 b4 b5 b6 b7 o0 o1 o2 o3 o4 o5 o6 o7 n5 n6 n7 c0 c1 c2 p0 p1 p2 : Int) (h : Sum8 y a0 a1 a2 a3 a4 a5 a6 a7 5 o0 o1 o2 o3 o4 o5 o6 o7) (e0 : o5 + p0 = 256 * c0 + n5) (e1 : o6 + p1 + c0 = 256 * c1 + n6) (e2 : o7 + p2 + c1 = 256 * c2 + n7) (q0 : p0 = a5 * b0) (q1 : p1 = a5 * b1) (q2 : p2 = a5 * b2)
    (hq : a5 * y = a5 * b0 + 256 * (a5 * b1) + 65536 * (a5 * b2) + 16777216 * (a5 * b3) + 4294967296 * (a5 * b4) + 1099511627776 * (a5 * b5) + 281474976710656 * (a5 * b6) + 72057594037927936 * (a5 * b7)) :
    Sum8 y a0 a1 a2 a3 a4 a5 a6 a7 6 o0 o1 o2 o3 o4 n5 n6 n7 := by
  obtain ⟨K, h⟩ := h
  refine ⟨K - (c2 + 1 * (a5 * b3) + 256 * (a5 * b4) + 65536 * (a5 * b5) + 16777216 * (a5 * b6) + 4294967296 * (a5 * b7)), ?_⟩
  simp only [rowsum, Nat.reduceLT, if_true, if_false] at h ⊢
  omega
theorem sum_row6 (y a0 a1 a2 a3 a4 a5 a6 a7 b0 b1 b2 b3 b4 b5 b6 b7 o0 o1 o2 o3 o4 o5 o6 o7 n6 n7 c0 c1 p0 p1 : Int) (h : Sum8 y a0 a1 a2 a3 a4 a5 a6 a7 6 o0 o1 o2 o3 o4 o5 o6 o7) (e0 : o6 + p0 = 256 * c0 + n6) (e1 : o7 + p1 + c0 = 256 * c1 + n7) (q0 : p0 = a6 * b0) (q1 : p1 = a6 * b1)
    (hq : a6 * y = a6 * b0 + 256 * (a6 * b1) + 65536 * (a6 * b2) + 16777216 * (a6 * b3) + 4294967296 * (a6 * b4) + 1099511627776 * (a6 * b5) + 281474976710656 * (a6 * b6) + 72057594037927936 * (a6 * b7)) :
    Sum8 y a0 a1 a2 a3 a4 a5 a6 a7 7 o0 o1 o2 o3 o4 o5 n6 n7 := by
  obtain ⟨K, h⟩ := h
  refine ⟨K - (c1 + 1 * (a6 * b2) + 256 * (a6 * b3) + 65536 * (a6 * b4) + 16777216 * (a6 * b5) + 4294967296 * (a6 * b6) + 1099511627776 * (a6 * b7)), ?_⟩
  simp only [rowsum, Nat.reduceLT, if_true, if_false] at h ⊢
  omega
theorem sum_row7 (y a0 a1 a2 a3 a4 a5 a6 a7 b0 b1 b2 b3 b4 b5 b6 b7 o0 o1 o2 o3 o4 o5 o6 o7 n7 c0 p0 : Int) (h : Sum8 y a0 a1 a2 a3 a4 a5 a6 a7 7 o0 o1 o2 o3 o4 o5 o6 o7) (e0 : o7 + p0 = 256 * c0 + n7) (q0 : p0 = a7 * b0)
    (hq : a7 * y = a7 * b0 + 256 * (a7 * b1) + 65536 * (a7 * b2) + 16777216 * (a7 * b3) + 4294967296 * (a7 * b4) + 1099511627776 * (a7 * b5) + 281474976710656 * (a7 * b6) + 72057594037927936 * (a7 * b7)) :
    Sum8 y a0 a1 a2 a3 a4 a5 a6 a7 8 o0 o1 o2 o3 o4 o5 o6 n7 := by
  obtain ⟨K, h⟩ := h
  refine ⟨K - (c0 + 1 * (a7 * b1) + 256 * (a7 * b2) + 65536 * (a7 * b3) + 16777216 * (a7 * b4) + 4294967296 * (a7 * b5) + 1099511627776 * (a7 * b6) + 281474976710656 * (a7 * b7)), ?_⟩
  simp only [rowsum, Nat.reduceLT, if_true, if_false] at h ⊢
  omega

end Go.Proofs.Ythkimoladjpjgaa
