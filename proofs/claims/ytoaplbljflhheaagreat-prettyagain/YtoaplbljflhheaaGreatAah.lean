/-
 Contracts and plain facts on the way to PrettyAgain. Conditions: as each says.
-/
import Derived.Below
import Derived.Test.YtoaplbljflhheaaGreatAac
set_option maxHeartbeats 40000000
set_option maxRecDepth 100000
set_option linter.unusedVariables false
set_option linter.unusedSimpArgs false
namespace Go.Proofs.YtoaplbljflhheaaGreat.Nm
open _root_.Go.Proofs.Tryz
open Go.RowKit
theorem a6a (x d0 d1 d2 d3 d4 d5 d6 d7 : Int) (w : World) (hd : Qi x d0 d1 d2 d3 d4 d5 d6 d7) :
  Calls prog 91 #[dv d0 d1 d2 d3 d4 d5 d6 d7] w fun e w' => e = .returned (.bool (b1c x)) ∧ Below w.heap.size w w' := by
 have H := zz hd;clear hd;go_enter func91, ntmps91;go_wp2;go_ret;refine ⟨Xx ?_, by go_grown⟩;have := H.out;unfold Qi at this;unfold b1c;rw [decide_eq_decide]; omega
theorem Zh (x : Int) (b : Bool) (a0 a1 a2 a3 a4 a5 a6 a7 : Int) (w : World) (ha : Qi x a0 a1 a2 a3 a4 a5 a6 a7) (hb : b1c x = b) :
  Calls prog 91 #[dv a0 a1 a2 a3 a4 a5 a6 a7] w fun e w' => e = .returned (.bool b) ∧ Below w.heap.size w w' := hb ▸ a6a x a0 a1 a2 a3 a4 a5 a6 a7 w ha
theorem a7p (a u z n s : Int) (w : World) (hu : Hid (IntKind.u64.wrap a = u)) (hB : Hid (b1c u = true))
  (hz : Hid ((18446744073709551616 - u) % 18446744073709551616 = z)) (hn : Hid (wrap64 z = n)) (hs : IntKind.u64.wrap n = s) :
  Calls prog 59 #[.int .i64 a] w fun e w' => e = .returned (.int .u64 s) ∧ Below w.heap.size w w' := by
 go_enter func59, ntmps59;go_wp2_with fail;refine (b7y a u _ hu.out).mono ?_;rintro e w1 ⟨d0, d1, d2, d3, d4, d5, d6, d7, hD, rfl, hb1⟩;have HD := zz hD;clear hD;go_wp2_with fail;refine (Zh u true _ _ _ _ _ _ _ _ _ HD.out hB.out).mono ?_;rintro e w2 ⟨rfl, hb2⟩;obtain ⟨hc2, hf2⟩ := Ek hb2;simp only [World.size_alloc] at hc2 hf2;go_wp2_with fail;refine (a8y u z _ _ _ _ _ _ _ _ _ HD.out hz.out).mono ?_;rintro e w3 ⟨m0, m1, m2, m3, m4, m5, m6, m7, hM, rfl, hb3⟩;have HM := zz hM;clear hM;have hz2 := hb2.size;simp only [World.size_alloc] at hz2;have hc3 : ∀ o, w3.cell? ⟨w1.heap.size, o, none⟩ = w2.cell? ⟨w1.heap.size, o, none⟩ := fun o => hb3.cell (p := ⟨w1.heap.size, o, none⟩) (show w1.heap.size < w2.heap.size by omega)
 have hf3 : ∀ o, w3.frozen? ⟨w1.heap.size, o, none⟩ = w2.frozen? ⟨w1.heap.size, o, none⟩ := fun o => hb3.frozen (p := ⟨w1.heap.size, o, none⟩) (show w1.heap.size < w2.heap.size by omega)
 go_wp2_with fail;refine (Ua z n _ _ _ _ _ _ _ _ _ HM.out hn.out).mono ?_;rintro e w4 ⟨rfl, hb4⟩;go_wp2;go_ret;refine ⟨rfl, Ab ?_ hb4⟩;have B3 := Ab (Ab (hb1.alloc hb1.size _) hb2) hb3;have hq := hb1.size;clear hc2 hf2 hc3 hf3 hb2 hb3 hb4;go_grown
theorem a7o (a u n s : Int) (w : World) (hu : Hid (IntKind.u64.wrap a = u)) (hB : Hid (b1c u = false))
  (hn : Hid (wrap64 u = n)) (hs : IntKind.u64.wrap n = s) :
  Calls prog 59 #[.int .i64 a] w fun e w' => e = .returned (.int .u64 s) ∧ Below w.heap.size w w' := by
 go_enter func59, ntmps59;go_wp2_with fail;refine (b7y a u _ hu.out).mono ?_;rintro e w1 ⟨d0, d1, d2, d3, d4, d5, d6, d7, hD, rfl, hb1⟩;have HD := zz hD;clear hD;go_wp2_with fail;refine (Zh u false _ _ _ _ _ _ _ _ _ HD.out hB.out).mono ?_;rintro e w2 ⟨rfl, hb2⟩;obtain ⟨hc2, hf2⟩ := Ek hb2;simp only [World.size_alloc] at hc2 hf2;go_wp2_with fail;refine (Ua u n _ _ _ _ _ _ _ _ _ HD.out hn.out).mono ?_;rintro e w4 ⟨rfl, hb4⟩;go_wp2;go_ret;exact ⟨rfl, Ab (Ab (hb1.alloc hb1.size _) hb2) hb4⟩
theorem Xp (a : Int) (w : World) (h0 : -9223372036854775808 ≤ a) (h1 : a ≤ 9223372036854775807) :
  Calls prog 59 #[.int .i64 a] w fun e w' => e = .returned (.int .u64 a.natAbs) ∧ Below w.heap.size w w' := by
 by_cases h : a < 0
 ·refine a7p a (a + 18446744073709551616) (-a) (wrap64 (-a)) a.natAbs w ?_ ?_ ?_ rfl ?_
  ·show IntKind.u64.wrap a = _;rw [IntKind.wrap_u64]; omega
  ·show b1c _ = true;unfold b1c; rw [decide_eq_true_eq]; omega
  ·show _ = _;omega
  ·rw [IntKind.wrap_u64]; unfold wrap64; omega
 ·refine a7o a a (wrap64 a) a.natAbs w ?_ ?_ rfl ?_
  ·show IntKind.u64.wrap a = _;rw [IntKind.wrap_u64]; omega
  ·show b1c _ = false;unfold b1c; rw [decide_eq_false_iff_not]; omega
  ·rw [IntKind.wrap_u64]; unfold wrap64; omega
end Go.Proofs.YtoaplbljflhheaaGreat.Nm
