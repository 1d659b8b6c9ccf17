/-
 The walk of ParseExprs. Conditions: none.
-/
import Derived.Test.YtbknflaooemigaaGreatEa
import Derived.Test.YtbknflaooemigaaGreatEd
import Derived.Test.YtbknflaooemigaaGreatAw
namespace Go.Proofs.YtbknflaooemigaaGreat
open Go.RowKit Go.Sort
set_option linter.unusedVariables false
set_option linter.unusedSimpArgs false

theorem neq_fau (a b c : Int) (w : World) : (binOp .neq 26 (.agg #[.int .i64 a, .int .i64 b, .int .i64 c]) (.agg #[.int .i64 a, .int .i64 b, .int .i64 c])).run Tryz.prog w = .ok (.bool false) w := by
 rw [run_neq_struct, equalIn_fau]; simp
theorem exp_long (w : World) (s : ByteArray) (hs : 3000 < s.size) : Calls Tryz.prog 3 #[.string s] w fun e w' => e = .returned (.bool true) ∧ Below w.heap.size w w' := by
 have hA := Lib.hid awake_any
 have hi : (3000 : Int) < s.size := by omega
 go_enter Tryz.func3, Tryz.ntmps3
 go_wp2_with fail
 refine (hA.out _).mono ?_
 rintro e w2 ⟨rfl, hb2⟩
 replace hb2 := Lib.hid hb2
 go_wp2_with fail
 go_ret
 exact ⟨rfl, hb2.out⟩

set_option maxHeartbeats 2000000 in
theorem exp_walk (w : World) (s : ByteArray) (hs : s.size ≤ 3000) (L : List Nd) (c : Int) (l k : Nat)
  (H1 : Hid (∀ w, Calls Tryz.prog 6 #[.string s] w (RetN w (L, (c, l, k))))) (H2 : Hid (∀ w, Calls Tryz.prog 7 #[.string s] w (RetN w (L, (c, l, k)))))
  (hgood : Hid (c = 0 → ∃ i K, L = (Fo.cons i K .nil).pre ∧ 21 ≤ i.kind ∧ i.kind ≤ 32)) :
  Calls Tryz.prog 3 #[.string s] w fun e w' => e = .returned (.bool true) ∧ Below w.heap.size w w' := by
 have hA := Lib.hid awake_any
 have hi : ¬ (3000 : Int) < s.size := by omega
 have hnf := neq_fau c l k
 have hgf := guard_fau
 go_enter Tryz.func3, Tryz.ntmps3
 go_wp2_with fail
 refine (H1.out _).mono ?_
 rintro e w1 ⟨a, n, cap, rfl, hn, hn2, hr, -, hb1⟩
 replace hn := Lib.hid hn
 replace hr := Lib.hid hr
 replace hb1 := Lib.hid hb1
 go_wp2_with fail
 refine (H2.out _).mono ?_
 rintro e w2 ⟨a', n', cap', rfl, hn', hn2', hr', -, hb2⟩
 obtain rfl : n = n' := hn.out.symm.trans hn'
 have hF := Lib.hid (show w2.cell? ⟨w1.heap.size, 0, none⟩ = some (.int .i64 c) ∧ w2.cell? ⟨w1.heap.size, 1, none⟩ = some (.int .i64 (l : Nat)) ∧ w2.cell? ⟨w1.heap.size, 2, none⟩ = some (.int .i64 (k : Nat)) from ⟨cell_carry hb2 (by simp [go_sem]), cell_carry hb2 (by simp [go_sem]), cell_carry hb2 (by simp [go_sem])⟩)
 replace hr' := Lib.hid hr'
 replace hb2 := Lib.hid hb2
 clear H1 H2 hn'
 go_wp2_with fail
 refine (requal_self a n cap L a' cap' _ hn (by omega) (Lib.hid (((hr.out.carry (below_alloc _ _)).carry hb2.out).carry (below_alloc _ _))) (Lib.hid (hr'.out.carry (below_alloc _ _)))).mono ?_
 rintro e w3 ⟨rfl, hb3⟩
 obtain ⟨q0, q1, q2⟩ := hF.out
 have p0 := cell_carry hb3 (cell_alloc q0 (FauO c l k))
 have p1 := cell_carry hb3 (cell_alloc q1 (FauO c l k))
 have p2 := cell_carry hb3 (cell_alloc q2 (FauO c l k))
 have g0 : w3.cell? ⟨w2.heap.size, 0, none⟩ = some (.int .i64 c) := cell_carry hb3 (by simp [go_sem])
 have g1 : w3.cell? ⟨w2.heap.size, 1, none⟩ = some (.int .i64 (l : Nat)) := cell_carry hb3 (by simp [go_sem])
 have g2 : w3.cell? ⟨w2.heap.size, 2, none⟩ = some (.int .i64 (k : Nat)) := cell_carry hb3 (by simp [go_sem])
 have hbb := Lib.hid (below_step (below_step (below_step (below_step hb1.out (below_alloc _ _)) hb2.out) (below_alloc _ _)) hb3)
 replace hr := Lib.hid ((((hr.out.carry (below_alloc _ _)).carry hb2.out).carry (below_alloc _ _)).carry hb3)
 clear q0 q1 q2 hF hb1 hb2 hb3 hr'
 by_cases h0 : c = 0
 ·obtain ⟨i, K, rfl, hk1, hk2⟩ := hgood.out h0
  subst h0
  clear hgood
  have hn9 : (Fo.cons i K .nil).pre.length = n := hn.out
  have hnp : 1 ≤ n := by rw [← hn9]; simp [Fo.pre]
  obtain ⟨g, o, rfl, hat⟩ := hr.out 0 (by omega)
  have c0 := hat.c0
  rw [show nd (Fo.cons i K .nil).pre 0 = i.nd K.cnt by simp [nd, Fo.pre], Nat.zero_mul, Nat.add_zero] at c0
  obtain ⟨kd, hkd⟩ : ∃ kd, i.kind = kd := ⟨_, rfl⟩
  have c0' : w3.cell? ⟨g, o, none⟩ = some (.int .u8 (kd : Nat)) := by rw [← hkd]; exact c0
  rw [hkd] at hk1 hk2
  have k1 : (21 : Int) ≤ (kd : Int) := by omega
  have k2 : (kd : Int) ≤ 32 := by omega
  have HR := Lib.hid (rright_tree g o n cap w3 i K hn9 (by omega) hr.out)
  clear hat c0 hkd hk1 hk2 hn9
  go_wp2_with fail
  refine HR.out.mono ?_
  rintro e w4 ⟨rfl, rfl⟩
  go_wp2_with fail
  refine (hA.out _).mono ?_
  rintro e w5 ⟨rfl, hb5⟩
  replace hb5 := Lib.hid hb5
  go_wp2_with fail
  go_ret
  exact ⟨rfl, below_step hbb.out hb5.out⟩
 ·have e0 : (c != 0) = true := by simp [h0]
  clear hgood
  go_wp2_with fail
  refine (hA.out _).mono ?_
  rintro e w5 ⟨rfl, hb5⟩
  replace hb5 := Lib.hid hb5
  go_wp2_with fail
  go_ret
  exact ⟨rfl, below_step hbb.out hb5.out⟩

theorem answer_good (s : List UInt8) (h : (readA exprP s).2.1 = 0) : ∃ i K, (readA exprP s).1 = (Fo.cons i K .nil).pre ∧ 21 ≤ i.kind ∧ i.kind ≤ 32 := by
 have hk := toks_ok s 1 1
 unfold readA at *
 split at h
 ·cases h
 ·rename_i h1
  rw [if_neg h1]
  cases ht : toks s 1 1 with
  | error f => rw [ht] at h; exact absurd h (hk.2 f ht)
  | ok T =>
   rw [ht] at h
   simp only at h ⊢
   obtain ⟨hE, -⟩ := hk.1 T ht
   have hf : Fit T T.length ⟨0, 0, 0, 0, 0⟩ := by
    obtain ⟨t, l, rfl⟩ := hE.ne
    exact ⟨by simp, by simp, fun _ => by simp⟩
   have ha := (eu_ag hE (toks_plain s 1 1 T ht) T.length).1 ⟨0, 0, 0, 0, 0⟩ 0 hf rfl rfl (by omega)
   have ha' : Agr T 0 (exprP T.length 0 T) ((euS T T.length).1 ⟨0, 0, 0, 0, 0⟩) := ha
   have hsg := sing_expr T.length 0 T
   unfold wholeP at h ⊢
   cases he : exprP T.length 0 T with
   | bad c l k =>
    rw [he] at h ha'
    exact absurd h ha'.2.2.2
   | ok F r =>
    rw [he] at h
    simp only [Out.bind] at h ⊢
    by_cases h8 : (hd r).kind = 8
    ·rw [if_pos h8]
     obtain ⟨i, K, hF, h1, h2⟩ := hsg F r he
     exact ⟨i, K, by rw [hF], h1, h2⟩
    ·rw [if_neg h8] at h
     cases h
theorem parseExprs_walk (a0 : ByteArray) (w : World) : Calls Tryz.prog 3 #[.string a0] w fun e w' => e = .returned (.bool true) ∧ Below w.heap.size w w' := by
 by_cases hs : 3000 < a0.size
 ·exact exp_long w a0 hs
 ·have H1 := fun w => expr_any a0 w
  have H2 := fun w => rexpr_any a0 w (by omega)
  have hg := answer_good a0.data.toList
  obtain ⟨⟨L, c, l, k⟩, hq⟩ : ∃ q, readA exprP a0.data.toList = q := ⟨_, rfl⟩
  rw [hq] at hg H1 H2
  exact exp_walk w a0 (by omega) L c l k (Lib.hid H1) (Lib.hid H2) (Lib.hid hg)
end Go.Proofs.YtbknflaooemigaaGreat
