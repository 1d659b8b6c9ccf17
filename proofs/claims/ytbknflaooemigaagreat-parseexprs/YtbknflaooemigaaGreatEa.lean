/-
 Contracts of the document's Equal at two rows of the same nodes, and of its Right at the row of one tree (layer 5). Conditions: rows of at most 1000000 nodes.
-/
import Derived.Test.YtbknflaooemigaaGreatSms
namespace Go.Proofs.YtbknflaooemigaaGreat
open Go.RowKit Go.Sort
set_option linter.unusedVariables false

set_option maxHeartbeats 2000000 in
set_option maxRecDepth 100000 in
theorem requal_self (a : Option Addr) (n cap : Nat) (l : List Nd) (a' : Option Addr) (cap' : Nat) (w : World) (hn : Hid (l.length = n)) (hl : n ≤ 1000000) (hr : Hid (NRow w a l)) (hr' : Hid (NRow w a' l)) :
  Calls Tryz.prog 8 #[.slice a n cap, .slice a' n cap'] w fun e w' => e = .returned (.bool true) ∧ Below w.heap.size w w' := by
 have e0 : ((n : Int) != (n : Int)) = false := by simp
 have hgd := guard_nd
 go_enter Tryz.func8, Tryz.ntmps8
 go_wp2_with fail
 go_loopw [13] (fun j wr => ∃ k : Nat, k ≤ n ∧ j = .int .i64 k ∧ Below w.heap.size w wr) (fun j _ => n - (intOf j).toNat)
 case atStart => exact ⟨0, Nat.zero_le _, rfl, Below.refl _ _⟩
 case round =>
  obtain ⟨k, hk, rfl, hbel⟩ := hrel
  by_cases hlt : k < n
  ·obtain ⟨b, o, rfl, hat⟩ := (hr.out.carry hbel) k (by rw [hn.out]; exact hlt)
   obtain ⟨b', o', rfl, hat'⟩ := (hr'.out.carry hbel) k (by rw [hn.out]; exact hlt)
   obtain ⟨c0, c1, c2, c3, c4, c5⟩ := hat
   obtain ⟨d0, d1, d2, d3, d4, d5⟩ := hat'
   obtain ⟨kd, ln, cl, s, num, tx, hN⟩ : ∃ kd ln cl s num tx, nd l k = ⟨kd, ln, cl, s, num, tx⟩ := ⟨_, _, _, _, _, _, rfl⟩
   rw [hN] at c0 c1 c2 c3 c4 c5 d0 d1 d2 d3 d4 d5
   simp only at c0 c1 c2 c3 c4 c5 d0 d1 d2 d3 d4 d5
   have hq := neq_self kd ln cl s num tx
   replace hbel := Lib.hid hbel
   clear hN
   go_wp2_with fail
   go_quiet (fail)
   have hb5 := Lib.hid (below_step hbel.out (below_drewN _ nq))
   go_wp2_with fail
   go_roundw
   case rel => exact ⟨k + 1, hlt, by go_num, hb5.out⟩
   case measure => simp [intOf]; omega
  ·replace hbel := Lib.hid hbel
   go_wp2_with fail
   go_ret
   exact ⟨rfl, hbel.out⟩

theorem nd_mid (A : List Nd) (t : Nd) (B : List Nd) : nd (A ++ t :: B) A.length = t := by simp [nd]
theorem cnt_pos {F : Fo} (h : 0 < F.cnt) : ∃ i k r, F = .cons i k r := by
 cases F with
 | nil => simp [Fo.cnt] at h
 | cons i k r => exact ⟨i, k, r, rfl⟩
def TRel (K : Fo) (p : Nat) (j : Value) : Prop := ∃ K1 K2 : Fo, K = K1.app K2 ∧ j = .int .i64 ((p + K1.cnt : Nat) : Int)

set_option maxHeartbeats 2000000 in
theorem end_tree (b o n cap : Nat) (l : List Nd) (w : World) (hn : Hid (l.length = n)) (hl : n ≤ 1000000) (hr : Hid (∀ i, i < l.length → At w b (o + i * 6) (nd l i))) (dd : Nat) : ∀ (A : List Nd) (i : Inf) (K : Fo) (B : List Nd), l = A ++ ((Fo.cons i K .nil).pre ++ B) → K.cnt ≤ dd → ∀ (p : Nat), A.length = p → ∀ (E : Nat), p + 1 + K.cnt = E →
  Calls Tryz.prog 16 #[.slice (some ⟨b, o, none⟩) n cap, .int .i64 (p : Nat)] w fun e w' => e = .returned (.int .i64 (E : Nat)) ∧ w = w' := by
 induction dd with
 | zero => ?_
 | succ dd ih => ?_
 all_goals
  intro A i K B hA hd p hp E hE
  obtain ⟨m, hm⟩ : ∃ m, K.cnt = m := ⟨_, rfl⟩
  have hlen : l.length = p + 1 + m + B.length := by rw [hA]; simp [Fo.pre, pre_len, hm]; omega
  have hpn : p + 1 + m ≤ n := by rw [← hn.out]; omega
  have c3 := (hr.out p (by omega)).c3
  have hsz : (nd l p).size = (m : Int) := by
   rw [← hp, hA, show (Fo.cons i K .nil).pre ++ B = i.nd K.cnt :: (K.pre ++ B) by simp [Fo.pre], nd_mid]; simp [Inf.nd, hm]
  rw [hsz] at c3
  rw [hm] at hE
  have hb0 : ¬ (m : Int) < 0 := by omega
  have hb1 : ¬ (n : Int) - 1 - p < m := by omega
  have hb2 : ¬ (n : Int) ≤ p := by omega
  replace hA := Lib.hid hA
  replace hp := Lib.hid hp
  replace hlen := Lib.hid hlen
  replace hm := Lib.hid hm
  have hEw : (p : Int) + 1 + m = (E : Nat) := by omega
  clear hsz
  go_enter Tryz.func16, Tryz.ntmps16
  go_wp2_with fail
  go_loop [6] (fun j => TRel K (p + 1) j) (fun j => E - (intOf j).toNat)
  case atStart => exact ⟨.nil, K, rfl, by simp [Fo.cnt]⟩
  case round =>
   obtain ⟨K1, K2, hK, rfl⟩ := hrel
   obtain ⟨q, hq⟩ : ∃ q, p + 1 + K1.cnt = q := ⟨_, rfl⟩
   have hcnt : K1.cnt + K2.cnt = m := by rw [← hm.out, hK, cnt_app]
   rw [hq]
   by_cases hlt : q < E
   ·obtain ⟨i2, K3, r, rfl⟩ := cnt_pos (F := K2) (by omega)
    have hc3 : K1.cnt + (K3.cnt + 1 + r.cnt) = m := hcnt
    first
    | (exfalso; have := hm.out; omega)
    | (
    have HI := Lib.hid (ih (A ++ i.nd K.cnt :: K1.pre) i2 K3 (r.pre ++ B) (by rw [hA.out, hK]; simp [Fo.pre, pre_app]) (by have := hm.out; omega) q (by have := hp.out; simp [pre_len]; omega) (q + 1 + K3.cnt) rfl)
    have HREL : Hid (TRel K (p + 1) (.int .i64 ((q + 1 + K3.cnt : Nat) : Int))) := Lib.hid ⟨K1.app (.cons i2 K3 .nil), r, by rw [hK, app_assoc]; rfl, by rw [cnt_app, ← hq]; simp [Fo.cnt]; omega⟩
    have hlt' : (q : Int) < p + 1 + m := by omega
    have hq0 : ¬ (q : Int) < 0 := by omega
    have hqz : (0 : Int) ≤ (q : Int) := by omega
    obtain ⟨c9, hc9⟩ : ∃ c9, q + 1 + K3.cnt = c9 := ⟨_, rfl⟩
    rw [hc9] at HI HREL
    have hc9' : q < c9 := by omega
    clear hK hcnt hc3 hq ih
    go_wp2_with (go_at_call 16; refine HI.out.mono ?_; rintro e w' ⟨rfl, rfl⟩)
    go_round
    case rel => exact HREL.out
    case measure => simp [intOf]; omega)
   ·have hqe : q = E := by omega
    subst hqe
    have hlt' : ¬ (q : Int) < p + 1 + m := by omega
    have hne : ((q : Int) != p + 1 + m) = false := by rw [hEw]; simp
    have hqz : (0 : Int) ≤ (q : Int) := by omega
    replace hEw := Lib.hid hEw
    clear hK hcnt hq
    try clear ih
    go_wp2_with fail
    go_ret
    exact ⟨rfl, rfl⟩

theorem rright_tree (b o n cap : Nat) (w : World) (i : Inf) (K : Fo) (hn : (Fo.cons i K .nil).pre.length = n) (hl : n ≤ 1000000) (hr : NRow w (some ⟨b, o, none⟩) (Fo.cons i K .nil).pre) :
  Calls Tryz.prog 9 #[.slice (some ⟨b, o, none⟩) n cap] w fun e w' => e = .returned (.bool true) ∧ w = w' := by
 have hE : 0 + 1 + K.cnt = n := by rw [← hn]; simp [Fo.pre, pre_len]; omega
 have HE := Lib.hid (end_tree b o n cap _ w (Lib.hid hn) hl (Lib.hid (fun j hj => by obtain ⟨g, o', h1, h2⟩ := hr j hj; cases h1; exact h2)) K.cnt [] i K [] (by simp) (Nat.le_refl _) 0 rfl n hE)
 have g : (0 : Int) < n := by omega
 have g2 : ((n : Int) == (n : Int)) = true := by simp
 clear hn hE hr
 go_enter Tryz.func9, Tryz.ntmps9
 go_wp2_with (go_at_call 16; refine HE.out.mono ?_; rintro e w' ⟨rfl, rfl⟩)
 go_ret
 exact ⟨rfl, rfl⟩

end Go.Proofs.YtbknflaooemigaaGreat
