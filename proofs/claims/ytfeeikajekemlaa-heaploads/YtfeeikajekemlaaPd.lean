/-
  The document's Put, whatever is put where. Conditions: lists of at most 100000.
-/
import Derived.Test.YtfeeikajekemlaaDk
namespace Go.Proofs.Ytfeeikajekemlaa
open Go.RowKit
set_option linter.unusedVariables false
set_option linter.unusedSimpArgs false

theorem putd_any {P : Nat → Prop} {w : World} {a : Option Addr} {N c room : Nat} {m : M} (h : RL P w a N c m.L) (hP : ∀ b, w.heap.size ≤ b → P b) (hok : OkM room m) (hR : room ≤ 65536) (hvl : ∀ q, q < m.L.length → (ob m.L q).vals.length ≤ 100000) (v : Vl) (i : Int) (x : Vl) :
    Calls Try.prog 31 #[.agg #[.int .i64 room, .int .i64 (m.cells : Nat), .slice a N c], vlV v, .int .i64 i, vlV x] w (PutD P w room (putM m v i x) (putT m.L v i)) := by
  have hN : N ≤ 65536 := by
    obtain ⟨cs, h1, h2, h3⟩ := h
    have := costs_len m.L
    have := hok.sum
    have := hok.fits
    omega
  obtain ⟨kd, n, re, im⟩ := v
  obtain ⟨kx, nx, rx, ix⟩ := x
  by_cases hk : kd = 3
  · have ht : putT m.L ⟨kd, n, re, im⟩ i = 3 := by unfold putT; rw [if_pos (.inl hk)]
    rw [putM_id (by omega), ht]
    exact putd_1 h hN kd n re im i kx nx rx ix hk
  · cases hn : nameB m.L ⟨kd, n, re, im⟩ with
    | false =>
      have ht : putT m.L ⟨kd, n, re, im⟩ i = 3 := by unfold putT; rw [if_pos (.inr (by rw [hn]; simp))]
      rw [putM_id (by omega), ht]
      exact putd_2 h hN kd n re im i kx nx rx ix hk hn
    | true =>
      obtain ⟨_, _, h5, h6, _⟩ := name_parts hn
      obtain ⟨q, hq⟩ : ∃ q, at_ ⟨kd, n, re, im⟩ = q := ⟨_, rfl⟩
      rw [hq] at h5 h6
      simp only at h6
      obtain rfl : n = (q : Int) + 1 := by omega
      by_cases h0 : i < 0
      · have ht : putT m.L ⟨kd, (q : Int) + 1, re, im⟩ i = 2 := by unfold putT; rw [if_neg (fun e => e.elim hk (fun z => z hn)), if_pos (.inl h0)]
        rw [putM_id (by omega), ht]
        exact putd_3 h hN kd q re im i kx nx rx ix hk hn h0
      · by_cases h1 : ((ob m.L q).vals.length : Int) ≤ i
        · have ht : putT m.L ⟨kd, (q : Int) + 1, re, im⟩ i = 2 := by unfold putT; rw [if_neg (fun e => e.elim hk (fun z => z hn)), if_pos (.inr (by rw [hq]; exact h1))]
          rw [putM_id (by omega), ht]
          exact putd_4 h hN kd q re im i kx nx rx ix hk hn h0 h1
        · have ht : putT m.L ⟨kd, (q : Int) + 1, re, im⟩ i = 0 := by unfold putT; rw [if_neg (fun e => e.elim hk (fun z => z hn)), if_neg (fun e => e.elim h0 (by rw [hq]; exact h1))]
          have hm : putM m ⟨kd, (q : Int) + 1, re, im⟩ i ⟨kx, nx, rx, ix⟩ = ⟨m.cells, m.L.set q (putO (ob m.L q) i.toNat ⟨kx, nx, rx, ix⟩)⟩ := by unfold putM; rw [if_pos ht, hq]
          rw [hm, ht]
          obtain ⟨j, rfl⟩ : ∃ j : Nat, i = j := ⟨i.toNat, by omega⟩
          exact putd_5 h hN kd q j re im kx nx rx ix hk hn (by omega) (hvl q h5) hP

end Go.Proofs.Ytfeeikajekemlaa
