/-
  Contracts of heap.hasRoom and heap.meant. Conditions: as said.
-/
import Derived.Test.YtfeeikajekemlaaHp
import Derived.Deep.AppendLies
import Derived.Test.YtfeeikajekemlaaWa
import Derived.Test.YtfeeikajekemlaaMe1
import Derived.Test.YtfeeikajekemlaaMe2
import Derived.Test.YtfeeikajekemlaaMe3
import Derived.Test.YtfeeikajekemlaaMe4
namespace Go.Proofs.Ytfeeikajekemlaa
open Go.RowKit
set_option linter.unusedVariables false
set_option maxRecDepth 100000

theorem room_nil (n : Int) (w : World) : Calls Try.prog 40 #[.pointer none, .int .i64 n] w fun e w' => e = .returned (.bool false) ∧ Below w.heap.size w w' := by
  go_enter Try.func40, Try.ntmps40
  go_wp2_with fail
  go_quiet (fail)
  go_wp2_with fail
  go_ret
  exact ⟨rfl, below_drewN _ _⟩

set_option maxHeartbeats 1000000 in
theorem room_any {w : World} {own : Owns} {k p room : Nat} {m : M} (h : Hp w own k p room m) (n : Int) : Calls Try.prog 40 #[.pointer (some ⟨p, 0, none⟩), .int .i64 n] w fun e w' => e = .returned (.bool (decide (n < (room : Int) - m.cells))) ∧ Below w.heap.size w w' := by
  obtain ⟨vo, va, bl, vb, al, xs, h⟩ := h
  have c0 : w.cell? ⟨p, 0, none⟩ = some (.int .i64 room) := h.hd.cell (by omega)
  have c1 : w.cell? ⟨p, 1, none⟩ = some (.int .i64 m.cells) := h.hd.cell (by omega)
  have hr := h.rm
  have hf := h.ok.fits
  clear h
  go_enter Try.func40, Try.ntmps40
  go_wp2_with fail
  go_quiet (fail)
  go_wp2_with fail
  go_ret
  exact ⟨rfl, below_drewN _ _⟩

/-- What meant answers. -/
def MeanP (w : World) (L : List Ob) (v : Vl) (e : Ending) (w' : World) : Prop := ∃ x, e = .returned (.tuple #[ocV x, .bool (meansB L v)]) ∧ Like (fun _ => True) w x (meant L v) ∧ Below w.heap.size w w'
theorem like0 (w : World) : Like (fun _ => True) w oc0 ob0 := ⟨rfl, rfl, rfl, rfl, fun _ => ⟨rfl, rfl⟩, rv_nil⟩
theorem like3 (w : World) : Like (fun _ => True) w ⟨3, 0, { data := #[] }, none, 0, 0⟩ ⟨3, 0, { data := #[] }, []⟩ := ⟨rfl, rfl, rfl, rfl, fun _ => ⟨rfl, rfl⟩, rv_nil⟩

set_option maxHeartbeats 1000000 in
theorem meant_nil (v : Vl) (w : World) : Calls Try.prog 44 #[.pointer none, vlV v] w fun e w' => e = .returned (.tuple #[ocV oc0, .bool false]) ∧ Below w.heap.size w w' := by
  obtain ⟨kd, n, re, im⟩ := v
  go_enter Try.func44, Try.ntmps44
  go_wp2_with fail
  refine bodyPost_ret (v := .tuple #[ocV oc0, .bool false]) (by simp [results, Try.results44, go_sem, oc0]) rfl ⟨rfl, by go_grown⟩

set_option maxHeartbeats 1000000 in
theorem meant_zero (p : Nat) (re im : Int) (w : World) : Calls Try.prog 44 #[.pointer (some ⟨p, 0, none⟩), .agg #[.int .u8 3, .int .i64 0, .int .i64 re, .int .i64 im]] w fun e w' => e = .returned (.tuple #[ocV ⟨3, 0, { data := #[] }, none, 0, 0⟩, .bool true]) ∧ Below w.heap.size w w' := by
  go_enter Try.func44, Try.ntmps44
  go_wp2_with fail
  refine bodyPost_ret (v := .tuple #[ocV ⟨3, 0, { data := #[] }, none, 0, 0⟩, .bool true]) (by simp [results, Try.results44, go_sem]) rfl ⟨rfl, by go_grown⟩

/-- The object of number i, in memory. -/
theorem HeapAt.obj {w : World} {own : Owns} {k p room : Nat} {m : M} {vo va : Value} {bl vb : Nat → Nat} {al : Nat → Bool} {xs : Nat → Oc} (h : HeapAt w own k p room m vo va bl vb al xs) {i : Nat} (hi : i < m.L.length) :
    ∃ g cA, vo = .slice (some ⟨g, 0, none⟩) m.L.length cA ∧ w.cell? ⟨g, i, none⟩ = some (.pointer (some ⟨bl i, 0, none⟩)) ∧ AtO w (bl i) 0 (xs i) := by
  obtain ⟨g, cap, rfl, _, _⟩ := h.obs.form (by omega)
  refine ⟨g, cap, rfl, ?_, (h.at_ i hi).cells⟩
  rw [h.obs.cellAt i (by omega)]
  exact ptrs_get bl _ i hi
theorem HeapAt.len {w : World} {own : Owns} {k p room : Nat} {m : M} {vo va : Value} {bl vb : Nat → Nat} {al : Nat → Bool} {xs : Nat → Oc} (h : HeapAt w own k p room m vo va bl vb al xs) : m.L.length ≤ 65536 := by
  have := costs_len m.L; have := h.ok.sum; have := h.ok.fits; have := h.rm; omega

theorem meant_any {w : World} {own : Owns} {k p room : Nat} {m : M} (h : Hp w own k p room m) (v : Vl) : Calls Try.prog 44 #[.pointer (some ⟨p, 0, none⟩), vlV v] w (MeanP w m.L v) := by
  obtain ⟨vo, va, bl, vb, al, xs, h⟩ := h
  have hlen := h.len
  obtain ⟨A, cA, hvo⟩ := own_form h.obs
  have c2 : w.cell? ⟨p, 2, none⟩ = some (.slice A m.L.length cA) := by rw [← hvo]; exact h.hd.cell (by omega)
  obtain ⟨kd, n, re, im⟩ := v
  by_cases h0 : kd = 3 ∧ n = 0
  · obtain ⟨rfl, rfl⟩ := h0
    refine (meant_zero p re im w).mono ?_
    rintro e w' ⟨rfl, hb⟩
    refine ⟨⟨3, 0, { data := #[] }, none, 0, 0⟩, ?_, ?_, hb⟩
    · rw [show meansB m.L ⟨3, 0, re, im⟩ = true by simp [meansB]]
    · rw [show meant m.L ⟨3, 0, re, im⟩ = ⟨3, 0, { data := #[] }, []⟩ by simp [meant]]
      exact like3 w
  · have hno : nameB m.L ⟨kd, n, re, im⟩ = false → MeanP w m.L ⟨kd, n, re, im⟩ = fun e w' => ∃ x, e = .returned (.tuple #[ocV x, .bool false]) ∧ Like (fun _ => True) w x ob0 ∧ Below w.heap.size w w' := fun hn => by
      have hM : meansB m.L ⟨kd, n, re, im⟩ = false := by
        unfold meansB; rw [hn]
        by_cases a : kd = 3
        · simp [a]; exact fun b => h0 ⟨a, b⟩
        · simp [a]
      have hX : meant m.L ⟨kd, n, re, im⟩ = ob0 := by unfold meant; rw [if_neg h0, if_neg (by rw [hn]; simp)]
      unfold MeanP; rw [hM, hX]
    have hT : kd = 3 → ((kd : Int) == 3) = true ∧ (n == 0) = false := fun e => ⟨by rw [beq_iff_eq]; omega, by rw [beq_eq_false_iff_ne]; exact fun z => h0 ⟨e, z⟩⟩
    have hO : kd ≠ 3 → ((kd : Int) == 3) = false := fun e => by rw [beq_eq_false_iff_ne]; omega
    by_cases h1 : n < 1
    · rw [hno (by simp [nameB]; intro a; omega)]
      by_cases hk : kd = 3
      · exact (meant_lo_t p kd m.L.length n re im A cA w c2 hlen (hT hk).1 (hT hk).2 h1).mono fun e w' ⟨a, b⟩ => ⟨oc0, a, like0 w, b⟩
      · exact (meant_lo_o p kd m.L.length n re im A cA w c2 hlen (hO hk) h1).mono fun e w' ⟨a, b⟩ => ⟨oc0, a, like0 w, b⟩
    · by_cases h2 : (m.L.length : Int) < n
      · rw [hno (by simp [nameB]; intro a; omega)]
        by_cases hk : kd = 3
        · exact (meant_hi_t p kd m.L.length n re im A cA w c2 hlen (hT hk).1 (hT hk).2 h1 h2).mono fun e w' ⟨a, b⟩ => ⟨oc0, a, like0 w, b⟩
        · exact (meant_hi_o p kd m.L.length n re im A cA w c2 hlen (hO hk) h1 h2).mono fun e w' ⟨a, b⟩ => ⟨oc0, a, like0 w, b⟩
      · obtain ⟨i, rfl⟩ : ∃ i : Nat, n = (i : Int) + 1 := ⟨(n - 1).toNat, by omega⟩
        have hi : i < m.L.length := by omega
        obtain ⟨g, cB, hv2, g0, hat⟩ := h.obj hi
        rw [hvo] at hv2
        obtain ⟨hA, hcc⟩ : A = some ⟨g, 0, none⟩ ∧ cA = cB := by injection hv2 with a b c; exact ⟨a, c⟩
        have ho := h.at_ i hi
        have b0 := hat.c0
        have b1 := hat.c1
        have b2 := hat.c2
        have b3 := hat.c3
        simp only [Nat.zero_add] at b1 b2 b3
        have hat_ : Ytfeeikajekemlaa.at_ ⟨kd, (i : Int) + 1, re, im⟩ = i := by simp [Ytfeeikajekemlaa.at_]
        by_cases hke : (xs i).kind = kd
        · have hn : nameB m.L ⟨kd, (i : Int) + 1, re, im⟩ = true := by
            simp [nameB]
            refine ⟨by omega, ?_⟩
            rw [← ho.kind]; exact hke
          have hM : meansB m.L ⟨kd, (i : Int) + 1, re, im⟩ = true := by unfold meansB; rw [hn]; simp
          have hX : Ytfeeikajekemlaa.meant m.L ⟨kd, (i : Int) + 1, re, im⟩ = ob m.L i := by unfold Ytfeeikajekemlaa.meant; rw [if_neg h0, if_pos hn, hat_]
          have hL : Like (fun _ => True) w (xs i) (ob m.L i) := ho.like
          unfold MeanP; rw [hM, hX]
          by_cases hk : kd = 3
          · exact (meant_eq_t p kd m.L.length _ re im A cA w c2 hlen i g (bl i) (xs i).kind (xs i).of (xs i).text (xs i).a (xs i).n (xs i).c rfl hi hA g0 b0 b1 b2 b3 (hT hk).1 (hT hk).2 hke).mono fun e w' ⟨a, b⟩ => ⟨xs i, a, hL, b⟩
          · exact (meant_eq_o p kd m.L.length _ re im A cA w c2 hlen i g (bl i) (xs i).kind (xs i).of (xs i).text (xs i).a (xs i).n (xs i).c rfl hi hA g0 b0 b1 b2 b3 (hO hk) hke).mono fun e w' ⟨a, b⟩ => ⟨xs i, a, hL, b⟩
        · rw [hno (by
            simp [nameB]
            intros
            rw [← ho.kind]; exact hke)]
          by_cases hk : kd = 3
          · exact (meant_ne_t p kd m.L.length _ re im A cA w c2 hlen i g (bl i) (xs i).kind (xs i).of (xs i).text (xs i).a (xs i).n (xs i).c rfl hi hA g0 b0 b1 b2 b3 (hT hk).1 (hT hk).2 hke).mono fun e w' ⟨a, b⟩ => ⟨oc0, a, like0 w, b⟩
          · exact (meant_ne_o p kd m.L.length _ re im A cA w c2 hlen i g (bl i) (xs i).kind (xs i).of (xs i).text (xs i).a (xs i).n (xs i).c rfl hi hA g0 b0 b1 b2 b3 (hO hk) hke).mono fun e w' ⟨a, b⟩ => ⟨oc0, a, like0 w, b⟩

end Go.Proofs.Ytfeeikajekemlaa
