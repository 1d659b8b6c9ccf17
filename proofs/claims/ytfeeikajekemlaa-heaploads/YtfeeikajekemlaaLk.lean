/-
  does: looks, what both sides answer. Conditions: texts of at most 1000 bytes, at most 300 fields.
-/
import Derived.Test.YtfeeikajekemlaaPq
import Derived.Test.YtfeeikajekemlaaDs
import Derived.Test.YtfeeikajekemlaaAl
namespace Go.Proofs.Ytfeeikajekemlaa
open Go.RowKit
set_option linter.unusedVariables false
set_option linter.unusedSimpArgs false
set_option maxRecDepth 100000

set_option maxHeartbeats 1000000 in
theorem size_any2 {w : World} {own : Owns} {k p room : Nat} {m : M} (h : Hp w own k p room m) (v : Vl) (hs1 : (meant m.L v).text.size ≤ 1000000) (hs2 : (meant m.L v).vals.length ≤ 1000000) :
    Calls Try.prog 27 #[.pointer (some ⟨p, 0, none⟩), vlV v] w fun e w' => e = .returned (.tuple #[.int .i64 (if meansB m.L v = true then ((meant m.L v).text.size : Int) + (meant m.L v).vals.length else 0), .int .u8 (if meansB m.L v = true then 0 else 3)]) ∧ Below w.heap.size w w' := by
  have H := Lib.hid fun w' (hb : Below w.heap.size w w') => meant_any (h.below hb) v
  clear h
  obtain ⟨kd, n, re, im⟩ := v
  unfold MeanP at H
  cases hm : meansB m.L ⟨kd, n, re, im⟩ with
  | true =>
    rw [hm] at H
    clear hm
    go_enter Try.func27, Try.ntmps27
    go_wp2_with ((refine (H.out _ (by go_grown)).mono ?_); rintro e w2 ⟨⟨kk, oo, tt, aa, nn, cc⟩, rfl, hl, hb⟩; have L := Lib.hid hl; have hs1' : tt.size ≤ 1000000 := (by have := hl.text; simp only at this; rw [this]; exact hs1); have hs2' : nn ≤ 1000000 := (by have := hl.len; simp only at this; rw [← this]; exact hs2); clear hl hs1 hs2)
    have hB : Below w.heap.size w w2 := below_step (by go_grown) hb
    clear hb H
    go_ret2
    refine ⟨ret_size ?_ rfl, hB.alloc hB.size _⟩
    rw [L.out.len, ← L.out.text]
  | false =>
    rw [hm] at H
    clear hm
    go_enter Try.func27, Try.ntmps27
    go_wp2_with ((refine (H.out _ (by go_grown)).mono ?_); rintro e w2 ⟨⟨kk, oo, tt, aa, nn, cc⟩, rfl, hl, hb⟩; clear hl)
    have hB : Below w.heap.size w w2 := below_step (by go_grown) hb
    go_ret2
    exact ⟨ret_size (by simp) (by simp), hB.alloc hB.size _⟩

theorem sz_le (L : List Ob) (v : Vl) : szT L v ≤ 3 := by unfold szT; split <;> (try split) <;> omega
theorem dg_le (L : List Ob) (v : Vl) (i : Int) : dgT L v i ≤ 3 := by unfold dgT; split <;> (try split) <;> omega
section
variable {w : World} {own : Owns} {k p room : Nat} {m : M}
theorem textp_any (h : Hp w own k p room m) (v : Vl) : Calls Try.prog 26 #[.pointer (some ⟨p, 0, none⟩), vlV v] w fun e w' => e = .returned (.tuple #[.string (txS m.L v), .bool (txB m.L v)]) ∧ Below w.heap.size w w' := by
  have := text_any h v
  rw [(tx_same h.ok v).1, (tx_same h.ok v).2] at this
  exact this
theorem meant_le (h : Hp w own k p room m) (v : Vl) : (meant m.L v).vals.length ≤ 100000 ∧ (meant m.L v).text.size ≤ 600000 := by
  unfold meant
  by_cases h0 : v.kind = 3 ∧ v.n = 0
  · rw [if_pos h0]; exact ⟨by simp, by rw [size0]; omega⟩
  · rw [if_neg h0]
    by_cases hn : nameB m.L v = true
    · rw [if_pos hn]
      have := vals_le h.ok h.rm _ (name_parts hn).2.2.1
      omega
    · rw [if_neg hn]; exact ⟨by simp [ob0], by simp [ob0, size0]⟩
theorem sizep_any (h : Hp w own k p room m) (v : Vl) : Calls Try.prog 27 #[.pointer (some ⟨p, 0, none⟩), vlV v] w fun e w' => e = .returned (.tuple #[.int .i64 (szN m.L v : Nat), .int .u8 (szT m.L v : Nat)]) ∧ Below w.heap.size w w' := by
  have hm := meant_le h v
  have := size_any2 h v (by omega) (by omega)
  rw [(size_same h.ok v).1, (size_same h.ok v).2] at this
  exact this
theorem getp_any (h : Hp w own k p room m) (v : Vl) (i : Int) : Calls Try.prog 20 #[.pointer (some ⟨p, 0, none⟩), vlV v, .int .i64 i] w fun e w' => e = .returned (.tuple #[vlV (dgV m.L v i), .int .u8 (dgT m.L v i : Nat)]) ∧ Below w.heap.size w w' := by
  cases hm : meansB m.L v with
  | false =>
    have hz : szT m.L v = 3 := by
      have := (size_same h.ok v).2
      rw [hm] at this
      simp at this
      omega
    rw [show dgV m.L v i = v0 by unfold dgV; rw [hz]; simp, show dgT m.L v i = 3 by unfold dgT; rw [hz]; simp]
    exact get_no h v i hm
  | true =>
    rw [← (get_same h.ok v i hm).1, ← (get_same h.ok v i hm).2]
    cases h1 : inB i (meant m.L v).text.size with
    | true =>
      rw [show getT (meant m.L v) i = 0 by unfold getT; rw [if_pos h1]]
      exact get_tx h v i hm h1
    | false =>
      cases h2 : inB i (meant m.L v).vals.length with
      | true =>
        rw [show getT (meant m.L v) i = 0 by unfold getT; rw [if_neg (by rw [h1]; simp), if_pos h2]]
        exact get_vl h v i hm h1 h2
      | false =>
        rw [show getT (meant m.L v) i = 2 by unfold getT; rw [if_neg (by rw [h1]; simp), if_neg (by rw [h2]; simp)], show getV (meant m.L v) i = v0 by unfold getV; rw [if_neg (by rw [h1]; simp), if_neg (by rw [h2]; simp)]]
        exact get_ix h v i hm h1 h2
end

end Go.Proofs.Ytfeeikajekemlaa
