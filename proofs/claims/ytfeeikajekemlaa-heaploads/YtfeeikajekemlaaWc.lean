/-
  Contracts of heap's Text, Size, Of, Cells. Conditions: as said.
-/
import Derived.Test.YtfeeikajekemlaaWb
namespace Go.Proofs.Ytfeeikajekemlaa
open Go.RowKit
set_option linter.unusedVariables false
set_option maxRecDepth 100000

theorem ret_text {a b : ByteArray} {c d : Bool} (h : a = b) (g : c = d) : Ending.returned (.tuple #[.string a, .bool c]) = .returned (.tuple #[.string b, .bool d]) := by rw [h, g]
theorem beq3 (k : Nat) : ((k : Int) == 3) = (k == 3) := by rw [Bool.eq_iff_iff]; simp; omega
theorem ret_size {a b c d : Int} (h : a = b) (g : c = d) : Ending.returned (.tuple #[.int .i64 a, .int .u8 c]) = .returned (.tuple #[.int .i64 b, .int .u8 d]) := by rw [h, g]

set_option maxHeartbeats 1000000 in
theorem text_any {w : World} {own : Owns} {k p room : Nat} {m : M} (h : Hp w own k p room m) (v : Vl) :
    Calls Try.prog 26 #[.pointer (some ⟨p, 0, none⟩), vlV v] w fun e w' => e = .returned (.tuple #[.string (meant m.L v).text, .bool ((meant m.L v).kind == 3)]) ∧ Below w.heap.size w w' := by
  have H := Lib.hid fun w' (hb : Below w.heap.size w w') => meant_any (h.below hb) v
  clear h
  obtain ⟨kd, n, re, im⟩ := v
  go_enter Try.func26, Try.ntmps26
  go_wp2_with ((refine (H.out _ (by go_grown)).mono ?_); rintro e w2 ⟨⟨kk, oo, tt, aa, nn, cc⟩, rfl, hl, hb⟩; have L := Lib.hid hl; clear hl)
  have hB : Below w.heap.size w w2 := below_step (by go_grown) hb
  clear hb H
  go_quiet (fail)
  go_wp2_with fail
  go_ret2
  exact ⟨ret_text L.out.text (by rw [← L.out.kind, beq3]), (hB.alloc hB.size _).trans ((below_drewN _ _).mono (by simp; have := hB.size; omega))⟩

set_option maxHeartbeats 1000000 in
theorem size_any {w : World} {own : Owns} {k p room : Nat} {m : M} (h : Hp w own k p room m) (v : Vl) (hs1 : (meant m.L v).text.size ≤ 100000) (hs2 : (meant m.L v).vals.length ≤ 100000) :
    Calls Try.prog 27 #[.pointer (some ⟨p, 0, none⟩), vlV v] w fun e w' => e = .returned (.tuple #[.int .i64 (if meansB m.L v = true then ((meant m.L v).text.size : Int) + (meant m.L v).vals.length else 0), .int .u8 (if meansB m.L v = true then 0 else 3)]) ∧ Below w.heap.size w w' := by
  have H := Lib.hid fun w' (hb : Below w.heap.size w w') => meant_any (h.below hb) v
  clear h
  obtain ⟨kd, n, re, im⟩ := v
  unfold MeanP at H
  cases hm : meansB m.L ⟨kd, n, re, im⟩ with
  | true =>
    rw [hm] at H
    clear hm
    go_enter Try.func27, Try.ntmps27
    go_wp2_with ((refine (H.out _ (by go_grown)).mono ?_); rintro e w2 ⟨⟨kk, oo, tt, aa, nn, cc⟩, rfl, hl, hb⟩; have L := Lib.hid hl; have hs1' : tt.size ≤ 100000 := (by have := hl.text; simp only at this; rw [this]; exact hs1); have hs2' : nn ≤ 100000 := (by have := hl.len; simp only at this; rw [← this]; exact hs2); clear hl hs1 hs2)
    have hB : Below w.heap.size w w2 := below_step (by go_grown) hb
    clear hb H
    go_ret2
    refine ⟨ret_size ?_ rfl, hB.alloc hB.size _⟩
    rw [L.out.len, ← L.out.text]
  | false =>
    rw [hm] at H
    clear hm
    go_enter Try.func27, Try.ntmps27
    go_wp2_with ((refine (H.out _ (by go_grown)).mono ?_); rintro e w2 ⟨⟨kk, oo, tt, aa, nn, cc⟩, rfl, hl, hb⟩; clear hl)
    have hB : Below w.heap.size w w2 := below_step (by go_grown) hb
    go_ret2
    exact ⟨ret_size (by simp) (by simp), hB.alloc hB.size _⟩

set_option maxHeartbeats 1000000 in
theorem of_any {w : World} {own : Owns} {k p room : Nat} {m : M} (h : Hp w own k p room m) (v : Vl) :
    Calls Try.prog 36 #[.pointer (some ⟨p, 0, none⟩), vlV v] w fun e w' => e = .returned (.int .i64 (meant m.L v).of) ∧ Below w.heap.size w w' := by
  have H := Lib.hid fun w' (hb : Below w.heap.size w w') => meant_any (h.below hb) v
  clear h
  obtain ⟨kd, n, re, im⟩ := v
  go_enter Try.func36, Try.ntmps36
  go_wp2_with ((refine (H.out _ (by go_grown)).mono ?_); rintro e w2 ⟨⟨kk, oo, tt, aa, nn, cc⟩, rfl, hl, hb⟩; have L := Lib.hid hl; clear hl)
  have hB : Below w.heap.size w w2 := below_step (by go_grown) hb
  go_ret
  exact ⟨ret_int L.out.of, hB.alloc hB.size _⟩

theorem cells_any {w : World} {own : Owns} {k p room : Nat} {m : M} (h : Hp w own k p room m) :
    Calls Try.prog 13 #[.pointer (some ⟨p, 0, none⟩)] w fun e w' => e = .returned (.int .i64 (m.cells : Nat)) ∧ w = w' := by
  obtain ⟨vo, va, bl, vb, al, xs, h⟩ := h
  have c1 : w.cell? ⟨p, 1, none⟩ = some (.int .i64 m.cells) := h.hd.cell (by omega)
  clear h
  go_enter Try.func13, Try.ntmps13
  go_wp2_with fail
  go_ret
  exact ⟨rfl, rfl⟩

end Go.Proofs.Ytfeeikajekemlaa
