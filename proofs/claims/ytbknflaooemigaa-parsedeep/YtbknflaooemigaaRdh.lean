/-
  Contract of parse.reader's here: the next token, and how many nodes were made. Conditions: as said.
-/
import Derived.Test.YtbknflaooemigaaRdb
namespace Go.Proofs.Ytbknflaooemigaa
open Go.RowKit Go.Sort
set_option linter.unusedVariables false

/-- Where a node begins, as a value. -/
abbrev sV (kd ln cl : Nat) (nm : Int) (X : ByteArray) (dn : Nat) : Value := .agg #[.int .u8 kd, .int .i64 ln, .int .i64 cl, .int .i64 nm, .string X, .int .i64 dn]

set_option maxHeartbeats 1000000 in
theorem here_any {w : World} {b tb to tc : Nat} {T : List Tok} {at_ d : Nat} {v : Value} {D : List Nd} {n : Nat} {ts : List Tok} (h : Sit w b tb to tc T at_ d v D n ts) {kd ln cl : Nat} {nm : Int} {tx : List UInt8} (ht : hd ts = ⟨kd, ln, cl, nm, tx⟩) (dn : Nat) (hdn : D.length = dn) (a : Option Addr) (cap : Nat) (hv : v = .slice a dn cap) :
    Calls Try.prog 43 #[pR b] w fun e w' => e = .returned (sV kd ln cl nm (bs tx) dn) ∧ Below w.heap.size w w' := by
  have H := Lib.hid (h.next_at ht)
  have h3 := h.rd.c3
  rw [hv] at h3
  have hbl := h.rd.lt
  clear h ht
  go_enter Try.func43, Try.ntmps43
  go_wp2_with fail
  obtain ⟨W, hW⟩ : ∃ W, W = (w.alloc (Obj.cells #[Value.int IntKind.u8 0, Value.int IntKind.i64 0, Value.int IntKind.i64 0, Value.int IntKind.i64 0, Value.string { data := #[] }, Value.int IntKind.i64 0] 50)) := ⟨_, rfl⟩
  have hB : Below w.heap.size w W := by rw [hW]; go_grown
  have hz : W.heap.size = w.heap.size + 1 := by rw [hW]; simp
  rw [← hW]
  have k3 := fun D os => cell_regrown (w := W) (a := ⟨b, 3, none⟩) (v := .slice a dn cap) (by rw [hW]; simp [go_sem, h3, hbl]) D os
  have c0 : ∀ D os, Calls Try.prog 17 #[pR b] (grow (redrawn W D) os) fun e w'' => e = .returned (.agg #[.int .u8 kd, .int .i64 ln, .int .i64 cl, .int .i64 nm, .string (bs tx)]) ∧ ∃ p : Regrown, w'' = grow (redrawn W p.d) p.os := fun D os => Calls.regrown_of (H.out _ (below_step hB (below_regrown _ _ _)))
  have e0 := fun w' (h : Below W.heap.size W w') => show w'.cell? ⟨w.heap.size, 0, none⟩ = some (.int .u8 0) by rw [(bcell h).1 _ _ (by omega), hW]; simp [go_sem]
  have e1 := fun w' (h : Below W.heap.size W w') => show w'.cell? ⟨w.heap.size, 1, none⟩ = some (.int .i64 0) by rw [(bcell h).1 _ _ (by omega), hW]; simp [go_sem]
  have e2 := fun w' (h : Below W.heap.size W w') => show w'.cell? ⟨w.heap.size, 2, none⟩ = some (.int .i64 0) by rw [(bcell h).1 _ _ (by omega), hW]; simp [go_sem]
  have e3 := fun w' (h : Below W.heap.size W w') => show w'.cell? ⟨w.heap.size, 3, none⟩ = some (.int .i64 0) by rw [(bcell h).1 _ _ (by omega), hW]; simp [go_sem]
  have e4 := fun w' (h : Below W.heap.size W w') => show w'.cell? ⟨w.heap.size, 4, none⟩ = some (.string { data := #[] }) by rw [(bcell h).1 _ _ (by omega), hW]; simp [go_sem]
  have e5 := fun w' (h : Below W.heap.size W w') => show w'.cell? ⟨w.heap.size, 5, none⟩ = some (.int .i64 0) by rw [(bcell h).1 _ _ (by omega), hW]; simp [go_sem]
  have e9 := fun w' (h : Below W.heap.size W w') o => show w'.frozen? ⟨w.heap.size, o, none⟩ = false by rw [(bcell h).2 _ _ (by omega), hW]; simp [go_sem]
  clear hW h3
  refine region_tail_below 8 (by kernel_rfl) (by kernel_rfl) ?_
  simp only [List.take_succ_cons, List.take_zero, List.drop_succ_cons, List.drop_zero]
  repeat (quiet_step (first | with_reducible exact c0 _ _))
  refine wpQuiet_nil ?_
  rintro _ ⟨⟨dq, osq⟩, rfl⟩
  have hb := below_regrown W dq osq
  generalize grow (redrawn W dq) osq = w' at *
  have f0 := e0 _ hb
  have f1 := e1 _ hb
  have f2 := e2 _ hb
  have f3 := e3 _ hb
  have f4 := e4 _ hb
  have f5 := e5 _ hb
  have f9 := e9 _ hb
  have hbb := below_step hB hb
  clear e0 e1 e2 e3 e4 e5 e9 k3 c0
  go_wp2
  refine bodyPost_ret (v := sV kd ln cl nm (bs tx) dn) (by simp [results, Try.results43, go_sem, f0, f1, f2, f3, f4, f5]) rfl ⟨rfl, ?_⟩
  go_grown
end Go.Proofs.Ytbknflaooemigaa
