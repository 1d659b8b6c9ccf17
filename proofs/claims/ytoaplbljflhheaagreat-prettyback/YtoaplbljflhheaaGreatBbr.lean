/-
 Contracts and plain facts on the way to PrettyBack. Conditions: as each says.
-/
import Derived.Test.YtoaplbljflhheaaGreatBbg
import Derived.Test.YtoaplbljflhheaaGreatBae
import Derived.Test.YtoaplbljflhheaaGreatBbp
set_option maxHeartbeats 40000000
set_option maxRecDepth 100000
set_option linter.unusedVariables false
set_option linter.unusedSimpArgs false
namespace Go.Proofs.YtoaplbljflhheaaGreat
open _root_.Go.Proofs.Tryz
section
open Go.RowKit Go.Sort
def Ow (s : List UInt8) (T : Nat) : List UInt8 := if s = [10] then s ++ List.replicate T 9 else s
theorem a1z {w : World} {b : Nat} {E : Env} {X : List Pc} {t : Int} {out : List UInt8} (h : Wr w b E X t out) (s : ByteArray) (a k d : Int) (T : Nat) (hT : t + d = T) (hd : T <= 100000000) (hl : out.length + s.size + T <= 100000000) :
  Calls prog 49 #[pR b, pcV s a k d] w fun e w' => e = .returned (.tuple #[]) ∧ Wr w' b E X T (out ++ Ow s.data.toList T) ∧ Fw b w w' := by
 have hbl := h.lt;have h1 := h.carry (Aa w (.cells #[.string s, .int .i64 a, .int .i64 k, .int .i64 d] 71));obtain ⟨c0, c1, c3, fz⟩ := h1.cells;have hx : (w.alloc (.cells #[.string s, .int .i64 a, .int .i64 k, .int .i64 d] 71)).heap[w.heap.size]? = some (.cells #[.string s, .int .i64 a, .int .i64 k, .int .i64 d] 71 (0, 0)) := heap_alloc_new w _;have x0 : (w.alloc (.cells #[.string s, .int .i64 a, .int .i64 k, .int .i64 d] 71)).cell? ⟨w.heap.size, 0, none⟩ = some (.string s) := by rw [Lib.cell_of_heap hx]; rfl
 have x3 : (w.alloc (.cells #[.string s, .int .i64 a, .int .i64 k, .int .i64 d] 71)).cell? ⟨w.heap.size, 3, none⟩ = some (.int .i64 d) := by rw [Lib.cell_of_heap hx]; rfl
 have hW1 : Hid (Wr (((w.setCell ⟨b, 3, none⟩ (.int .i64 T)).alloc (.cells #[.string s, .int .i64 a, .int .i64 k, .int .i64 d] 71)).drew) b E X T out ∧ Fs b w (((w.setCell ⟨b, 3, none⟩ (.int .i64 T)).alloc (.cells #[.string s, .int .i64 a, .int .i64 k, .int .i64 d] 71)).drew)) := by
  obtain ⟨q1, q2⟩ := b6t h (T : Int);exact zz ⟨q1.carry (Aa _ _).drew, q2.trans (Fs.below (Aa _ _).drew (by simp; omega))⟩
 have hX1 : Hid ((((w.setCell ⟨b, 3, none⟩ (.int .i64 T)).alloc (.cells #[.string s, .int .i64 a, .int .i64 k, .int .i64 d] 71)).drew).heap[w.heap.size]? = some (.cells #[.string s, .int .i64 a, .int .i64 k, .int .i64 d] 71 (0, 0))) := by
  have := heap_alloc_new (w.setCell ⟨b, 3, none⟩ (.int .i64 T)) (.cells #[.string s, .int .i64 a, .int .i64 k, .int .i64 d] 71);refine zz ?_;show (((w.setCell ⟨b, 3, none⟩ (.int .i64 T)).alloc (.cells #[.string s, .int .i64 a, .int .i64 k, .int .i64 d] 71))).heap[w.heap.size]? = _;simpa using this
 have ew : IntKind.i64.wrap (t + d) = (T : Int) := by rw [hT, IntKind.wrap_i64]; omega
 have ew2 : wrap64 (t + d) = (T : Int) := by rw [hT]; unfold wrap64; omega
 have f3 := fz 3;clear h h1 c0 c1 fz hx;have mixed : prog.follows Departure.mixedOrders = true := by kernel_rfl
 go_enter func49, ntmps49;go_wp2_with fail;go_region;rename_i hK;refine hK _ _ ?_;clear hK;generalize (((w.setCell ⟨b, 3, none⟩ (.int .i64 T)).alloc (.cells #[.string s, .int .i64 a, .int .i64 k, .int .i64 d] 71)).drew) = W at *;clear c3 x0 x3 f3 ew ew2;have hne : w.heap.size ≠ b := by omega
 have y0 := fun D os => cell_regrown (w := W) (a := ⟨w.heap.size, 0, none⟩) (v := .string s) (by rw [Lib.cell_of_heap hX1.out]; rfl) D os
 go_wp2_with fail;refine Ce 5 (by kernel_rfl) (by kernel_rfl) ?_;simp only [List.take_succ_cons, List.take_zero, List.drop_succ_cons, List.drop_zero]
 repeat (quiet_step (fail))
 refine wpQuiet_nil ?_;rintro _ ⟨⟨dq, osq⟩, rfl⟩;have hb := below_regrown W dq osq;generalize grow (redrawn W dq) osq = w1 at *;have HW2 := zz (hW1.out.1.carry hb);have HF2 : Hid (Fs b w w1) := zz (hW1.out.2.trans (Fs.below hb (by have := hW1.out.1.lt; omega)));have HX2 : Hid (w1.heap[w.heap.size]? = some (.cells #[.string s, .int .i64 a, .int .i64 k, .int .i64 d] 71 (0, 0))) := zz ((hb.block _ (Ay hX1.out)).trans hX1.out);clear hW1 hX1 y0 hb;clear W;go_wp2_with (go_at_call 86; refine (b1u HW2.out s (by omega)).mono ?_; rintro e w2 ⟨rfl, hw2, hf2⟩; have x0 : w2.cell? ⟨w.heap.size, 0, none⟩ = some (.string s) := (by rw [Lib.cell_of_heap (hf2.cells _ _ _ _ HX2.out hne (by decide))]; rfl); replace hw2 := zz hw2; replace hf2 := zz (HF2.out.trans hf2))
 ·rename_i he;have hs : s.data.toList = [10] := by rw [<- ByteArray.toList_eq]; simpa using he
  obtain ⟨-, -, c3, fz⟩ := hw2.out.cells;have y3 := fun D os => cell_regrown c3 D os
  have TB : ∀ D os, Calls prog 87 #[.string { data := #[9] }, .int .i64 T] (grow (redrawn w2 D) os) fun e w'' => e = .returned (.string (bs (List.replicate T 9))) ∧ ∃ p : Regrown, w'' = grow (redrawn w2 p.d) p.os := fun D os => Calls.regrown_of (a7s T _ hd)
  clear c3 fz x0 he;refine Ce 8 (by kernel_rfl) (by kernel_rfl) ?_;simp only [List.take_succ_cons, List.take_zero, List.drop_succ_cons, List.drop_zero]
  repeat (quiet_step (first | with_reducible exact TB _ _))
  refine wpQuiet_nil ?_;rintro _ ⟨⟨dq, osq⟩, rfl⟩;have hb := below_regrown w2 dq osq;generalize grow (redrawn w2 dq) osq = w3 at *;have HW3 := zz (hw2.out.carry hb);have HF3 : Hid (Fs b w w3) := zz (hf2.out.trans (Fs.below hb (by have := hw2.out.lt; omega)));have hl1 : s.size = 1 := by rw [<- ByteArray.size_data, <- Array.length_toList, hs]; rfl
  clear hb y3 TB;go_wp2_with (go_at_call 86; refine (b1u HW3.out (bs (List.replicate T 9)) (by rw [Ib, List.length_append, List.length_replicate, hs]; simp; omega)).mono ?_; rintro e w4 ⟨rfl, hw4, hf4⟩; replace hw4 := zz hw4; replace hf4 := zz (HF3.out.trans hf4));refine bodyPost_end (v := .tuple #[]) (by simp [results, results49]) rfl ⟨rfl, ?_, hf4.out.fw⟩;have := hw4.out;rw [B9, List.append_assoc] at this;unfold Ow;rw [if_pos hs];exact this
 ·rename_i he;have hs : s.data.toList ≠ [10] := by rw [<- ByteArray.toList_eq]; simpa using he
  refine bodyPost_end (v := .tuple #[]) (by simp [results, results49]) rfl ⟨rfl, ?_, hf2.out.fw⟩;unfold Ow;rw [if_neg hs];exact hw2.out
end
end Go.Proofs.YtoaplbljflhheaaGreat
