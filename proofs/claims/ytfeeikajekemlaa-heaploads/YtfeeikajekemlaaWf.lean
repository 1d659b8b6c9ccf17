/-
  Contract of heap.twin. Conditions: as said.
-/
import Derived.Test.YtfeeikajekemlaaHp
import Derived.Laws.CopyOwn
namespace Go.Proofs.Ytfeeikajekemlaa
open Go.RowKit
set_option linter.unusedVariables false
set_option linter.unusedSimpArgs false
set_option maxRecDepth 100000

theorem fV_flV (l : List Vl) (i : Nat) (hi : i < l.length * 4) : (fV l)[i]? = some (flV l i) := by
  have e := fV_get l (i / 4) (by omega) (i % 4) (by omega)
  rw [show i / 4 * 4 + i % 4 = i by omega] at e
  rw [e, flV]
  have h4 : i % 4 < 4 := by omega
  generalize i % 4 = r at h4
  match r, h4 with
  | 0, _ => rfl
  | 1, _ => rfl
  | 2, _ => rfl
  | 3, _ => rfl
theorem row_fV {w : World} {g : Nat} {l : List Vl} (h : w.heap[g]? = some (.cells (fV l).toArray 35 (0, 0))) : w.rowIs g 35 (l.length * 4) (flV l) :=
  ⟨_, h, by simp [fV_len], fun i hi => by
    have := fV_flV l i hi
    simpa using this⟩

theorem wpList_copyV {P : Nat → Prop} {ops : Array Oper} {rest : List Oper} {o : Oper} {a : Act} {Q : Exit → Act → World → Prop} {w : World} (hgd : o.guard = none) (d s : Operand)
    (ho : o.op = .call { callee := .builtin .copy, args := #[d, s], argTypes := #[36, 36] }) (g n dc c : Nat) (ad : Addr) (F : Nat → Value) (l : List Vl) (hd : a.eval d = .slice (some ⟨g, 0, none⟩) n dc)
    (hs : a.eval s = .slice (some ad) n c) (hg : w.rowIs g 35 (n * 4) F) (hl : l.length = n) (hr : RV P w (some ad) l)
    (h : ∀ w', w'.rowIs g 35 (n * 4) (flV l) → (∀ b, b ≠ g → w'.heap[b]? = w.heap[b]?) → (∀ B, B ≤ g → Below B w w') → w'.heap.size = w.heap.size → wpList Try.prog ops Q rest (a.put o.dst (goInt n)) w') : wpList Try.prog ops Q (o :: rest) a w := by
  subst hl
  obtain ⟨cur, hc, hcs, _⟩ := hg
  obtain ⟨i0, hi0, hz0, hz1, hz2⟩ := info_parts Try.info35
  refine wpList_plain hgd fun K hK => ?_
  have hl := run_loadCells_list (P := Try.prog) w ad (fV l) (rv_cells hr)
  have hst := run_storeCells_at Try.prog g 0 35 (fV l) 0 cur w hc (by rw [fV_len, hcs]; omega) (one_fV l)
  have hrun : (Builtin.copy_ #[36, 36] o.type #[.slice (some ⟨g, 0, none⟩) l.length dc, .slice (some ad) l.length c]).run Try.prog w = .ok (goInt l.length) (w.setRow g (fV l).toArray) := by
    rw [fV_len] at hl
    have e2 : (cur.toList.take (0 + 0) ++ fV l ++ cur.toList.drop (0 + 0 + (fV l).length)).toArray = (fV l).toArray := by
      rw [fV_len]
      simp
      rw [hcs]
      exact Nat.le_refl _
    rw [e2] at hst
    simp [Builtin.copy_, run_underlying Try.underlying36, Builtin.lenOf, Builtin.firstCells, sizeOf, typeInfo, hi0, hz1, hl, hst]
  unfold Oper.wp
  simp [execOp, ho, resolve, invoke, builtin, hd, hs, hrun, Result.andThen]
  refine hK _ _ (h _ (row_fV ?_) (fun b hb => ?_) (fun B hB => below_setRow (Below.refl _ _) hB _) (by simp))
  · exact setRow_heap w g _ _ _ _ hc
  · exact setRow_other w g b _ hb

theorem run_make_vals (m : Nat) (hm : m ≤ 1000000) (w : World) : (Instr.makeSlice 36 (.int .i64 (m : Int)) (.int .i64 (m : Int))).run Try.prog w = .ok (.slice (some ⟨w.heap.size, 0, none⟩) m m) (w.alloc (.cells (madeCells #[.int .u8 0, .int .i64 0, .int .i64 0, .int .i64 0] (m * 4)) 35)) := by
  obtain ⟨i0, hi0, hz0, hz1, hz2⟩ := info_parts Try.info35
  have := run_make (P := Try.prog) w 36 35 i0 _ Try.underlying36 hi0 hz0 .i64 .i64 m m (by omega) (Int.le_refl _) (by rw [hz2]; omega) (by omega)
  rw [hz1] at this
  simpa [Value.cells] using this
theorem flat_zero (n j : Nat) : flV (List.replicate n v0) j = (#[.int .u8 0, .int .i64 0, .int .i64 0, .int .i64 0] : Array Value)[j % 4]! := by
  have hv : vl (List.replicate n v0) (j / 4) = v0 := by
    unfold vl
    rw [List.getD_eq_getElem?_getD, List.getElem?_replicate]
    split <;> rfl
  unfold flV
  rw [hv]
  have hj : j % 4 < 4 := Nat.mod_lt _ (by omega)
  generalize j % 4 = r at *
  match r, hj with
  | 0, _ => rfl
  | 1, _ => rfl
  | 2, _ => rfl
  | 3, _ => rfl
theorem made_row (w : World) (n : Nat) : (w.alloc (.cells (madeCells #[.int .u8 0, .int .i64 0, .int .i64 0, .int .i64 0] (n * 4)) 35)).rowIs w.heap.size 35 (n * 4) (flV (List.replicate n v0)) := by
  have := World.rowIs_alloc w (madeCells #[.int .u8 0, .int .i64 0, .int .i64 0, .int .i64 0] (n * 4)) 35 (flV (List.replicate n v0)) (fun i hi => by
    rw [size_madeCells] at hi
    rw [flat_zero]
    simp [madeCells, hi])
  rwa [size_madeCells] at this

/-- What twin answers. -/
def TwinP (w : World) (x : Oc) (l : List Vl) (e : Ending) (w' : World) : Prop := ∃ a c vb, e = .returned (ocV ⟨x.kind, x.of, x.text, a, x.n, c⟩) ∧ VA w' ⟨x.kind, x.of, x.text, a, x.n, c⟩ vb l ∧ (x.n ≠ 0 → w.heap.size ≤ vb) ∧ Below w.heap.size w w'

set_option maxHeartbeats 1000000 in
theorem twin_nil (x : Oc) (w : World) (hn : x.n = 0) : Calls Try.prog 38 #[ocV x] w (TwinP w x []) := by
  obtain ⟨k, f, t, a, n, c⟩ := x
  simp only at hn
  subst hn
  go_enter Try.func38, Try.ntmps38
  go_wp2_with fail
  refine bodyPost_ret (v := ocV ⟨k, f, t, none, 0, 0⟩) (by simp [results, Try.results38, go_sem]) rfl ⟨none, 0, 0, rfl, ⟨rfl, fun _ => ⟨rfl, rfl⟩, .inl rfl⟩, fun h => absurd rfl h, by go_grown⟩

set_option maxHeartbeats 4000000 in
theorem twin_row (x : Oc) (l : List Vl) (w : World) (ad : Addr) (ha : x.a = some ad) (hl : Hid (l.length = x.n)) (hr : Hid (RV (fun _ => True) w (some ad) l)) (h0 : 0 < x.n) (hn : x.n ≤ 1000000) : Calls Try.prog 38 #[ocV x] w (TwinP w x l) := by
  obtain ⟨k, f, t, a, n, c⟩ := x
  simp only at ha h0 hn hl
  subst ha
  have hmk := run_make_vals n hn
  have hd : ((n : Int) == 0) = false := by rw [beq_eq_false_iff_ne]; omega
  obtain ⟨W, hW⟩ : ∃ W, W = ((w.alloc (.cells #[.int .u8 k, .int .i64 f, .string t, .slice (some ad) n c] 45)).alloc (.cells #[.int .u8 0, .int .i64 0, .string { data := #[] }, .slice none 0 0] 45)).alloc (.cells (madeCells #[.int .u8 0, .int .i64 0, .int .i64 0, .int .i64 0] (n * 4)) 35) := ⟨_, rfl⟩
  have hB : Below w.heap.size w W := by rw [hW]; go_grown
  have hz : W.heap.size = w.heap.size + 1 + 1 + 1 := by rw [hW]; simp
  have hrow : W.rowIs (w.heap.size + 1 + 1) 35 (n * 4) (flV (List.replicate n v0)) := by
    have := made_row ((w.alloc (.cells #[.int .u8 k, .int .i64 f, .string t, .slice (some ad) n c] 45)).alloc (.cells #[.int .u8 0, .int .i64 0, .string { data := #[] }, .slice none 0 0] 45)) n
    rw [hW]
    simpa using this
  have hbx : W.heap[w.heap.size]? = some (.cells #[.int .u8 k, .int .i64 f, .string t, .slice (some ad) n c] 45 (0, 0)) ∧ W.heap[w.heap.size + 1]? = some (.cells #[.int .u8 0, .int .i64 0, .string { data := #[] }, .slice none 0 0] 45 (0, 0)) := by
    rw [hW]
    refine ⟨?_, ?_⟩
    · rw [heap_alloc_old _ _ (by simp; omega), heap_alloc_old _ _ (by simp), heap_alloc_new]
    · have := heap_alloc_new (w.alloc (.cells #[.int .u8 k, .int .i64 f, .string t, .slice (some ad) n c] 45)) (.cells #[.int .u8 0, .int .i64 0, .string { data := #[] }, .slice none 0 0] 45)
      rw [heap_alloc_old _ _ (by simp)]
      simpa using this
  replace hW := Lib.hid hW
  replace hB := Lib.hid hB
  replace hz := Lib.hid hz
  replace hbx := Lib.hid hbx
  replace hrow := Lib.hid hrow
  go_enter Try.func38, Try.ntmps38
  go_wp2_with (rw [← hW.out]; refine wpList_copyV (P := fun _ => True) rfl (.tmp 14) (.tmp 16) rfl (w.heap.size + 1 + 1) n n c ad (flV (List.replicate n v0)) l rfl rfl hrow.out hl.out (hr.out.kp (kp_below hB.out)) ?_)
  clear hmk hW
  replace hz := hz.out
  replace hB := hB.out
  replace hbx := hbx.out
  intro w' hrow' hoth hbel hsz
  obtain ⟨h1, h2⟩ := hbx
  rw [← hoth _ (by omega)] at h1 h2
  have hB' := hB.trans (hbel w.heap.size (by omega))
  have c0 : w'.cell? ⟨w.heap.size, 0, none⟩ = some (.int .u8 k) := by rw [cell_of_row _ _ _ _ _ _ h1]; rfl
  have c1 : w'.cell? ⟨w.heap.size, 1, none⟩ = some (.int .i64 f) := by rw [cell_of_row _ _ _ _ _ _ h1]; rfl
  have c2 : w'.cell? ⟨w.heap.size, 2, none⟩ = some (.string t) := by rw [cell_of_row _ _ _ _ _ _ h1]; rfl
  have c3 : w'.cell? ⟨w.heap.size, 3, none⟩ = some (.slice (some ad) n c) := by rw [cell_of_row _ _ _ _ _ _ h1]; rfl
  have d0 : w'.cell? ⟨w.heap.size + 1, 0, none⟩ = some (.int .u8 0) := by rw [cell_of_row _ _ _ _ _ _ h2]; rfl
  have d1 : w'.cell? ⟨w.heap.size + 1, 1, none⟩ = some (.int .i64 0) := by rw [cell_of_row _ _ _ _ _ _ h2]; rfl
  have d2 : w'.cell? ⟨w.heap.size + 1, 2, none⟩ = some (.string { data := #[] }) := by rw [cell_of_row _ _ _ _ _ _ h2]; rfl
  have d3 : w'.cell? ⟨w.heap.size + 1, 3, none⟩ = some (.slice none 0 0) := by rw [cell_of_row _ _ _ _ _ _ h2]; rfl
  have f1 : ∀ o, w'.frozen? ⟨w.heap.size, o, none⟩ = false := fun o => frozen_of_row _ _ _ _ _ h1
  have f2 : ∀ o, w'.frozen? ⟨w.heap.size + 1, o, none⟩ = false := fun o => frozen_of_row _ _ _ _ _ h2
  replace hrow' := Lib.hid hrow'
  replace hB' := Lib.hid hB'
  clear hoth hbel hrow hB h1 h2 hsz hz hd
  go_wp2_with fail
  refine bodyPost_ret (v := ocV ⟨k, f, t, some ⟨w.heap.size + 1 + 1, 0, none⟩, n, n⟩) (by simp [results, Try.results38, go_sem, c0, c1, c2, c3, d0, d1, d2, d3]) rfl ⟨some ⟨w.heap.size + 1 + 1, 0, none⟩, n, w.heap.size + 1 + 1, rfl, ⟨hl.out, (fun e => by cases e), .inr ⟨rfl, ?_⟩⟩, fun _ => by omega, ?_⟩
  · refine ((((hrow'.out.setOther ?_ _).setOther ?_ _).setOther ?_ _).setOther ?_ _).setOther ?_ _ <;> (simp; try omega)
  · exact ((((hB'.out.setCell (by simp) _).setCell (by simp) _).setCell (by simp) _).setCell (by simp) _).setCell (by simp) _

theorem twin_any (x : Oc) (l : List Vl) (w : World) (P : Nat → Prop) (hl : l.length = x.n) (hz : x.a = none → x.n = 0) (hr : RV P w x.a l) (hn : x.n ≤ 1000000) : Calls Try.prog 38 #[ocV x] w (TwinP w x l) := by
  by_cases h0 : x.n = 0
  · obtain rfl : l = [] := List.eq_nil_of_length_eq_zero (by omega)
    exact twin_nil x w h0
  · cases ha : x.a with
    | none => exact absurd (hz ha) h0
    | some ad =>
      rw [ha] at hr
      exact twin_row x l w ad ha (Lib.hid hl) (Lib.hid (hr.kp fun b _ _ => ⟨trivial, rfl⟩)) (by omega) hn

end Go.Proofs.Ytfeeikajekemlaa
