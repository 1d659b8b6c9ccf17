/-
  Contracts of tree.withoutPlace and tree.Bare. Conditions: rows of at most 1000000 nodes.
-/
import Derived.Test.YtogpfbmkbnooeaaInts
import Derived.Deep.OwnRows
namespace Go.Proofs.Ytogpfbmkbnooeaa
open Go.RowKit
set_option linter.unusedVariables false

/-- A node without its place. -/
def bare (n : Nd) : Nd := ⟨n.kind, 0, 0, n.size, n.num, n.text⟩
theorem zero_in : i64In 0 := by unfold i64In; decide
theorem bare_wf {n : Nd} (h : n.wf) : (bare n).wf := ⟨h.kind, zero_in, zero_in, h.size, h.num, h.text⟩

set_option maxHeartbeats 1000000 in
theorem without_any (n : Nd) (w : World) : Calls Try.prog 36 #[ndV n] w fun e w' => e = .returned (ndV (bare n)) ∧ Below w.heap.size w w' := by
  obtain ⟨k, ln, cl, s, num, tx⟩ := n
  go_enter Try.func36, Try.ntmps36
  go_wp2_with fail
  refine bodyPost_ret (v := .agg #[.int .u8 (k : Nat), .int .i64 0, .int .i64 0, .int .i64 s, .int .i64 num, .string tx]) (by simp [results, Try.results36, go_sem]) rfl ?_
  exact ⟨rfl, by go_grown⟩

/-- Nodes laid flat. -/
def flat (F : Nat → Nd) (j : Nat) : Value := (ndCells (F (j / 6))).getD (j % 6) (.bool false)
def bareTo (l : List Nd) (k i : Nat) : Nd := if i < k then bare (nd l i) else nd0

theorem flat_at {w : World} {g m : Nat} {F : Nat → Nd} (h : w.rowIs g 31 (m * 6) (flat F)) {i : Nat} (hi : i < m) : At w g (i * 6) (F i) := by
  have key : ∀ j, j < 6 → w.cell? ⟨g, i * 6 + j, none⟩ = some ((ndCells (F i)).getD j (.bool false)) := fun j hj => by
    have := h.cell (i := i * 6 + j) (by omega)
    rw [this, flat, show (i * 6 + j) / 6 = i by omega, show (i * 6 + j) % 6 = j by omega]
  exact ⟨key 0 (by omega), key 1 (by omega), key 2 (by omega), key 3 (by omega), key 4 (by omega), key 5 (by omega)⟩

theorem flat_zero (j : Nat) : flat (fun _ => nd0) j = (#[.int .u8 0, .int .i64 0, .int .i64 0, .int .i64 0, .int .i64 0, .string { data := #[] }] : Array Value)[j % 6]! := by
  have hj : j % 6 < 6 := Nat.mod_lt _ (by omega)
  unfold flat
  generalize j % 6 = r at *
  match r, hj with
  | 0, _ => rfl
  | 1, _ => rfl
  | 2, _ => rfl
  | 3, _ => rfl
  | 4, _ => rfl
  | 5, _ => rfl

theorem flat_set {w : World} {g m : Nat} {F : Nat → Nd} (h : w.rowIs g 31 (m * 6) (flat F)) (i : Nat) (n : Nd) (G : Nat → Nd) (hG : ∀ x, x < m → G x = if x = i then n else F x) :
    ((((((w.setCell ⟨g, i * 6, none⟩ (.int .u8 (n.kind : Nat))).setCell ⟨g, i * 6 + 1, none⟩ (.int .i64 n.line)).setCell ⟨g, i * 6 + 2, none⟩ (.int .i64 n.col)).setCell ⟨g, i * 6 + 3, none⟩ (.int .i64 n.size)).setCell ⟨g, i * 6 + 4, none⟩ (.int .i64 n.num)).setCell ⟨g, i * 6 + 5, none⟩ (.string n.text)).rowIs g 31 (m * 6) (flat G) := by
  refine ((((((h.set _ _).set _ _).set _ _).set _ _).set _ _).set _ _).congr fun j hj => ?_
  have hd : j / 6 < m := by omega
  unfold flat
  rw [hG _ hd]
  by_cases e : j / 6 = i
  · rw [if_pos e]
    have hr : j % 6 < 6 := Nat.mod_lt _ (by omega)
    have hj2 : j = i * 6 + j % 6 := by omega
    generalize j % 6 = r at *
    subst hj2
    match r, hr with
    | 0, _ => simp [ndCells]
    | 1, _ => simp [ndCells]
    | 2, _ => simp [ndCells]
    | 3, _ => simp [ndCells]
    | 4, _ => simp [ndCells]
    | 5, _ => simp [ndCells]
  · rw [if_neg e, if_neg (by omega), if_neg (by omega), if_neg (by omega), if_neg (by omega), if_neg (by omega), if_neg (by omega)]

theorem Try.info31 : (Try.prog.info? 31).map (fun i => (i.zero, i.size, i.bytes)) = some (some (.agg #[.int .u8 0, .int .i64 0, .int .i64 0, .int .i64 0, .int .i64 0, .string { data := #[] }]), 6, 56) := by kernel_rfl

theorem run_make_nodes (m : Nat) (hm : m ≤ 1000000) (w : World) : (Instr.makeSlice 22 (.int .i64 (m : Int)) (.int .i64 (m : Int))).run Try.prog w = .ok (.slice (some ⟨w.heap.size, 0, none⟩) m m) (w.alloc (.cells (madeCells #[.int .u8 0, .int .i64 0, .int .i64 0, .int .i64 0, .int .i64 0, .string { data := #[] }] (m * 6)) 31)) := by
  obtain ⟨i0, hi0, hz0, hz1, hz2⟩ := info_parts Try.info31
  have := run_make (P := Try.prog) w 22 31 i0 _ Try.underlying22 hi0 hz0 .i64 .i64 m m (by omega) (Int.le_refl _) (by rw [hz2]; omega) (by omega)
  rw [hz1] at this
  simpa [Value.cells] using this

set_option maxHeartbeats 2000000 in
theorem bare_any (a : Option Addr) (n cap : Nat) (l : List Nd) (w : World) (hn : Hid (l.length = n)) (hl : n ≤ 1000000) (hr : Hid (Row w a l)) :
    Calls Try.prog 18 #[.slice a n cap] w fun e w' => ∃ g, e = .returned (.slice (some ⟨g, 0, none⟩) n n) ∧ Row w' (some ⟨g, 0, none⟩) (l.map bare) ∧ Below w.heap.size w w' := by
  have hmk := run_make_nodes n hl
  go_enter Try.func18, Try.ntmps18
  go_wp2_with fail
  go_loopw [11] (fun j wr => ∃ k : Nat, k ≤ n ∧ j = .int .i64 k ∧ wr.rowIs w.heap.size 31 (n * 6) (flat (bareTo l k)) ∧ Below w.heap.size w wr) (fun j _ => n - (intOf j).toNat)
  case atStart =>
    refine ⟨0, Nat.zero_le _, rfl, ?_, below_alloc _ _⟩
    have := World.rowIs_alloc w (madeCells #[.int .u8 0, .int .i64 0, .int .i64 0, .int .i64 0, .int .i64 0, .string { data := #[] }] (n * 6)) 31 (flat (bareTo l 0)) (fun i hi => by
      rw [size_madeCells] at hi
      have e : flat (bareTo l 0) i = flat (fun _ => nd0) i := by unfold flat bareTo; simp
      rw [e, flat_zero]
      simp [madeCells, hi])
    rwa [size_madeCells] at this
  case round =>
    clear hmk
    obtain ⟨k, hk, rfl, hrow, hbel⟩ := hrel
    by_cases hlt : k < n
    · obtain ⟨b, o, rfl, hat, hwf⟩ := (hr.out.carry hbel) k (by rw [hn.out]; exact hlt)
      obtain ⟨c0, c1, c2, c3, c4, c5⟩ := hat
      have hul := hrow.lt
      obtain ⟨kd, ln, cl, s, num, tx, hN⟩ : ∃ kd ln cl s num tx, nd l k = ⟨kd, ln, cl, s, num, tx⟩ := ⟨_, _, _, _, _, _, rfl⟩
      rw [hN] at c0 c1 c2 c3 c4 c5
      simp only at c0 c1 c2 c3 c4 c5
      have hG : ∀ x, x < n → bareTo l (k + 1) x = if x = k then ⟨kd, 0, 0, s, num, tx⟩ else bareTo l k x := fun x _ => by
        unfold bareTo
        by_cases e : x = k
        · rw [if_pos e, if_pos (by omega), e, hN]; rfl
        · rw [if_neg e]
          by_cases e2 : x < k
          · rw [if_pos e2, if_pos (by omega)]
          · rw [if_neg e2, if_neg (by omega)]
      replace hG := Lib.hid hG
      have HB := Lib.hid hbel
      replace hrow := Lib.hid hrow
      clear hN hwf hbel
      go_wp2_with fail
      refine (without_any ⟨kd, ln, cl, s, num, tx⟩ _).mono ?_
      rintro e w2 ⟨rfl, hb2⟩
      simp only [bare]
      have hrow2 := (hrow.out.alloc (.cells #[.int .u8 (kd : Nat), .int .i64 ln, .int .i64 cl, .int .i64 s, .int .i64 num, .string tx] 31)).of_block (hb2.block _ (by simp; omega))
      obtain ⟨d0, d1, d2, d3, d4, d5⟩ := flat_at hrow2 hlt
      have f0 := hrow2.frozen
      have HR := Lib.hid (flat_set hrow2 k ⟨kd, 0, 0, s, num, tx⟩ (bareTo l (k + 1)) hG.out)
      have HB2 := Lib.hid (below_step (below_step HB.out (below_alloc _ _)) hb2)
      clear hrow2 hb2 HB hrow
      go_wp2_with fail
      go_roundw
      case rel => exact ⟨k + 1, hlt, by go_num, HR.out, (((((HB2.out.setCell (Nat.le_refl _) _).setCell (Nat.le_refl _) _).setCell (Nat.le_refl _) _).setCell (Nat.le_refl _) _).setCell (Nat.le_refl _) _).setCell (Nat.le_refl _) _⟩
      case measure => simp [intOf]; omega
    · have hkn : k = n := by omega
      subst hkn
      have HW : Hid (Row wr (some ⟨w.heap.size, 0, none⟩) (l.map bare)) := Lib.hid fun i hi => by
        rw [List.length_map] at hi
        have e : nd (l.map bare) i = bare (nd l i) := by simp [nd, List.getD, hi]
        have hi2 : i < k := by rw [hn.out] at hi; exact hi
        have := flat_at hrow hi2
        rw [bareTo, if_pos hi2] at this
        obtain ⟨_, _, _, _, hwf⟩ := hr.out i hi
        exact ⟨w.heap.size, 0, rfl, by rw [Nat.zero_add, e]; exact this, by rw [e]; exact bare_wf hwf⟩
      replace hbel := Lib.hid hbel
      clear hrow
      go_wp2_with fail
      go_ret
      exact ⟨_, rfl, HW.out, hbel.out⟩

end Go.Proofs.Ytogpfbmkbnooeaa
