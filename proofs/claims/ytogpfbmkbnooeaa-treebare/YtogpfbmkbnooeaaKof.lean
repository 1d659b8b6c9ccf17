/-
  Contract of tree.kindsOf. Conditions: rows of at most 1000000 nodes, places within.
-/
import Derived.Test.YtogpfbmkbnooeaaKid
import Derived.Test.YtogpfbmkbnooeaaKt
import Derived.Deep.OwnRows
namespace Go.Proofs.Ytogpfbmkbnooeaa
open Go.RowKit
set_option linter.unusedVariables false

def kindAt (l : List Nd) (x : Nat) : Nat := (nd l x).kind

def KCell (l : List Nd) (xs : List Nat) (k j : Nat) : Value := if j < k then .int .u8 (kindAt l (xs.getD j 0) : Nat) else .int .u8 0

set_option maxHeartbeats 1000000 in
theorem kinds_any (b o n cap : Nat) (l : List Nd) (w : World) (hn : Hid (l.length = n)) (hl : n ≤ 1000000) (hr : Hid (RowB w b o l)) (a' : Option Addr) (m cap' : Nat) (xs : List Nat) (hm : Hid (xs.length = m)) (hml : m ≤ 1000000)
    (hx : Hid (∀ i, i < xs.length → ∃ g, a' = some ⟨g, 0, none⟩ ∧ w.cell? ⟨g, i, none⟩ = some (itv (xs.getD i 0)) ∧ xs.getD i 0 < n)) :
    Calls Try.prog 32 #[.slice (some ⟨b, o, none⟩) n cap, .slice a' m cap'] w fun e w' => ∃ g, e = .returned (.slice (some ⟨g, 0, none⟩) m m) ∧ KRow w' (some ⟨g, 0, none⟩) (xs.map (kindAt l)) ∧ Below w.heap.size w w' := by
  have hmk := run_make_row' (P := Try.prog) 41 5 (.int .u8 0) 1 Try.underlying41 Try.info5 rfl .i64 .i64 m (by omega) (by omega)
  go_enter Try.func32, Try.ntmps32
  go_wp2_with fail
  go_loopw [13] (fun j wr => ∃ k : Nat, k ≤ m ∧ j = .int .i64 k ∧ wr.rowIs w.heap.size 5 m (KCell l xs k) ∧ Below w.heap.size w wr) (fun j _ => m - (intOf j).toNat)
  case atStart => exact ⟨0, Nat.zero_le _, rfl, (World.rowIs_made w (.int .u8 0) m 5).congr fun i hi => by simp [KCell], below_alloc _ _⟩
  case round =>
    clear hmk
    obtain ⟨k, hk, rfl, hrow, hbel⟩ := hrel
    by_cases hlt : k < m
    · obtain ⟨g, rfl, hc, hxn⟩ := hx.out k (by rw [hm.out]; exact hlt)
      obtain ⟨x, hxx⟩ : ∃ x, xs.getD k 0 = x := ⟨_, rfl⟩
      rw [hxx] at hc hxn
      have hc' := cell_carry hbel hc
      obtain ⟨hat, hwf⟩ := (hr.out.carry hbel) x (by rw [hn.out]; exact hxn)
      have c0 := hat.c0
      have hkd := hwf.kind
      obtain ⟨kd, hkk⟩ : ∃ kd, (nd l x).kind = kd := ⟨_, rfl⟩
      rw [hkk] at c0 hkd
      have s1 := hrow.cell hlt
      have s2 := hrow.frozen k
      rw [show KCell l xs k k = .int .u8 0 by simp [KCell]] at s1
      have HR := Lib.hid ((hrow.set k (.int .u8 (kd : Nat))).congr (g := KCell l xs (k + 1)) fun i hi => by
        by_cases e : i = k
        · subst e; rw [if_pos rfl, KCell, if_pos (by omega), hxx, kindAt, hkk]
        · simp [KCell, e, show (i < k + 1) = (i < k) by rw [eq_iff_iff]; omega])
      have HB := Lib.hid (show Below w.heap.size w (wr.setCell ⟨w.heap.size, k, none⟩ (.int .u8 (kd : Nat))) from hbel.setCell (Nat.le_refl _) _)
      clear hat hwf hkk hxx hrow hbel hc
      go_wp2_with fail
      go_roundw
      case rel => exact ⟨k + 1, hlt, by go_num, HR.out, HB.out⟩
      case measure => simp [intOf]; omega
    · have HK := Lib.hid (show KRow wr (some ⟨w.heap.size, 0, none⟩) (xs.map (kindAt l)) from fun i hi => by
        rw [List.length_map, hm.out] at hi
        have := hrow.cell hi
        rw [KCell, if_pos (by omega)] at this
        have hi2 : i < xs.length := by rw [hm.out]; exact hi
        have e : (xs.map (kindAt l)).getD i 0 = kindAt l (xs.getD i 0) := by simp [List.getD, hi2]
        obtain ⟨_, _, _, hxn⟩ := hx.out i hi2
        exact ⟨w.heap.size, 0, rfl, by rw [Nat.zero_add, e]; exact this, by rw [e]; exact (hr.out (xs.getD i 0) (by rw [hn.out]; exact hxn)).2.kind⟩)
      replace hbel := Lib.hid hbel
      clear hrow
      go_wp2_with fail
      go_ret
      exact ⟨_, rfl, HK.out, hbel.out⟩

end Go.Proofs.Ytogpfbmkbnooeaa
