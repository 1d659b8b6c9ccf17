/-
  Contract of the document's Alike, where tokens are alike. Conditions: as said.
-/
import Derived.Test.YtddeiidkmihkkaaEq
namespace Go.Proofs.Ytddeiidkmihkkaa
open Go.RowKit Go.Sort
set_option linter.unusedVariables false

/-- The same tokens, but for their places. -/
def AlikeL (l m : List Tok) : Prop := l.length = m.length ∧ ∀ (k : Nat) (t u : Tok), l[k]? = some t → m[k]? = some u → t.kind = u.kind ∧ t.num = u.num ∧ t.text = u.text

set_option maxHeartbeats 2000000 in
theorem alike_core (w : World) (a b : Option Addr) (n c d : Nat) (hn : n ≤ 100000000) (ht : Hid (∀ k, k < n → ∃ (g g' kd : Nat) (nm : Int) (x : ByteArray), a = some ⟨g, 0, none⟩ ∧ b = some ⟨g', 0, none⟩ ∧
      (w.cell? ⟨g, k * 5, none⟩ = some (.int .u8 (kd : Nat)) ∧ w.cell? ⟨g, k * 5 + 3, none⟩ = some (.int .i64 nm) ∧ w.cell? ⟨g, k * 5 + 4, none⟩ = some (.string x)) ∧
      (w.cell? ⟨g', k * 5, none⟩ = some (.int .u8 (kd : Nat)) ∧ w.cell? ⟨g', k * 5 + 3, none⟩ = some (.int .i64 nm) ∧ w.cell? ⟨g', k * 5 + 4, none⟩ = some (.string x)))) :
    Calls Try.prog 12 #[.slice a n c, .slice b n d] w fun e w' => e = .returned (.bool true) ∧ Below w.heap.size w w' := by
  have hne : ((n : Int) != (n : Int)) = false := by simp
  go_enter Try.func12, Try.ntmps12
  go_wp2
  go_loopw [13] (fun v wr => ∃ k : Nat, k ≤ n ∧ v = .int .i64 (k : Nat) ∧ Below w.heap.size w wr) (fun v _ => n - (intOf v).toNat)
  case atStart => exact ⟨0, Nat.zero_le _, rfl, Below.refl _ _⟩
  case round =>
    obtain ⟨k, hk, rfl, hb⟩ := hrel
    by_cases hlt : k < n
    · obtain ⟨g, g', kd, nm, x, rfl, rfl, ⟨p0, p3, p4⟩, q0, q3, q4⟩ := ht.out k hlt
      have r0 := cell_carry hb p0
      have r3 := cell_carry hb p3
      have r4 := cell_carry hb p4
      have t0 := cell_carry hb q0
      have t3 := cell_carry hb q3
      have t4 := cell_carry hb q4
      clear p0 p3 p4 q0 q3 q4
      have e1 : ((kd : Int) != (kd : Int)) = false := by simp
      have e2 : (nm != nm) = false := by simp
      have e3 : (x.toList != x.toList) = false := by simp
      have hlt2 : (k : Int) < n := by omega
      replace hb := Lib.hid hb
      go_wp2_with fail
      go_quiet (fail)
      have hb2 := Lib.hid (below_step hb.out (below_drewN _ nq))
      go_wp2
      go_roundw
      case rel => exact ⟨k + 1, hlt, by go_num, hb2.out⟩
      case measure => simp [intOf]; omega
    · have hlt2 : ¬ (k : Int) < n := by omega
      go_wp2
      go_ret
      exact ⟨rfl, hb⟩

theorem alike_true {w : World} {B B' : Nat} {v v' : Value} {l m : List Tok} (h : OwnT w B v l) (h' : OwnT w B' v' m) (ha : AlikeL l m) (hl : l.length ≤ 100000000) : Calls Try.prog 12 #[v, v'] w fun e w' => e = .returned (.bool true) ∧ Below w.heap.size w w' := by
  obtain ⟨a, c, rfl, ha1⟩ := ownT_form h
  obtain ⟨b, d, rfl, hb1⟩ := ownT_form h'
  rw [← ha.1] at hb1 ⊢
  refine alike_core w a b l.length c d hl (Lib.hid fun k hk => ?_)
  obtain ⟨g, rfl, hg⟩ := ha1 (by omega)
  obtain ⟨g', rfl, hg'⟩ := hb1 (by omega)
  have hk' : k < m.length := by rw [← ha.1]; exact hk
  have ht : l[k]? = some (l[k]'hk) := List.getElem?_eq_getElem hk
  have hu : m[k]? = some (m[k]'hk') := List.getElem?_eq_getElem hk'
  obtain ⟨e1, e2, e3⟩ := ha.2 k _ _ ht hu
  obtain ⟨a0, _, _, a3, a4⟩ := tok_cells hg ht
  obtain ⟨b0, _, _, b3, b4⟩ := tok_cells hg' hu
  rw [← e1] at b0
  rw [← e2] at b3
  rw [← e3] at b4
  exact ⟨g, g', _, _, _, rfl, rfl, ⟨a0, a3, a4⟩, b0, b3, b4⟩

end Go.Proofs.Ytddeiidkmihkkaa
