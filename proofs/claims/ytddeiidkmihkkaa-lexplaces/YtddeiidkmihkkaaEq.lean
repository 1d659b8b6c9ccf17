/-
  '==' and '!=' between tokens and between faults of the program. Conditions: none.
-/
import Derived.Test.YtddeiidkmihkkaaRow
import Derived.Laws.StructEq
namespace Go.Proofs.Ytddeiidkmihkkaa
open Go.RowKit Go.Sort
set_option linter.unusedVariables false

theorem equalIn_tok (k : Nat) (a b n : Int) (s : ByteArray) (w : World) : (Op.equalIn 10000 33 (.agg #[.int .u8 (k : Nat), .int .i64 a, .int .i64 b, .int .i64 n, .string s]) (.agg #[.int .u8 (k : Nat), .int .i64 a, .int .i64 b, .int .i64 n, .string s])).run Try.prog w = .ok true w := by
  have u2 := Try.underlying2
  have a2 := Try.isAgg2
  have z2 := Try.sizeOf2
  have u3 := Try.underlying3
  have a3 := Try.isAgg3
  have z3 := Try.sizeOf3
  have u5 := Try.underlying5
  have a5 := Try.isAgg5
  have z5 := Try.sizeOf5
  have u9 := Try.underlying9
  have a9 := Try.isAgg9
  have z9 := Try.sizeOf9
  have hS : Try.prog.underlying 33 = some (.struct (Try.prog.fieldsOf 33)) := by kernel_rfl
  have hp : Try.prog.stoodInHeld 33 = false := by kernel_rfl
  rw [show (10000 : Nat) = 9999 + 1 from rfl, run_equalIn_agg w 9999 33 _ _ hS hp]
  simp only [Program.fieldsOf, Try.underlying33]
  go_simp

theorem equalIn_fau (a b c d e f : Int) (w : World) : (Op.equalIn 10000 26 (.agg #[.int .i64 a, .int .i64 b, .int .i64 c]) (.agg #[.int .i64 d, .int .i64 e, .int .i64 f])).run Try.prog w = .ok ((a == d) && (b == e) && (c == f)) w := by
  have u3 := Try.underlying3
  have a3 := Try.isAgg3
  have z3 := Try.sizeOf3
  have u24 := Try.underlying24
  have a24 := Try.isAgg24
  have z24 := Try.sizeOf24
  have hS : Try.prog.underlying 26 = some (.struct (Try.prog.fieldsOf 26)) := by kernel_rfl
  have hp : Try.prog.stoodInHeld 26 = false := by kernel_rfl
  rw [show (10000 : Nat) = 9999 + 1 from rfl, run_equalIn_agg w 9999 26 _ _ hS hp]
  simp only [Program.fieldsOf, Try.underlying26]
  go_simp
  by_cases h1 : a = d <;> by_cases h2 : b = e <;> by_cases h3 : c = f <;> simp [h1, h2, h3]

theorem neq_tok (k : Nat) (a b n : Int) (s : ByteArray) (w : World) : (binOp .neq 33 (.agg #[.int .u8 (k : Nat), .int .i64 a, .int .i64 b, .int .i64 n, .string s]) (.agg #[.int .u8 (k : Nat), .int .i64 a, .int .i64 b, .int .i64 n, .string s])).run Try.prog w = .ok (.bool false) w := by
  rw [run_neq_struct, equalIn_tok]; rfl
theorem guard_tok (op : BinOp) (x y : Operand) (A B : Array Value) (w : World) : (eqGuard op 33 x y (.agg A) (.agg B)).run Try.prog w = .ok () w :=
  run_eqGuard_agg w op 33 x y _ _ (by kernel_rfl)
theorem eql_fau (a b c d e f : Int) (t : Bool) (h : ((a == d) && (b == e) && (c == f)) = t) (w : World) : (binOp .eql 26 (.agg #[.int .i64 a, .int .i64 b, .int .i64 c]) (.agg #[.int .i64 d, .int .i64 e, .int .i64 f])).run Try.prog w = .ok (.bool t) w := by
  rw [run_eql_struct, equalIn_fau, h]; rfl
theorem guard_fau (op : BinOp) (x y : Operand) (A B : Array Value) (w : World) : (eqGuard op 26 x y (.agg A) (.agg B)).run Try.prog w = .ok () w :=
  run_eqGuard_agg w op 26 x y _ _ (by kernel_rfl)

theorem ownT_form {w : World} {B : Nat} {v : Value} {l : List Tok} (h : OwnT w B v l) : ∃ a cap, v = .slice a l.length cap ∧ (0 < l.length → ∃ g, a = some ⟨g, 0, none⟩ ∧ ∀ j u, (rowT l)[j]? = some u → w.cell? ⟨g, j, none⟩ = some u) := by
  rcases h.2 with ⟨rfl, hn⟩ | ⟨g, cap, cur, rfl, h1, h2⟩
  · exact ⟨none, 0, by rw [hn], fun h0 => by omega⟩
  · refine ⟨some ⟨g, 0, none⟩, cap, rfl, fun _ => ⟨g, rfl, fun j u hj => ?_⟩⟩
    have h' : w.ownsRow B 33 5 (.slice (some ⟨g, 0, none⟩) l.length cap) l.length (rowT l) := h
    have hjl : j < (rowT l).length := by
      rcases Nat.lt_or_ge j (rowT l).length with h | h
      · exact h
      · rw [List.getElem?_eq_none h] at hj; cases hj
    rw [h'.cellAt j (by rw [rowT_len] at hjl; exact hjl), hj]

theorem rowT_get (l : List Tok) : ∀ (k : Nat) (t : Tok), l[k]? = some t → ∀ j, j < 5 → (rowT l)[k * 5 + j]? = (tokCells t)[j]? := by
  induction l with
  | nil => intro k t h; simp at h
  | cons a l ih =>
    intro k t h j hj
    have e : rowT (a :: l) = tokCells a ++ rowT l := rfl
    have hl : (tokCells a).length = 5 := rfl
    rw [e]
    cases k with
    | zero =>
      simp at h
      subst h
      rw [Nat.zero_mul, Nat.zero_add, List.getElem?_append_left (by rw [hl]; exact hj)]
    | succ k =>
      rw [List.getElem?_append_right (by rw [hl]; omega), hl, ← ih k t (by simpa using h) j hj]
      congr 1; omega

/-- The cells of one token in a row. -/
theorem tok_cells {w : World} {g k : Nat} {l : List Tok} {t : Tok} (h : ∀ j u, (rowT l)[j]? = some u → w.cell? ⟨g, j, none⟩ = some u) (ht : l[k]? = some t) :
    w.cell? ⟨g, k * 5, none⟩ = some (.int .u8 (t.kind : Nat)) ∧ w.cell? ⟨g, k * 5 + 1, none⟩ = some (.int .i64 (t.line : Nat)) ∧ w.cell? ⟨g, k * 5 + 2, none⟩ = some (.int .i64 (t.col : Nat)) ∧
    w.cell? ⟨g, k * 5 + 3, none⟩ = some (.int .i64 t.num) ∧ w.cell? ⟨g, k * 5 + 4, none⟩ = some (.string (bs t.text)) :=
  ⟨h _ _ (by have := rowT_get l k t ht 0 (by decide); exact this), h _ _ (rowT_get l k t ht 1 (by decide)), h _ _ (rowT_get l k t ht 2 (by decide)), h _ _ (rowT_get l k t ht 3 (by decide)), h _ _ (rowT_get l k t ht 4 (by decide))⟩

set_option maxHeartbeats 1000000 in
theorem same_core (w : World) (a b : Option Addr) (n c d : Nat) (hn : n ≤ 100000000) (ht : Hid (∀ k, k < n → ∃ g g' t, a = some ⟨g, 0, none⟩ ∧ b = some ⟨g', 0, none⟩ ∧
      (w.cell? ⟨g, k * 5, none⟩ = some (.int .u8 ((t : Tok).kind : Nat)) ∧ w.cell? ⟨g, k * 5 + 1, none⟩ = some (.int .i64 (t.line : Nat)) ∧ w.cell? ⟨g, k * 5 + 2, none⟩ = some (.int .i64 (t.col : Nat)) ∧
    w.cell? ⟨g, k * 5 + 3, none⟩ = some (.int .i64 t.num) ∧ w.cell? ⟨g, k * 5 + 4, none⟩ = some (.string (bs t.text))) ∧
      (w.cell? ⟨g', k * 5, none⟩ = some (.int .u8 (t.kind : Nat)) ∧ w.cell? ⟨g', k * 5 + 1, none⟩ = some (.int .i64 (t.line : Nat)) ∧ w.cell? ⟨g', k * 5 + 2, none⟩ = some (.int .i64 (t.col : Nat)) ∧
    w.cell? ⟨g', k * 5 + 3, none⟩ = some (.int .i64 t.num) ∧ w.cell? ⟨g', k * 5 + 4, none⟩ = some (.string (bs t.text))))) : Calls Try.prog 11 #[.slice a n c, .slice b n d] w fun e w' => e = .returned (.bool true) ∧ Below w.heap.size w w' := by
  have hne : ((n : Int) != (n : Int)) = false := by simp
  go_enter Try.func11, Try.ntmps11
  go_wp2
  go_loopw [13] (fun v wr => ∃ k : Nat, k ≤ n ∧ v = .int .i64 (k : Nat) ∧ Below w.heap.size w wr) (fun v _ => n - (intOf v).toNat)
  case atStart => exact ⟨0, Nat.zero_le _, rfl, Below.refl _ _⟩
  case round =>
    obtain ⟨k, hk, rfl, hb⟩ := hrel
    by_cases hlt : k < n
    · obtain ⟨g, g', t, rfl, rfl, ⟨p0, p1, p2, p3, p4⟩, q0, q1, q2, q3, q4⟩ := ht.out k hlt
      have r0 := cell_carry hb p0
      have r1 := cell_carry hb p1
      have r2 := cell_carry hb p2
      have r3 := cell_carry hb p3
      have r4 := cell_carry hb p4
      have t0 := cell_carry hb q0
      have t1 := cell_carry hb q1
      have t2 := cell_carry hb q2
      have t3 := cell_carry hb q3
      have t4 := cell_carry hb q4
      clear p0 p1 p2 p3 p4 q0 q1 q2 q3 q4
      obtain ⟨kd, ln, cl, nm, tx⟩ := t
      simp only at r0 r1 r2 r3 r4 t0 t1 t2 t3 t4
      have hq : ∀ w, (binOp .neq 33 (.agg #[.int .u8 (kd : Nat), .int .i64 ln, .int .i64 cl, .int .i64 nm, .string (bs tx)]) (.agg #[.int .u8 (kd : Nat), .int .i64 ln, .int .i64 cl, .int .i64 nm, .string (bs tx)])).run Try.prog w = .ok (.bool false) w := fun w => neq_tok _ _ _ _ _ w
      have hgd := guard_tok
      have hlt2 : (k : Int) < n := by omega
      replace hb := Lib.hid hb
      go_wp2_with fail
      go_quiet (fail)
      have hb2 := Lib.hid (below_step hb.out (below_drewN _ nq))
      go_wp2
      go_roundw
      case rel => exact ⟨k + 1, hlt, by go_num, hb2.out⟩
      case measure => simp [intOf]; omega
    · have hlt2 : ¬ (k : Int) < n := by omega
      go_wp2
      go_ret
      exact ⟨rfl, hb⟩

theorem same_true {w : World} {B B' : Nat} {v v' : Value} {l : List Tok} (h : OwnT w B v l) (h' : OwnT w B' v' l) (hl : l.length ≤ 100000000) : Calls Try.prog 11 #[v, v'] w fun e w' => e = .returned (.bool true) ∧ Below w.heap.size w w' := by
  obtain ⟨a, c, rfl, ha⟩ := ownT_form h
  obtain ⟨b, d, rfl, hb⟩ := ownT_form h'
  refine same_core w a b l.length c d hl (Lib.hid fun k hk => ?_)
  obtain ⟨g, rfl, hg⟩ := ha (by omega)
  obtain ⟨g', rfl, hg'⟩ := hb (by omega)
  have ht : l[k]? = some (l[k]'hk) := List.getElem?_eq_getElem hk
  exact ⟨g, g', l[k]'hk, rfl, rfl, tok_cells hg ht, tok_cells hg' ht⟩

end Go.Proofs.Ytddeiidkmihkkaa
