/-
  The walk of LexLong out of its callees' contracts: texts of blanks, as long as may be and longer. Conditions: none.
-/
import Derived.Test.YtddeiidkmihkkaaLw0
namespace Go.Proofs.Ytddeiidkmihkkaa
open Go.RowKit Go.Sort
set_option linter.unusedVariables false

theorem toks_blanks (k : Nat) : ∀ a b, toks (List.replicate k 32) a b = .ok [⟨8, a, b + k, 0, []⟩] := by
  induction k with
  | zero => intro a b; exact toks_nil a b
  | succ k ih =>
    intro a b
    rw [List.replicate_succ, toks_blank _ _ _ _ (.inl rfl), ih, show b + 1 + k = b + (k + 1) by omega]

theorem toList_made (n : Nat) : (madeCells (Value.int .u8 0).cells (n * 1)).toList = List.replicate n (.int .u8 0) := by
  rw [Nat.mul_one]; exact toList_madeCells_one _ n

theorem set_blank (m k : Nat) (h : k < m) : (List.replicate k (Value.int .u8 32) ++ List.replicate (m - k) (Value.int .u8 0)).set k (.int .u8 32) = List.replicate (k + 1) (Value.int .u8 32) ++ List.replicate (m - (k + 1)) (Value.int .u8 0) := by
  rw [List.set_append_right _ _ (by simp), List.length_replicate, Nat.sub_self, show m - k = (m - (k + 1)) + 1 by omega, List.replicate_succ, List.set_cons_zero, List.replicate_succ', List.append_assoc]
  rfl

theorem str_blanks (m : Nat) : strOfNums (List.replicate m 32) = bs (List.replicate m 32) := by
  apply bytes_eq
  rw [bs_list]
  simp [strOfNums]

def BRel (m : Nat) (w : World) (i : Value) (wr : World) : Prop :=
  ∃ k : Nat, k ≤ m ∧ i = .int .i64 k ∧ wr.ownsRow w.heap.size 5 1 (.slice (some ⟨w.heap.size, 0, none⟩) m m) m (List.replicate k (.int .u8 32) ++ List.replicate (m - k) (.int .u8 0)) ∧ Below w.heap.size w wr

set_option maxHeartbeats 1000000 in
theorem long_pos (w : World) (n m : Nat) (hn1 : (0 : Int) < n) (hn : n ≤ 255) (hm : (65536 : Int) + n = m) (L : List Tok) (hL : Hid (L = [])) (S : ByteArray) (hS : Hid (bs (List.replicate m 32) = S)) (H0 : Hid AwakeC)
    (H9 : Hid (∀ w, Calls Try.prog 9 #[.string S] w (RetP w L 3 0 0)))
    (hq : ∀ w, (binOp .eql 26 (.agg #[.int .i64 3, .int .i64 0, .int .i64 0]) (.agg #[.int .i64 3, .int .i64 0, .int .i64 0])).run Try.prog w = .ok (.bool true) w)
    (hgd : ∀ (op : BinOp) (x y : Operand) (A B : Array Value) (w : World), (eqGuard op 26 x y (.agg A) (.agg B)).run Try.prog w = .ok () w) :
    Calls Try.prog 4 #[.int .u8 (n : Nat)] w fun e w' => e = .returned (.bool true) ∧ Below w.heap.size w w' := by
  obtain ⟨i0, hi0, hz0, hz1, hz2⟩ := info_parts Try.info5
  have I0 := Lib.hid hi0
  have Z0 := Lib.hid hz0
  have Z1 := Lib.hid hz1
  have Z2 := Lib.hid hz2
  clear hi0 hz0 hz1 hz2
  have hm2 : m ≤ 66000 := by omega
  go_enter Try.func4, Try.ntmps4
  go_wp2_with (first
    | (at_make; refine wpList_make_full _ rfl _ _ 31 rfl w.heap.size 5 i0 (.int .u8 0) 1 Try.underlying31 I0.out Z0.out Z1.out .i64 .i64 _ _ m rfl rfl (by omega) (by omega) (by rw [Z2.out]; omega) (by unfold maxLen; omega) (Nat.le_refl _) ?_; intro w1 hown hgr))
  have W1 := Lib.hid (show BRel m w (.int .i64 0) w1 from ⟨0, by omega, rfl, by rw [toList_made] at hown; simpa using hown, (Below.refl _ _).grown hgr (Nat.le_refl _) (fun _ h => by cases h)⟩)
  clear hown hgr
  go_loopw [13] (fun i wr => BRel m w i wr) (fun i _ => m - (intOf i).toNat)
  case atStart => exact W1.out
  case round =>
    clear W1
    obtain ⟨k, hk, rfl, hown, hbel⟩ := hrel
    by_cases hlt : k < m
    · have hcell : wr.cell? ⟨w.heap.size, k, none⟩ = some (.int .u8 0) := by
        rw [hown.cellAt _ (by omega), List.getElem?_append_right (by simp), List.length_replicate, Nat.sub_self, List.getElem?_replicate, if_pos (by omega)]
      have hfz := hown.frozenAt k
      have HO := Lib.hid hown
      have HB := Lib.hid hbel
      have hSt := Lib.hid (set_blank m k hlt)
      clear hown hbel
      go_wp2
      go_roundw
      case rel =>
        refine ⟨k + 1, by omega, by go_num, ?_, ?_⟩
        · rw [← hSt.out]; exact (HO.out.stored _ _).1
        · exact HB.out.setCell (Nat.le_refl _) _
      case measure => simp [intOf]; omega
    · obtain rfl : k = m := by omega
      have hcv := run_convert_bytes_arg (P := Try.prog) wr 31 5 Try.underlying31 Try.underlying5 w.heap.size 0 k k (List.replicate k 32) (by simp) (fun i hi => by
        rw [Nat.zero_add, hown.cellAt _ (by omega)]
        simp [List.getD, hi]) 9 Try.underlying9
      rw [str_blanks, hS.out] at hcv
      have HB := Lib.hid hbel
      clear hown hbel hlt
      go_wp2_with fail
      refine (H9.out _).mono ?_
      rintro _ w2 ⟨v, rfl, ho, hb2⟩
      obtain ⟨a, cap, rfl, hc⟩ := ownT_form ho
      rw [hL.out]
      have hb3 := Lib.hid (below_step HB.out hb2)
      clear hc ho hb2 HB hcv H9
      go_wp2_with fail
      refine (H0.out _).mono ?_
      rintro e w5 ⟨rfl, hb5⟩
      have hb6 := Lib.hid (below_step (below_step hb3.out (below_alloc _ _)) hb5)
      go_wp2
      go_ret
      exact ⟨rfl, hb6.out⟩

set_option maxHeartbeats 1000000 in
theorem long_zero (w : World) (m : Nat) (hm : Hid ((m : Int) = 65536)) (L : List Tok) (hL : Hid (L = [⟨8, 1, 65537, 0, []⟩])) (S : ByteArray) (hS : Hid (bs (List.replicate m 32) = S)) (H0 : Hid AwakeC)
    (H9 : Hid (∀ w, Calls Try.prog 9 #[.string S] w (RetP w L 0 0 0)))
    (hq : ∀ w, (binOp .eql 26 (.agg #[.int .i64 0, .int .i64 0, .int .i64 0]) (.agg #[.int .i64 0, .int .i64 0, .int .i64 0])).run Try.prog w = .ok (.bool true) w)
    (hgd : ∀ (op : BinOp) (x y : Operand) (A B : Array Value) (w : World), (eqGuard op 26 x y (.agg A) (.agg B)).run Try.prog w = .ok () w) :
    Calls Try.prog 4 #[.int .u8 0] w fun e w' => e = .returned (.bool true) ∧ Below w.heap.size w w' := by
  obtain ⟨i0, hi0, hz0, hz1, hz2⟩ := info_parts Try.info5
  have I0 := Lib.hid hi0
  have Z0 := Lib.hid hz0
  have Z1 := Lib.hid hz1
  have Z2 := Lib.hid hz2
  clear hi0 hz0 hz1 hz2
  have hm2 : m ≤ 66000 := by have := hm.out; omega
  go_enter Try.func4, Try.ntmps4
  go_wp2_with (first
    | (at_make; refine wpList_make_full _ rfl _ _ 31 rfl w.heap.size 5 i0 (.int .u8 0) 1 Try.underlying31 I0.out Z0.out Z1.out .i64 .i64 _ _ m rfl rfl (by have := hm.out; omega) (by have := hm.out; omega) (by rw [Z2.out]; omega) (by unfold maxLen; omega) (Nat.le_refl _) ?_; intro w1 hown hgr))
  have W1 := Lib.hid (show BRel m w (.int .i64 0) w1 from ⟨0, by omega, rfl, by rw [toList_made] at hown; simpa using hown, (Below.refl _ _).grown hgr (Nat.le_refl _) (fun _ h => by cases h)⟩)
  clear hown hgr
  go_loopw [13] (fun i wr => BRel m w i wr) (fun i _ => m - (intOf i).toNat)
  case atStart => exact W1.out
  case round =>
    clear W1
    obtain ⟨k, hk, rfl, hown, hbel⟩ := hrel
    by_cases hlt : k < m
    · have hcell : wr.cell? ⟨w.heap.size, k, none⟩ = some (.int .u8 0) := by
        rw [hown.cellAt _ (by omega), List.getElem?_append_right (by simp), List.length_replicate, Nat.sub_self, List.getElem?_replicate, if_pos (by omega)]
      have hfz := hown.frozenAt k
      have HO := Lib.hid hown
      have HB := Lib.hid hbel
      have hSt := Lib.hid (set_blank m k hlt)
      clear hown hbel
      go_wp2
      go_roundw
      case rel =>
        refine ⟨k + 1, by omega, by go_num, ?_, ?_⟩
        · rw [← hSt.out]; exact (HO.out.stored _ _).1
        · exact HB.out.setCell (Nat.le_refl _) _
      case measure => simp [intOf]; omega
    · obtain rfl : k = m := by omega
      have hcv := run_convert_bytes_arg (P := Try.prog) wr 31 5 Try.underlying31 Try.underlying5 w.heap.size 0 k k (List.replicate k 32) (by simp) (fun i hi => by
        rw [Nat.zero_add, hown.cellAt _ (by omega)]
        simp [List.getD, hi]) 9 Try.underlying9
      rw [str_blanks, hS.out] at hcv
      have HB := Lib.hid hbel
      clear hown hbel hlt
      go_wp2_with fail
      refine (H9.out _).mono ?_
      rintro _ w2 ⟨v, rfl, ho, hb2⟩
      obtain ⟨a, cap, rfl, hc⟩ := ownT_form ho
      obtain ⟨g, rfl, hg⟩ := hc (by rw [hL.out]; decide)
      have hg0 := hg 0 (.int .u8 8) (by rw [hL.out]; rfl)
      have hg2 := hg 2 (.int .i64 65537) (by rw [hL.out]; rfl)
      have d0 := fun O => cell_alloc hg0 O
      have d2 := fun O => cell_alloc hg2 O
      rw [hL.out]
      have hb3 := Lib.hid (below_step HB.out hb2)
      clear ho hb2 HB hcv H9 hg
      go_wp2_with fail
      refine (H0.out _).mono ?_
      rintro e w5 ⟨rfl, hb5⟩
      have hb6 := Lib.hid (below_step (below_step hb3.out (below_alloc _ _)) hb5)
      go_wp2
      go_ret
      exact ⟨rfl, hb6.out⟩

theorem lexLong_walk (a0 : Int) (w0 : (Lit.int .u8 a0).wf = true) (w : World) : Calls Try.prog 4 #[.int .u8 a0] w fun e w' => e = .returned (.bool true) ∧ Below w.heap.size w w' := by
  have h1 : IntKind.u8.min ≤ a0 ∧ a0 ≤ IntKind.u8.max := by simpa [Lit.wf] using w0
  have h0 : 0 ≤ a0 ∧ a0 ≤ 255 := h1
  obtain ⟨n, rfl⟩ : ∃ n : Nat, a0 = n := ⟨a0.toNat, by omega⟩
  by_cases hn : 0 < n
  · exact long_pos w n (65536 + n) (by omega) (by omega) (by omega) [] (Lib.hid rfl) _ (Lib.hid rfl) (Lib.hid awake_any)
      (Lib.hid fun w => (tokens_long _ w (by rw [bs_size, List.length_replicate]; omega)).mono fun _ _ h => retP_bad h) (fun w => eql_fau 3 0 0 3 0 0 true rfl w) guard_fau
  · obtain rfl : n = 0 := by omega
    refine long_zero w 65536 (Lib.hid rfl) _ (Lib.hid rfl) _ (Lib.hid rfl) (Lib.hid awake_any) (Lib.hid fun w => ?_) (fun w => eql_fau 0 0 0 0 0 0 true rfl w) guard_fau
    refine (tokens_core _ w (by rw [bs_size, List.length_replicate]; omega) _ (Lib.hid ?_)).mono fun _ _ h => retP_ok h
    rw [bs_list, toks_blanks]

end Go.Proofs.Ytddeiidkmihkkaa
