/-
  Rows of bytes that a call owns, append on them, their text; contract of quote.appendByte. Conditions: what is there is at most 1000000 bytes long.
-/
import Derived.Test.YtcjliachoahndaaSize
import Derived.OwnWalk
import Derived.Test.YtcjliachoahndaaBuilt
import Derived.Laws.BytesArg
namespace Go.Proofs.Ytcjliachoahndaa
open Go.RowKit
set_option linter.unusedVariables false

theorem Try.info5 : (Try.prog.info? 5).map (fun i => (i.zero, i.size, i.bytes)) = some (some (.int .u8 0), 1, 1) := by kernel_rfl

/-- A row of bytes that the call owns. -/
def Own (w : World) (B : Nat) (v : Value) (l : List UInt8) : Prop := w.ownsRow B 5 1 v l.length (l.map byt)

theorem own_more {w' : World} {B : Nat} {v' : Value} {l m : List UInt8} {k : Nat} {news : List Value} (h : w'.ownsRow B 5 1 v' (l.length + k) (l.map byt ++ news)) (hk : m.length = k) (hm : news = m.map byt) : Own w' B v' (l ++ m) := by
  subst hk hm
  unfold Own
  rw [List.length_append, List.map_append]
  exact h

theorem own_carry {w w' : World} {B : Nat} {v : Value} {l : List UInt8} (h : Own w B v l) (hb : Below w.heap.size w w') : Own w' B v l :=
  World.ownsRow.kept h (row := none) ⟨hb.os, hb.tape, hb.output, hb.size, fun k hk _ => hb.block k hk⟩ (by cases hv : v.ownBlock <;> simp)

/-- Values that lie at the head of a block. -/
def Lies (cs : List Value) (b : Nat) (w : World) : Prop := b < w.heap.size ∧ ∀ j u, cs[j]? = some u → w.cell? ((⟨b, 0, none⟩ : Addr).add j) = some u

theorem plain_add (b o : Nat) : (⟨b, 0, none⟩ : Addr).add o = ⟨b, o, none⟩ := by unfold Addr.add; split <;> simp_all

theorem Lies.carry {cs : List Value} {b : Nat} {w w' : World} (h : Lies cs b w) (hb : Below w.heap.size w w') : Lies cs b w' := by
  refine ⟨Nat.lt_of_lt_of_le h.1 hb.size, fun j u hj => ?_⟩
  have := h.2 j u hj
  rw [plain_add] at this ⊢
  exact cell_carry hb this

theorem Lies.made {news : Array Value} {cs : List Value} (w : World) (h : news.toList = cs) : Lies cs w.heap.size (w.alloc (.cells news 5)) := by
  subst h
  refine ⟨by simp, fun j u hj => ?_⟩
  have hsz : j < news.size := by
    rcases Nat.lt_or_ge j news.size with h | h
    · exact h
    · rw [List.getElem?_eq_none (by simpa using h)] at hj; cases hj
  rw [plain_add]
  simp at hj
  simp [go_sem, hj]

theorem wpList_app2 {ops : Array Oper} {rest : List Oper} {o : Oper} {a : Act} {Q : Exit → Act → World → Prop} {w : World} (hgd : o.guard = none) (s x : Operand)
    (ho : o.op = .call { callee := .builtin .append, args := #[s, x], argTypes := #[34, 34] }) (B : Nat) (v : Value) (l m : List UInt8) (k b : Nat) (hs : a.eval s = v)
    (hx : a.eval x = .slice (some ⟨b, 0, none⟩) k k) (hk : m.length = k) (hm : Lies (m.map byt) b w) (hown : Own w B v l) (hB : B ≤ w.heap.size) (hl : l.length + k ≤ 100000000)
    (h : ∀ v' w', Own w' B v' (l ++ m) → Below B w w' → wpList Try.prog ops Q rest (a.put o.dst v') w') : wpList Try.prog ops Q (o :: rest) a w := by
  obtain ⟨i0, hi0, hz0, hz1, hz2⟩ := info_parts Try.info5
  have hown' : w.ownsRow B 5 1 v l.length (l.map byt) := hown
  refine wpList_append_own _ hgd s x 34 ho B 5 i0 (.int .u8 0) 1 1 Try.underlying34 hi0 hz0 hz1 hz2 rfl (by decide) v l.length (l.map byt) hs hown' ⟨b, 0, none⟩ k k (m.map byt) hx (by simp [hk]) hm.2 ?_ ?_ ?_ ?_ ?_
  · intro u hu
    obtain ⟨c, _, rfl⟩ := List.mem_map.1 hu
    rfl
  · unfold maxLen; omega
  · omega
  · exact hB
  · intro v' w' h1 h2 _
    exact h v' w' (own_more h1 hk rfl) ((Below.refl B w).grown h2 hB fun r hr => (hown'.lt r hr).1)

theorem wpList_app {ops : Array Oper} {rest : List Oper} {o : Oper} {a : Act} {Q : Exit → Act → World → Prop} {w : World} {news : Array Value} (hgd : o.guard = none) (s x : Operand)
    (ho : o.op = .call { callee := .builtin .append, args := #[s, x], argTypes := #[34, 34] }) (B : Nat) (v : Value) (l m : List UInt8) (k : Nat) (hs : a.eval s = v)
    (hx : a.eval x = .slice (some ⟨w.heap.size, 0, none⟩) k k) (hk : m.length = k) (hm : news.toList = m.map byt) (hown : Own w B v l) (hB : B ≤ w.heap.size) (hl : l.length + k ≤ 100000000)
    (h : ∀ v' w', Own w' B v' (l ++ m) → Below B w w' → wpList Try.prog ops Q rest (a.put o.dst v') w') : wpList Try.prog ops Q (o :: rest) a (w.alloc (.cells news 5)) :=
  wpList_app2 hgd s x ho B v l m k w.heap.size hs hx hk (Lies.made w hm) (own_carry hown (below_alloc w _)) (by simp; omega) hl fun v' w' h1 h2 =>
    h v' w' h1 (((below_alloc w _).mono hB).trans h2)

/-- The text of an owned row. -/
theorem own_text {w : World} {B : Nat} {v : Value} {l : List UInt8} (h : Own w B v l) : (convert 34 9 v).run Try.prog w = .ok (.string (bs l)) w := by
  rcases h.2 with ⟨rfl, hn⟩ | ⟨g, cap, cur, rfl, h2⟩
  · obtain rfl : l = [] := List.eq_nil_of_length_eq_zero hn
    exact run_convert_bytes_nil (P := Try.prog) w 34 5 Try.underlying34 Try.underlying5 0 0 9 Try.underlying9
  · have hown : w.ownsRow B 5 1 (.slice (some ⟨g, 0, none⟩) l.length cap) l.length (l.map byt) := h
    have := run_convert_bytes_arg (P := Try.prog) w 34 5 Try.underlying34 Try.underlying5 g 0 l.length cap (l.map fun c => ((c.toNat : Nat) : Int)) (by simp) (fun i hi => by
      rw [Nat.zero_add, hown.cellAt i (by omega)]
      simp [List.getD, hi]) 9 Try.underlying9
    rw [this]
    have e : strOfNums (l.map fun c => ((c.toNat : Nat) : Int)) = bs l := by
      apply bytes_eq
      rw [bs_list]
      simp [strOfNums, Function.comp_def]
    rw [e]

set_option maxHeartbeats 400000 in
theorem app_esc (c l : UInt8) (h1 : ltr c = (l, true)) (B : Nat) (v : Value) (xs : List UInt8) (w : World) (ho : Hid (Own w B v xs)) (hB : B ≤ w.heap.size) (hn : xs.length ≤ 1000000) :
    Calls Try.prog 14 #[v, byt c] w fun e w' => ∃ v', e = .returned v' ∧ Own w' B v' (xs ++ [92, l]) ∧ Below B w w' := by
  have HL := Lib.hid (fun w => letter_any c w)
  rw [h1] at HL
  clear h1
  go_enter Try.func14, Try.ntmps14
  go_wp2_with fail
  refine (HL.out _).mono ?_
  rintro e w1 ⟨rfl, rfl⟩
  go_wp2_with (at_builtin; refine wpList_app rfl _ _ rfl B v xs [92, l] 2 rfl rfl rfl rfl ho.out hB (by omega) ?_; intro v2 w2 ho2 hb2; replace ho2 := Lib.hid ho2; replace hb2 := Lib.hid hb2)
  go_ret
  exact ⟨_, rfl, ho2.out, hb2.out⟩

set_option maxHeartbeats 400000 in
theorem app_plain (c : UInt8) (h1 : ltr c = (0, false)) (h2 : wth c = true) (B : Nat) (v : Value) (xs : List UInt8) (w : World) (ho : Hid (Own w B v xs)) (hB : B ≤ w.heap.size) (hn : xs.length ≤ 1000000) :
    Calls Try.prog 14 #[v, byt c] w fun e w' => ∃ v', e = .returned v' ∧ Own w' B v' (xs ++ [c]) ∧ Below B w w' := by
  have HL := Lib.hid (fun w => letter_any c w)
  have HW := Lib.hid (fun w => within_any c w)
  rw [h1] at HL
  rw [h2] at HW
  clear h1 h2
  go_enter Try.func14, Try.ntmps14
  go_wp2_with fail
  refine (HL.out _).mono ?_
  rintro e w1 ⟨rfl, rfl⟩
  go_wp2_with fail
  refine (HW.out _).mono ?_
  rintro e w1 ⟨rfl, rfl⟩
  go_wp2_with (at_builtin; refine wpList_app rfl _ _ rfl B v xs [c] 1 rfl rfl rfl rfl ho.out hB (by omega) ?_; intro v2 w2 ho2 hb2; replace ho2 := Lib.hid ho2; replace hb2 := Lib.hid hb2)
  go_ret
  exact ⟨_, rfl, ho2.out, hb2.out⟩

theorem nope {b : Bool} (h : b = false) (h2 : b = true) : False := by rw [h] at h2; cases h2

abbrev dgs : ByteArray := { data := #[48, 49, 50, 51, 52, 53, 54, 55, 56, 57, 97, 98, 99, 100, 101, 102] }
theorem hx_index : ∀ n : Fin 16, (dgs[n.val]'(n.isLt)) = hx n.val := by decide

theorem run_dgs (p : Nat) (h : p < 16) (w : World) : (Instr.index 9 (.string dgs) (.int .u8 p)).run Try.prog w = .ok (byt (hx p)) w := by
  rw [run_index_string w 9 dgs .u8 p Try.underlying9]
  have h1 : (p : Int) < dgs.size := by show (p : Int) < (16 : Nat); omega
  rw [← hx_index ⟨p, h⟩]
  simp [h1]

theorem low4 : ∀ n : Fin 256, bits BinOp.and IntKind.u8 (n.val : Int) 15 = ((n.val % 16 : Nat) : Int) := by decide +kernel

set_option maxHeartbeats 400000 in
theorem app_hex (c : UInt8) (h1 : ltr c = (0, false)) (h2 : wth c = false) (B : Nat) (v : Value) (xs : List UInt8) (w : World) (ho : Hid (Own w B v xs)) (hB : B ≤ w.heap.size) (hn : xs.length ≤ 1000000) :
    Calls Try.prog 14 #[v, byt c] w fun e w' => ∃ v', e = .returned v' ∧ Own w' B v' (xs ++ [92, 120, hx (c.toNat / 16), hx (c.toNat % 16)]) ∧ Below B w w' := by
  have HL := Lib.hid (fun w => letter_any c w)
  have HW := Lib.hid (fun w => within_any c w)
  rw [h1] at HL
  rw [h2] at HW
  clear h1 h2
  have hc := c.toNat_lt
  obtain ⟨p, hp⟩ : ∃ p, c.toNat / 16 = p := ⟨_, rfl⟩
  obtain ⟨q, hq⟩ : ∃ q, c.toNat % 16 = q := ⟨_, rfl⟩
  have hp' : (c.toNat : Int) / 16 = p := by omega
  have hq' : bits BinOp.and IntKind.u8 (c.toNat : Int) 15 = q := by rw [← hq]; exact low4 ⟨c.toNat, hc⟩
  have hp2 : p < 16 := by omega
  have hq2 : q < 16 := by omega
  have HP := run_dgs p hp2
  have HQ := run_dgs q hq2
  rw [hp, hq]
  clear hp hq hc
  go_enter Try.func14, Try.ntmps14
  go_wp2_with fail
  refine (HL.out _).mono ?_
  rintro e w1 ⟨rfl, rfl⟩
  go_wp2_with fail
  refine (HW.out _).mono ?_
  rintro e w1 ⟨rfl, rfl⟩
  go_wp2_with fail
  refine region_built 7 _ (Obj.cells #[byt 92, byt 120, byt (hx p), byt (hx q)] 5) (fun b => .slice (some ⟨b, 0, none⟩) 4 4) (fun a => a.eval (.tmp 26) = byt (hx p) ∧ a.eval (.tmp 29) = byt (hx q)) (Lies [byt 92, byt 120, byt (hx p), byt (hx q)]) (by kernel_rfl) (by kernel_rfl) rfl ?ha ?al (fun b w w' h1 h2 => h1.carry h2) (fun w' h => Lies.made w' rfl) ?go
  case ha =>
    intro i o a v hi ho hw h
    match i, hi with
    | 0, _ => cases ho; simpa [go_sem] using h
    | 1, _ => cases ho; simpa [go_sem] using h
    | 2, _ => cases ho; simpa [go_sem] using h
    | 3, _ => exact (nope hw (by kernel_rfl)).elim
    | 4, _ => cases ho; simpa [go_sem] using h
    | 5, _ => cases ho; simpa [go_sem] using h
    | 6, _ => exact (nope hw (by kernel_rfl)).elim
  case al =>
    intro a w K hA h
    refine wpOp_of rfl rfl ?_
    obtain ⟨h1, h2⟩ := hA
    simp [go_sem] at h1 h2
    go_simp
    exact h
  case go =>
    simp only [List.take_succ_cons, List.take_zero, List.drop_succ_cons, List.drop_zero]
    repeat (refine wpU_step (fun K hK => ?_); go_simp; refine hK _ ?_; clear hK K)
    refine wpU_nil ⟨⟨by simp [go_sem], by simp [go_sem]⟩, ?_⟩
    intro b W hb hl
    replace ho := Lib.hid (own_carry ho.out hb)
    replace hl := Lib.hid hl
    have hB2 := Nat.le_trans hB hb.size
    replace hb := Lib.hid (hb.mono hB)
    go_wp2_with (at_builtin; go_loud (refine wpList_app2 rfl _ _ rfl B v xs [92, 120, hx p, hx q] 4 b rfl rfl rfl hl.out ho.out hB2 (by omega) ?_; intro v2 w2 ho2 hb2; replace ho2 := Lib.hid ho2; replace hb2 := Lib.hid hb2))
    go_ret
    exact ⟨_, rfl, ho2.out, hb.out.trans hb2.out⟩

theorem app_any (c : UInt8) (B : Nat) (v : Value) (xs : List UInt8) (w : World) (ho : Own w B v xs) (hB : B ≤ w.heap.size) (hn : xs.length ≤ 1000000) :
    Calls Try.prog 14 #[v, byt c] w fun e w' => ∃ v', e = .returned v' ∧ Own w' B v' (xs ++ esc c) ∧ Below B w w' := by
  rcases sorts c with ⟨l, h1, h3⟩ | ⟨h1, h2, h3⟩ | ⟨h1, h2, h3⟩
  · rw [h3]; exact app_esc c l h1 B v xs w (Lib.hid ho) hB hn
  · rw [h3]; exact app_plain c h1 h2 B v xs w (Lib.hid ho) hB hn
  · rw [h3]; exact app_hex c h1 h2 B v xs w (Lib.hid ho) hB hn

end Go.Proofs.Ytcjliachoahndaa
