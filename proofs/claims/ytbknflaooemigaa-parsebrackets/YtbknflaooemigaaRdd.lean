/-
  Contract of parse.reader's add: a node behind those that were made. Conditions: as said (at most 600000 nodes).
-/
import Derived.Test.YtbknflaooemigaaRdh
import Derived.BigRegion
import Derived.Deep.AppendLies
import Derived.Deep.RegionLaw
namespace Go.Proofs.Ytbknflaooemigaa
open Go.RowKit Go.Sort
set_option linter.unusedVariables false

/-- A node as a value. -/
abbrev nV (k : Nat) (l c s : Int) (m : Int) (X : ByteArray) : Value := .agg #[.int .u8 k, .int .i64 l, .int .i64 c, .int .i64 s, .int .i64 m, .string X]

theorem Try.info32 : (Try.prog.info? 32).map (fun i => (i.zero, i.size, i.bytes)) = some (some (.agg #[.int .u8 0, .int .i64 0, .int .i64 0, .int .i64 0, .int .i64 0, .string { data := #[] }]), 6, 56) := by kernel_rfl

theorem Lies.made32 {news : Array Value} {cs : List Value} (w : World) (h : news.toList = cs) : Lies cs w.heap.size (w.alloc (.cells news 32)) := by
  subst h
  refine ⟨by simp, fun j u hj => ?_⟩
  have hsz : j < news.size := by
    rcases Nat.lt_or_ge j news.size with h | h
    · exact h
    · rw [List.getElem?_eq_none (by simpa using h)] at hj; cases hj
  rw [plain_add]
  simp at hj
  simp [go_sem, hj]

theorem ownN_carry {w w' : World} {B : Nat} {v : Value} {l : List Nd} (h : OwnN w B v l) (hb : Below w.heap.size w w') : OwnN w' B v l :=
  World.ownsRow.kept h (row := none) ⟨hb.os, hb.tape, hb.output, hb.size, fun k hk _ => hb.block k hk⟩ (by cases hv : v.ownBlock <;> simp)

theorem wpList_appN {ops : Array Oper} {rest : List Oper} {o : Oper} {a : Act} {Q : Exit → Act → World → Prop} {w : World} (hgd : o.guard = none) (s x : Operand)
    (ho : o.op = .call { callee := .builtin .append, args := #[s, x], argTypes := #[23, 23] }) (B : Nat) (v : Value) (l : List Nd) (t : Nd) (g : Nat) (hs : a.eval s = v)
    (hx : a.eval x = .slice (some ⟨g, 0, none⟩) 1 1) (hm : Lies (ndCells t) g w) (hown : OwnN w B v l) (hB : B ≤ w.heap.size) (hl : l.length + 1 ≤ 1000000)
    (h : ∀ v' w', OwnN w' B v' (l ++ [t]) → w.grownBy w' v.ownBlock → wpList Try.prog ops Q rest (a.put o.dst v') w') : wpList Try.prog ops Q (o :: rest) a w := by
  obtain ⟨i0, hi0, hz0, hz1, hz2⟩ := info_parts Try.info32
  have hown' : w.ownsRow B 32 6 v l.length (ndFlat l) := hown
  refine wpList_append_own _ hgd s x 23 ho B 32 i0 _ 6 56 Try.underlying23 hi0 hz0 hz1 hz2 rfl (by decide) v l.length (ndFlat l) hs hown' ⟨g, 0, none⟩ 1 1 (ndCells t) hx (by simp [ndCells]) hm.2 ?_ ?_ ?_ ?_ ?_
  · intro u hu
    simp only [ndCells, List.mem_cons, List.not_mem_nil, or_false] at hu
    rcases hu with rfl | rfl | rfl | rfl | rfl | rfl <;> rfl
  · unfold maxLen; omega
  · omega
  · exact hB
  · intro v' w' h1 h2 _
    refine h v' w' ?_ h2
    unfold OwnN
    rw [List.length_append, ndFlat_app]
    simpa [ndFlat] using h1

theorem one_nd (t : Nd) : ∀ u ∈ ndCells t, u.oneCell' = true := by
  intro u hu
  simp only [ndCells, List.mem_cons, List.not_mem_nil, or_false] at hu
  rcases hu with rfl | rfl | rfl | rfl | rfl | rfl <;> rfl

theorem own_snoc {w : World} {B : Nat} {v : Value} {D : List Nd} {t : Nd} {dn : Nat} (h : w.ownsRow B 32 6 v (dn + 1) (ndFlat D ++ ndCells t)) (hD : D.length = dn) : OwnN w B v (D ++ [t]) := by
  unfold OwnN
  rw [List.length_append, ndFlat_app, hD]
  simpa [ndFlat] using h

set_option maxHeartbeats 4000000 in
theorem add_core {w : World} {b : Nat} {kd ln cl fr : Nat} {nm : Int} {X : ByteArray} {k : Nat} {l c s m : Int} {Y : ByteArray} {dn : Nat} {a : Option Addr} {cap : Nat} {D : List Nd} (hbl : b < w.heap.size)
    (c3 : w.cell? ⟨b, 3, none⟩ = some (.slice a dn cap)) (fz : ∀ o, w.frozen? ⟨b, o, none⟩ = false) (z : Nat) (hz1 : (dn : Int) - fr = z) (hdn : dn ≤ 600000) (hD : Hid (D.length = dn)) (ho : Hid (OwnN w (b + 1) (.slice a dn cap) D)) :
    Calls Try.prog 19 #[pR b, sV kd ln cl nm X fr, nV k l c s m Y] w fun e w' => e = .returned (.bool true) ∧ ∃ v' V W, Below w.heap.size w V ∧ OwnN W (b + 1) v' (D ++ [⟨k, ln, cl, z, m, Y⟩]) ∧ V.grownBy W (Value.slice a dn cap).ownBlock ∧ w' = W.setCell ⟨b, 3, none⟩ v' := by
  obtain ⟨i0, hi0, hz0, hzz1, hz2⟩ := info_parts Try.info32
  have HI := Lib.hid (And.intro hi0 (And.intro hz0 (And.intro hzz1 hz2)))
  clear hi0 hz0 hzz1 hz2
  go_enter Try.func19, Try.ntmps19
  go_wp2_with fail
  go_region
  rename_i hK
  refine hK _ _ ?_
  clear hK
  obtain ⟨W, hW⟩ : ∃ W, W = ((w.alloc (Obj.cells #[Value.int IntKind.u8 kd, Value.int IntKind.i64 ln, Value.int IntKind.i64 cl, Value.int IntKind.i64 nm, Value.string X, Value.int IntKind.i64 fr] 50)).alloc
    (Obj.cells #[Value.int IntKind.u8 k, Value.int IntKind.i64 ln, Value.int IntKind.i64 cl, Value.int IntKind.i64 z, Value.int IntKind.i64 m, Value.string Y] 32)).drew := ⟨_, rfl⟩
  have hB : Below w.heap.size w W := by rw [hW]; go_grown
  have hz : W.heap.size = w.heap.size + 1 + 1 := by rw [hW]; simp
  rw [← hW]
  have g3 : W.cell? ⟨b, 3, none⟩ = some (.slice a dn cap) := cell_carry hB c3
  have g4 : ∀ o, W.frozen? ⟨b, o, none⟩ = false := fun o => froz_carry hB c3 (fz o)
  have n0 : W.cell? ⟨w.heap.size + 1, 0, none⟩ = some (.int .u8 k) := by rw [hW]; simp [go_sem]
  have n1 : W.cell? ⟨w.heap.size + 1, 1, none⟩ = some (.int .i64 ln) := by rw [hW]; simp [go_sem]
  have n2 : W.cell? ⟨w.heap.size + 1, 2, none⟩ = some (.int .i64 cl) := by rw [hW]; simp [go_sem]
  have n3 : W.cell? ⟨w.heap.size + 1, 3, none⟩ = some (.int .i64 z) := by rw [hW]; simp [go_sem]
  have n4 : W.cell? ⟨w.heap.size + 1, 4, none⟩ = some (.int .i64 m) := by rw [hW]; simp [go_sem]
  have n5 : W.cell? ⟨w.heap.size + 1, 5, none⟩ = some (.string Y) := by rw [hW]; simp [go_sem]
  have hbW : b < W.heap.size := by omega
  clear hW c3 fz
  replace ho := Lib.hid (ownN_carry ho.out hB)
  have hnb : some b ≠ (Value.slice a dn cap).ownBlock := fun e => by have := (World.ownsRow.lt ho.out b e.symm).1; omega
  have HB := Lib.hid hB
  clear hB
  obtain ⟨t0, ht0⟩ : ∃ t0 : Nd, t0 = ⟨k, ln, cl, z, m, Y⟩ := ⟨_, rfl⟩
  have HO : Hid ((W.alloc (.cells #[Value.int .u8 (k : Nat), Value.int .i64 (ln : Nat), Value.int .i64 (cl : Nat), Value.int .i64 (z : Nat), Value.int .i64 m, Value.string Y] 32)).drew.ownsRow (b + 1) 32 6 (.slice a dn cap) dn (ndFlat D)) := Lib.hid (by
    have := ownN_carry ho.out (below_alloc W (.cells #[Value.int .u8 (k : Nat), Value.int .i64 (ln : Nat), Value.int .i64 (cl : Nat), Value.int .i64 (z : Nat), Value.int .i64 m, Value.string Y] 32))
    unfold OwnN at this; rw [hD.out] at this; exact this.drew)
  have HL : Hid (∀ j u, (ndCells t0)[j]? = some u → (W.alloc (.cells #[Value.int .u8 (k : Nat), Value.int .i64 (ln : Nat), Value.int .i64 (cl : Nat), Value.int .i64 (z : Nat), Value.int .i64 m, Value.string Y] 32)).drew.cell? ((⟨w.heap.size + 1 + 1, 0, none⟩ : Addr).add j) = some u) := Lib.hid (by
    rw [ht0, ← hz]; exact (Lies.made32 (cs := ndCells ⟨k, ln, cl, z, m, Y⟩) W rfl).2)
  have HS : b + 1 ≤ (W.alloc (.cells #[Value.int .u8 (k : Nat), Value.int .i64 (ln : Nat), Value.int .i64 (cl : Nat), Value.int .i64 (z : Nat), Value.int .i64 m, Value.string Y] 32)).drew.heap.size := by simp; omega
  replace ht0 := Lib.hid ht0
  have G3 : Hid ((W.alloc (.cells #[Value.int .u8 (k : Nat), Value.int .i64 (ln : Nat), Value.int .i64 (cl : Nat), Value.int .i64 (z : Nat), Value.int .i64 m, Value.string Y] 32)).drew.cell? ⟨b, 3, none⟩ = some (.slice a dn cap)) := Lib.hid (cell_alloc g3 _)
  have G4 : Hid (∀ o, (W.alloc (.cells #[Value.int .u8 (k : Nat), Value.int .i64 (ln : Nat), Value.int .i64 (cl : Nat), Value.int .i64 (z : Nat), Value.int .i64 m, Value.string Y] 32)).drew.frozen? ⟨b, o, none⟩ = false) := Lib.hid fun o => froz_alloc g3 (g4 o) _
  have G5 : Hid (b < (W.alloc (.cells #[Value.int .u8 (k : Nat), Value.int .i64 (ln : Nat), Value.int .i64 (cl : Nat), Value.int .i64 (z : Nat), Value.int .i64 m, Value.string Y] 32)).drew.heap.size) := Lib.hid (by simp; omega)
  have G6 : Hid (Below w.heap.size w (W.alloc (.cells #[Value.int .u8 (k : Nat), Value.int .i64 (ln : Nat), Value.int .i64 (cl : Nat), Value.int .i64 (z : Nat), Value.int .i64 m, Value.string Y] 32)).drew) := Lib.hid (HB.out.trans ((below_alloc _ _).drew.mono (by omega)))
  have g3a := fun O => cell_alloc g3 O
  go_wp2_with fail
  go_region_law (go_loud (refine step_append_lies _ rfl _ _ 23 rfl (b + 1) 32 i0 _ 6 56 Try.underlying23 HI.out.1 HI.out.2.1 HI.out.2.2.1 HI.out.2.2.2 rfl (by decide) (.slice a dn cap) dn (ndFlat D) rfl HO.out ⟨w.heap.size + 1 + 1, 0, none⟩ 1 1 (ndCells t0) rfl (by simp [ndCells]) HL.out (one_nd _) (by decide) (by unfold maxLen; omega) (by omega) HS _ rfl ?_; intro g cap2 w2 ho2 hg2 _ _; have j3 := hg2.cell G3.out hnb; have j4 := fun o => (World.frozen?_of_block (a := ⟨b, o, none⟩) (hg2.block b G5.out hnb)).trans (G4.out o); replace ho2 := Lib.hid ho2; replace hg2 := Lib.hid hg2))
  all_goals (go_wp2_with fail; go_ret; have hs := own_snoc ho2.out hD.out; rw [ht0.out] at hs; exact ⟨rfl, _, _, w2, G6.out, hs, hg2.out, rfl⟩)

theorem own_slice {w : World} {B : Nat} {v : Value} {D : List Nd} (h : OwnN w B v D) : ∃ a cap, v = .slice a D.length cap := by
  rcases h.2 with ⟨rfl, h0⟩ | ⟨g, cap, cur, rfl, _⟩
  · exact ⟨none, 0, by rw [h0]⟩
  · exact ⟨_, cap, rfl⟩
theorem own_kind {w : World} {B : Nat} {v : Value} {D : List Nd} (h : OwnN w B v D) {k : Nat} (hk : v.ownBlock = some k) : ∃ cs, w.heap[k]? = some (.cells cs 32 (0, 0)) := by
  rcases h.2 with ⟨rfl, h0⟩ | ⟨g, cap, cur, rfl, _, hg, _⟩
  · simp [Value.ownBlock] at hk
  · simp [Value.ownBlock] at hk; subst hk; exact ⟨cur, hg⟩

theorem add_any {w : World} {b tb to tc : Nat} {T : List Tok} {at_ : Nat} {d : Int} {v : Value} {D : List Nd} (h : Rd w b tb to tc T at_ d v D) (kd ln cl fr : Nat) (nm : Int) (X : ByteArray) (k : Nat) (l c s m : Int) (Y : ByteArray) (z : Nat) (hz : D.length = fr + z) (hD : D.length ≤ 600000) :
    Calls Try.prog 19 #[pR b, sV kd ln cl nm X fr, nV k l c s m Y] w fun e w' => e = .returned (.bool true) ∧ (∃ v', Rd w' b tb to tc T at_ d v' (D ++ [⟨k, ln, cl, z, m, Y⟩])) ∧ Fr b w w' := by
  obtain ⟨a, cap, rfl⟩ := own_slice h.own
  refine (add_core (X := X) (kd := kd) (ln := ln) (cl := cl) (nm := nm) (k := k) (l := l) (c := c) (s := s) (m := m) (Y := Y) h.lt h.c3 h.fz z (by omega) hD (Lib.hid rfl) (Lib.hid h.own)).mono ?_
  rintro e w' ⟨rfl, v', V, W, hV, ho, hg, rfl⟩
  have hbl := h.lt
  have hnb : ∀ k, k ≤ b → some k ≠ (Value.slice a D.length cap).ownBlock := fun k hk e => by have := (World.ownsRow.lt h.own k e.symm).1; omega
  have hW : ∀ k, k < w.heap.size → some k ≠ (Value.slice a D.length cap).ownBlock → W.heap[k]? = w.heap[k]? := fun k hk hn => (hg.block k (Nat.lt_of_lt_of_le hk hV.size) hn).trans (hV.block k hk)
  have hWb := hW b hbl (hnb b (Nat.le_refl _))
  have cc : ∀ o, W.cell? ⟨b, o, none⟩ = w.cell? ⟨b, o, none⟩ := fun o => World.cell?_of_block (w := w) hWb
  have cf : ∀ o, W.frozen? ⟨b, o, none⟩ = false := fun o => (World.frozen?_of_block (w := w) hWb).trans (h.fz o)
  obtain ⟨x4, h4⟩ := h.c4
  obtain ⟨x5, h5⟩ := h.c5
  obtain ⟨x6, h6⟩ := h.c6
  have d0 := (cc 0).trans h.c0
  have d1 := (cc 1).trans h.c1
  have d2 := (cc 2).trans h.c2
  have d3 := (cc 3).trans h.c3
  have d4 := (cc 4).trans h4
  have d5 := (cc 5).trans h5
  have d6 := (cc 6).trans h6
  have htl := h.tl
  refine ⟨rfl, ⟨v', by simp [go_sem, d0], by simp [go_sem, d1], by simp [go_sem, d2], by simp [go_sem, d3], ⟨x4, by simp [go_sem, d4]⟩, ⟨x5, by simp [go_sem, d5]⟩, ⟨x6, by simp [go_sem, d6]⟩, fun o => by simp [go_sem, cf], ?_, h.tl, h.tn, ownsRow_setCell_below ho (by simp) _⟩, ?_⟩
  · intro i t ht
    refine (h.tok i t ht).of ?_
    rw [Below.heap_setCell _ _ _ _ (by simp; omega)]
    exact hW tb (by omega) (hnb tb (by omega))
  · refine ⟨hg.os.trans hV.os, hg.tape.trans hV.tape, hg.output.trans hV.output, by simpa using Nat.le_trans hV.size hg.size, fun i hi => ?_, fun i cs e fz h1 h2 h3 => ?_⟩
    · rw [Below.heap_setCell _ _ _ _ (by simp; omega)]
      exact hW i (by omega) (hnb i (by omega))
    · rw [Below.heap_setCell _ _ _ _ (by simpa using h2), ← h1]
      refine hW i (lt_of_heap h1) fun e2 => ?_
      obtain ⟨cs', h4⟩ := own_kind h.own e2.symm
      rw [h1] at h4
      cases h4
      exact h3 rfl

end Go.Proofs.Ytbknflaooemigaa
