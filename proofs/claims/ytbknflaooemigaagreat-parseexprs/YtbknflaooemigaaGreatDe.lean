/-
 The document's rows of nodes: node and join answer as said, and signs. Conditions: rows lie in memory, of at most 400000 nodes.
-/
import Derived.Test.YtbknflaooemigaaGreatDd
namespace Go.Proofs.YtbknflaooemigaaGreat
open Go.RowKit Go.Sort
set_option linter.unusedVariables false

theorem Lies.oth {cs : List Value} {g b : Nat} {w w' : World} (h : Lies cs g w) (ho : Oth b w w') (hg : g ≠ b) : Lies cs g w' :=
 ⟨by rw [ho.size]; exact h.1, fun j u hj => by have := h.2 j u hj; rw [plain_add] at this ⊢; rw [ho.cell hg]; exact this⟩
theorem one_flat (l : List Nd) : ∀ u ∈ ndFlat l, u.oneCell' = true := by
 intro u hu
 obtain ⟨t, ht, hu⟩ := List.mem_flatMap.1 hu
 exact one_nd t u hu
/-- Whether a row is not nil. -/
def isRow (v : Value) : Prop := ∃ g n cap, v = .slice (some ⟨g, 0, none⟩) n cap
theorem own_nr {w : World} {B : Nat} {v : Value} {l : List Nd} (h : OwnN w B v l) (hv : isRow v) : ∃ g cap, v = .slice (some ⟨g, 0, none⟩) l.length cap ∧ Lies (ndFlat l) g w ∧ B ≤ g := by
 obtain ⟨g0, n0, cap0, rfl⟩ := hv
 rcases id h.2 with ⟨h1, h2⟩ | ⟨g, cap, cur, h1, h2, h3, h4, h5, h6, h7⟩
 ·cases h1
 ·rw [h1]
  refine ⟨g, cap, rfl, ⟨(Array.getElem?_eq_some_iff.1 h3).1, fun j u hj => ?_⟩, h2⟩
  rw [h1] at h
  exact World.ownsRow.cells h (g := g) rfl j u hj
theorem own_made (w : World) (news : Array Value) (l : List Nd) (h : news.toList = ndFlat l) (B : Nat) (hB : B ≤ w.heap.size) (hl : l.length ≤ 1000000) : OwnN (w.alloc (.cells news 32)) B (.slice (some ⟨w.heap.size, 0, none⟩) l.length l.length) l := by
 have hs : news.size = l.length * 6 := by rw [← Array.length_toList, h, ndFlat_len]
 exact ⟨ndFlat_len l, .inr ⟨w.heap.size, l.length, news, rfl, hB, by show (w.heap.push _)[w.heap.size]? = _; simp, Nat.le_refl _, by simp only [maxLen]; omega, hs, by rw [h]; exact List.take_of_length_le (by rw [ndFlat_len]; omega)⟩⟩

theorem wpList_appR {ops : Array Oper} {rest : List Oper} {o : Oper} {a : Act} {Q : Exit → Act → World → Prop} {w : World} (hgd : o.guard = none) (s x : Operand)
  (ho : o.op = .call { callee := .builtin .append, args := #[s, x], argTypes := #[23, 23] }) (B : Nat) (v : Value) (l m : List Nd) (g c n : Nat) (hn : m.length = n) (hs : a.eval s = v)
  (hx : a.eval x = .slice (some ⟨g, 0, none⟩) n c) (hm : Lies (ndFlat m) g w) (hown : OwnN w B v l) (hv : isRow v) (hB : B ≤ w.heap.size) (hl : l.length + m.length ≤ 1000000)
  (h : ∀ v' w', OwnN w' B v' (l ++ m) → isRow v' → w.grownBy w' v.ownBlock → wpList Tryz.prog ops Q rest (a.put o.dst v') w') : wpList Tryz.prog ops Q (o :: rest) a w := by
 subst hn
 obtain ⟨i0, hi0, hz0, hz1, hz2⟩ := info_parts Tryz.info32
 have hown' : w.ownsRow B 32 6 v l.length (ndFlat l) := hown
 refine wpList_append_own _ hgd s x 23 ho B 32 i0 _ 6 56 Tryz.underlying23 hi0 hz0 hz1 hz2 rfl (by decide) v l.length (ndFlat l) hs hown' ⟨g, 0, none⟩ m.length c (ndFlat m) hx (ndFlat_len m) hm.2 (one_flat m) ?_ ?_ ?_ ?_
 ·simp only [maxLen]; omega
 ·omega
 ·exact hB
 ·intro v' w' h1 h2 h3
  refine h v' w' ?_ ?_ h2
  ·unfold OwnN; rw [List.length_append, ndFlat_app]; exact h1
  ·obtain ⟨g0, n0, cap0, rfl⟩ := hv
   rcases h1.2 with ⟨h4, h5⟩ | ⟨g, cap, cur, h4, _⟩
   ·have := (h3.1 h4).1; cases this
   ·exact ⟨g, _, cap, h4⟩

/-- What a call answers that makes a row. -/
def RetR (w : World) (l : List Nd) (e : Ending) (w' : World) : Prop := ∃ g cap, e = .returned (.slice (some ⟨g, 0, none⟩) l.length cap) ∧ Lies (ndFlat l) g w' ∧ w.heap.size ≤ g ∧ Below w.heap.size w w'
/-- .. and a reader. -/
def RetP (w : World) (tb to n tc : Nat) (q : List Nd × S) (e : Ending) (w' : World) : Prop := ∃ g cap, e = .returned (.tuple #[.slice (some ⟨g, 0, none⟩) q.1.length cap, pV tb to n tc q.2]) ∧ Lies (ndFlat q.1) g w' ∧ w.heap.size ≤ g ∧ Below w.heap.size w w'

theorem grown_below {w0 w w' : World} {v : Value} {l : List Nd} {B : Nat} (h : w.grownBy w' v.ownBlock) (ho : OwnN w B v l) (hB : w0.heap.size ≤ B) (hb : Below w0.heap.size w0 w) : Below w0.heap.size w0 w' :=
 ⟨h.os.trans hb.os, h.tape.trans hb.tape, h.output.trans hb.output, Nat.le_trans hb.size h.size, fun k hk => (h.block k (Nat.lt_of_lt_of_le hk hb.size) (fun e => by
  have := (World.ownsRow.lt ho k e.symm).1; omega)).trans (hb.block k hk)⟩

theorem lies_grown {w w' : World} {v : Value} {l : List Nd} {B g : Nat} {cs : List Value} (h : Lies cs g w) (hg : w.grownBy w' v.ownBlock) (ho : OwnN w B v l) (hB : g < B) : Lies cs g w' :=
 ⟨Nat.lt_of_lt_of_le h.1 hg.size, fun j u hj => by
  have h1 := h.2 j u hj
  rw [plain_add] at h1 ⊢
  rw [World.cell?_of_block (hg.block g h.1 (fun e => by have := (World.ownsRow.lt ho g e.symm).1; omega))]
  exact h1⟩

set_option maxHeartbeats 1000000 in
theorem node_q {w : World} {kk kd ln cl : Nat} {nm num : Int} {X Y : ByteArray} {g cap n : Nat} {l : List Nd} (hn : l.length = n) (h : Hid (Lies (ndFlat l) g w)) (hl : n ≤ 400000) :
  Calls Tryz.prog 31 #[.int .u8 kk, tQ kd ln cl nm Y, .string X, .int .i64 num, .slice (some ⟨g, 0, none⟩) n cap] w (RetR w (⟨kk, ln, cl, n, num, X⟩ :: l)) := by
 have hL := h.out
 obtain ⟨t0, ht0⟩ : ∃ t0 : Nd, t0 = ⟨kk, ln, cl, n, num, X⟩ := ⟨_, rfl⟩
 obtain ⟨W, hW⟩ : ∃ W, W = (w.alloc (.cells #[.int .u8 kd, .int .i64 ln, .int .i64 cl, .int .i64 nm, .string Y] 38)).alloc (.cells #[.int .u8 kk, .int .i64 ln, .int .i64 cl, .int .i64 n, .int .i64 num, .string X] 32) := ⟨_, rfl⟩
 have hB : Hid (Below w.heap.size w W) := Lib.hid (by rw [hW]; go_grown)
 have hz : W.heap.size = w.heap.size + 1 + 1 := by rw [hW]; simp
 have HO : Hid (OwnN W w.heap.size (.slice (some ⟨w.heap.size + 1, 0, none⟩) 1 1) [t0]) := Lib.hid (by
  rw [hW, ht0]
  have := own_made (w.alloc (.cells #[.int .u8 kd, .int .i64 ln, .int .i64 cl, .int .i64 nm, .string Y] 38)) #[.int .u8 kk, .int .i64 ln, .int .i64 cl, .int .i64 n, .int .i64 num, .string X] [⟨kk, ln, cl, n, num, X⟩] (by simp [ndFlat, ndCells]) w.heap.size (by simp) (by simp)
  simpa using this)
 have HL : Hid (Lies (ndFlat l) g W) := Lib.hid (hL.carry hB.out)
 replace hn := Lib.hid hn
 clear hL h
 rw [← ht0]
 replace ht0 := Lib.hid ht0
 go_enter Tryz.func31, Tryz.ntmps31
 go_wp2_with (at_builtin; rw [← hW]; refine wpList_appR rfl _ _ rfl w.heap.size (.slice (some ⟨w.heap.size + 1, 0, none⟩) 1 1) [t0] l g cap n hn.out rfl rfl HL.out HO.out ⟨_, _, _, rfl⟩ (by omega) (by have := hn.out; simp only [List.length_cons, List.length_nil]; omega) ?_; intro v2 w2 ho2 hs2 hg2; replace ho2 := Lib.hid ho2; replace hs2 := Lib.hid hs2; replace hg2 := Lib.hid hg2)
 go_ret
 obtain ⟨g2, cap2, hv2, hl2, hb2⟩ := own_nr ho2.out hs2.out
 exact ⟨g2, cap2, congrArg Ending.returned hv2, hl2, hb2, grown_below hg2.out HO.out (Nat.le_refl _) hB.out⟩

set_option maxRecDepth 100000 in
set_option maxHeartbeats 1000000 in
theorem join_q {w : World} {g cap n g' cap' n' : Nat} {l m : List Nd} (hn : l.length = n) (hn' : m.length = n') (h : Hid (Lies (ndFlat l) g w)) (h' : Hid (Lies (ndFlat m) g' w)) (hl : n + n' ≤ 800000) : Calls Tryz.prog 32 #[.slice (some ⟨g, 0, none⟩) n cap, .slice (some ⟨g', 0, none⟩) n' cap'] w (RetR w (l ++ m)) := by
 have hL := h.out
 have hL' := h'.out
 obtain ⟨W, hW⟩ : ∃ W, W = w.alloc (.cells #[] 32) := ⟨_, rfl⟩
 have hB : Hid (Below w.heap.size w W) := Lib.hid (by rw [hW]; go_grown)
 have hz : W.heap.size = w.heap.size + 1 := by rw [hW]; simp
 have HO : Hid (OwnN W w.heap.size (.slice (some ⟨w.heap.size, 0, none⟩) 0 0) []) := Lib.hid (by
  rw [hW]
  exact own_made w #[] [] (by simp [ndFlat]) w.heap.size (by simp) (by simp))
 have HL : Hid (Lies (ndFlat l) g W) := Lib.hid (hL.carry hB.out)
 have hg : g < w.heap.size := hL.1
 have hg' : g' < w.heap.size := hL'.1
 have HL' : Hid (Lies (ndFlat m) g' W) := Lib.hid (hL'.carry hB.out)
 replace hn := Lib.hid hn
 replace hn' := Lib.hid hn'
 clear hL h hL' h'
 go_enter Tryz.func32, Tryz.ntmps32
 go_wp2_with (first | (at_builtin; rw [← hW]; refine wpList_appR rfl _ _ rfl w.heap.size (.slice (some ⟨w.heap.size, 0, none⟩) 0 0) [] l g cap n hn.out rfl rfl HL.out HO.out ⟨_, _, _, rfl⟩ (by omega) (by have := hn.out; simp only [List.length_nil]; omega) ?_; intro v2 w2 ho2 hs2 hg2; replace ho2 := Lib.hid ho2; replace hs2 := Lib.hid hs2; replace hg2 := Lib.hid hg2; have hz2 := hg2.out.size; replace HL' := Lib.hid (lies_grown HL'.out hg2.out HO.out hg'); replace hB := Lib.hid (grown_below hg2.out HO.out (Nat.le_refl _) hB.out); clear HL HO hW) | (at_builtin; refine wpList_appR rfl _ _ rfl w.heap.size v2 ([] ++ l) m g' cap' n' hn'.out rfl rfl HL'.out ho2.out hs2.out (by omega) (by have := hn.out; have := hn'.out; simp only [List.nil_append]; omega) ?_; intro v3 w3 ho3 hs3 hg3; replace ho3 := Lib.hid ho3; replace hs3 := Lib.hid hs3; replace hg3 := Lib.hid hg3))
 go_ret
 obtain ⟨g2, cap2, hv2, hl2, hb2⟩ := own_nr ho3.out hs3.out
 exact ⟨g2, cap2, congrArg Ending.returned hv2, hl2, hb2, grown_below hg3.out ho2.out (Nat.le_refl _) hB.out⟩
end Go.Proofs.YtbknflaooemigaaGreat
