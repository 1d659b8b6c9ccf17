/-
 The document's reader by value: its small functions (now, bad, is, fail, must, opens, shuts, word) answer as said. Conditions: its tokens lie in memory, the next one is there.
-/
import Derived.Test.YtbknflaooemigaaGreatRd1
namespace Go.Proofs.YtbknflaooemigaaGreat
open Go.RowKit
set_option linter.unusedVariables false

/-- The document's reader, but for its tokens. -/
structure S where
 I : Nat
 d : Int
 c : Int
 l : Int
 k : Int

abbrev pQ (tb to n tc : Nat) (I : Nat) (d c l k : Int) : Value := .agg #[.slice (some ⟨tb, to, none⟩) n tc, .int .i64 I, .int .i64 d, .int .i64 c, .int .i64 l, .int .i64 k]
abbrev pV (tb to n tc : Nat) (s : S) : Value := pQ tb to n tc s.I s.d s.c s.l s.k

/-- Tokens that lie in memory. -/
structure En (w : World) (tb to : Nat) (T : List Tok) : Prop where
 tok : ∀ i t, T[i]? = some t → TAt w tb (to + i * 5) t
 tn : T.length ≤ 70000
 tl : tb < w.heap.size

theorem En.carry {w w' : World} {tb to : Nat} {T : List Tok} (h : En w tb to T) (hb : Below w.heap.size w w') : En w' tb to T :=
 ⟨fun i t ht => (h.tok i t ht).of (hb.block _ h.tl), h.tn, Nat.lt_of_lt_of_le h.tl hb.size⟩

def nowS (T : List Tok) (s : S) : Tok := hd (T.drop s.I)
theorem now_at {T : List Tok} {i : Nat} (h : i < T.length) : T[i]? = some (hd (T.drop i)) := by
 rw [List.drop_eq_getElem_cons h]; simp [hd, h]

abbrev tQ (kd ln cl : Nat) (nm : Int) (X : ByteArray) : Value := .agg #[.int .u8 kd, .int .i64 ln, .int .i64 cl, .int .i64 nm, .string X]

/-- A reader in a box of its own. -/
structure Bx (w : World) (b : Nat) (sl : Value) (I d c l k : Int) : Prop where
 c0 : w.cell? ⟨b, 0, none⟩ = some sl
 c1 : w.cell? ⟨b, 1, none⟩ = some (.int .i64 I)
 c2 : w.cell? ⟨b, 2, none⟩ = some (.int .i64 d)
 c3 : w.cell? ⟨b, 3, none⟩ = some (.int .i64 c)
 c4 : w.cell? ⟨b, 4, none⟩ = some (.int .i64 l)
 c5 : w.cell? ⟨b, 5, none⟩ = some (.int .i64 k)
 fz : ∀ o, w.frozen? ⟨b, o, none⟩ = false
theorem Bx.made (w : World) (sl : Value) (I d c l k : Int) : Bx (w.alloc (.cells #[sl, .int .i64 I, .int .i64 d, .int .i64 c, .int .i64 l, .int .i64 k] 43)) w.heap.size sl I d c l k :=
 ⟨by simp [go_sem], by simp [go_sem], by simp [go_sem], by simp [go_sem], by simp [go_sem], by simp [go_sem], fun o => by simp [go_sem]⟩
theorem Bx.carry {w w' : World} {b : Nat} {sl : Value} {I d c l k : Int} (h : Bx w b sl I d c l k) (hb : Below w.heap.size w w') : Bx w' b sl I d c l k :=
 ⟨cell_carry hb h.c0, cell_carry hb h.c1, cell_carry hb h.c2, cell_carry hb h.c3, cell_carry hb h.c4, cell_carry hb h.c5, fun o => froz_carry hb h.c0 (h.fz o)⟩
theorem Bx.lt {w : World} {b : Nat} {sl : Value} {I d c l k : Int} (h : Bx w b sl I d c l k) : b < w.heap.size := block_lt_of_cell h.c0

/-- A token in a box of its own. -/
structure Tx (w : World) (b : Nat) (kd : Nat) (ln cl nm : Int) (X : ByteArray) : Prop where
 c0 : w.cell? ⟨b, 0, none⟩ = some (.int .u8 kd)
 c1 : w.cell? ⟨b, 1, none⟩ = some (.int .i64 ln)
 c2 : w.cell? ⟨b, 2, none⟩ = some (.int .i64 cl)
 c3 : w.cell? ⟨b, 3, none⟩ = some (.int .i64 nm)
 c4 : w.cell? ⟨b, 4, none⟩ = some (.string X)
 fz : ∀ o, w.frozen? ⟨b, o, none⟩ = false
theorem Tx.made (w : World) (kd : Nat) (ln cl nm : Int) (X : ByteArray) : Tx (w.alloc (.cells #[.int .u8 kd, .int .i64 ln, .int .i64 cl, .int .i64 nm, .string X] 38)) w.heap.size kd ln cl nm X :=
 ⟨by simp [go_sem], by simp [go_sem], by simp [go_sem], by simp [go_sem], by simp [go_sem], fun o => by simp [go_sem]⟩
theorem Tx.carry {w w' : World} {b kd : Nat} {ln cl nm : Int} {X : ByteArray} (h : Tx w b kd ln cl nm X) (hb : Below w.heap.size w w') : Tx w' b kd ln cl nm X :=
 ⟨cell_carry hb h.c0, cell_carry hb h.c1, cell_carry hb h.c2, cell_carry hb h.c3, cell_carry hb h.c4, fun o => froz_carry hb h.c0 (h.fz o)⟩
theorem Tx.lt {w : World} {b kd : Nat} {ln cl nm : Int} {X : ByteArray} (h : Tx w b kd ln cl nm X) : b < w.heap.size := block_lt_of_cell h.c0

set_option maxHeartbeats 1000000 in
theorem pnow_q {w : World} {tb to tc n : Nat} {T : List Tok} (h : En w tb to T) (hn : T.length = n) {I : Nat} (hI : I < n) {kd ln cl : Nat} {nm : Int} {tx : List UInt8} (ht : hd (T.drop I) = ⟨kd, ln, cl, nm, tx⟩) (d c l k : Int) :
  Calls Tryz.prog 29 #[pQ tb to n tc I d c l k] w fun e w' => e = .returned (tQ kd ln cl nm (bs tx)) ∧ Below w.heap.size w w' := by
 obtain ⟨t0, t1, t2, t3, t4⟩ := h.tok _ _ (now_at (hn ▸ hI))
 have htn := h.tn
 have htl := h.tl
 rw [hn] at htn
 rw [ht] at t0 t1 t2 t3 t4
 clear h ht hn
 go_enter Tryz.func29, Tryz.ntmps29
 go_wp2
 refine bodyPost_ret (v := tQ kd ln cl nm (bs tx)) (by simp [results, Tryz.results29, go_sem]) rfl ⟨rfl, by go_grown⟩

set_option maxHeartbeats 1000000 in
theorem pbad_q (w : World) (tb to tc n I : Nat) (d c l k : Int) (q : Bool) (hq : (c != 0) = q) :
  Calls Tryz.prog 34 #[pQ tb to n tc I d c l k] w fun e w' => e = .returned (.bool q) ∧ Below w.heap.size w w' := by
 go_enter Tryz.func34, Tryz.ntmps34
 go_wp2
 go_ret
 exact ⟨rfl, by go_grown⟩

set_option maxHeartbeats 1000000 in
theorem pis_core {w : World} {tb to tc n I : Nat} {d c l k : Int} {kd ln cl : Nat} {nm : Int} {X s : ByteArray}
  (HN : Hid (∀ w', Below w.heap.size w w' → Calls Tryz.prog 29 #[pQ tb to n tc I d c l k] w' fun e w'' => e = .returned (tQ kd ln cl nm X) ∧ Below w'.heap.size w' w''))
  (q : Bool) (hq : Hid ((decide (c = 0) && decide ((kd = 6 ∨ kd = 7) ∧ X.toList = s.toList)) = q)) :
  Calls Tryz.prog 28 #[pQ tb to n tc I d c l k, .string s] w fun e w' => e = .returned (.bool q) ∧ Below w.heap.size w w' := by
 by_cases hc : c = 0
 ·have HB := Lib.hid (fun w => pbad_q w tb to tc n I d c l k false (by rw [hc]; rfl))
  by_cases k6 : kd = 6
  ·have e6 : ((kd : Int) == 6) = true := by rw [k6]; rfl
   by_cases hx : X.toList = s.toList
   ·obtain rfl : q = true := by rw [← hq.out]; simp [hc, k6, hx]
    have ex : (X.toList == s.toList) = true := by rw [hx]; simp
    clear hc k6 hx
    clear hq
    go_enter Tryz.func28, Tryz.ntmps28
    go_wp2_with fail
    refine (HN.out _ (below_alloc _ _)).mono ?_
    rintro e w1 ⟨rfl, hb⟩
    have hz := hb.size
    have hz' : w.heap.size < w1.heap.size := by simp at hz; omega
    obtain ⟨p0, p1, p2, p3, p4, p5, -⟩ := (Bx.made w (.slice (some ⟨tb, to, none⟩) n tc) I d c l k).carry hb
    have hb1 : Below w.heap.size w w1 := below_step (below_alloc _ _) hb
    clear hb hz
    go_wp2_with fail
    refine (HB.out _).mono ?_
    rintro e w2 ⟨rfl, hb⟩
    have hz := hb.size
    obtain ⟨t0, -, -, -, t4, -⟩ := (Tx.made w1 kd ln cl nm X).carry hb
    go_wp2_with fail
    go_ret
    exact ⟨rfl, below_step (below_step hb1 (below_alloc _ _)) hb⟩
   ·obtain rfl : q = false := by rw [← hq.out]; simp [hx]
    have ex : (X.toList == s.toList) = false := by simpa using hx
    clear hc k6 hx
    clear hq
    go_enter Tryz.func28, Tryz.ntmps28
    go_wp2_with fail
    refine (HN.out _ (below_alloc _ _)).mono ?_
    rintro e w1 ⟨rfl, hb⟩
    have hz := hb.size
    have hz' : w.heap.size < w1.heap.size := by simp at hz; omega
    obtain ⟨p0, p1, p2, p3, p4, p5, -⟩ := (Bx.made w (.slice (some ⟨tb, to, none⟩) n tc) I d c l k).carry hb
    have hb1 : Below w.heap.size w w1 := below_step (below_alloc _ _) hb
    clear hb hz
    go_wp2_with fail
    refine (HB.out _).mono ?_
    rintro e w2 ⟨rfl, hb⟩
    have hz := hb.size
    obtain ⟨t0, -, -, -, t4, -⟩ := (Tx.made w1 kd ln cl nm X).carry hb
    go_wp2_with fail
    go_ret
    exact ⟨rfl, below_step (below_step hb1 (below_alloc _ _)) hb⟩
  ·have e6 : ((kd : Int) == 6) = false := by rw [beq_eq_false_iff_ne]; omega
   by_cases k7 : kd = 7
   ·have e7 : ((kd : Int) == 7) = true := by rw [k7]; rfl
    by_cases hx : X.toList = s.toList
    ·obtain rfl : q = true := by rw [← hq.out]; simp [hc, k7, hx]
     have ex : (X.toList == s.toList) = true := by rw [hx]; simp
     clear hc k6 k7 hx
     clear hq
     go_enter Tryz.func28, Tryz.ntmps28
     go_wp2_with fail
     refine (HN.out _ (below_alloc _ _)).mono ?_
     rintro e w1 ⟨rfl, hb⟩
     have hz := hb.size
     have hz' : w.heap.size < w1.heap.size := by simp at hz; omega
     obtain ⟨p0, p1, p2, p3, p4, p5, -⟩ := (Bx.made w (.slice (some ⟨tb, to, none⟩) n tc) I d c l k).carry hb
     have hb1 : Below w.heap.size w w1 := below_step (below_alloc _ _) hb
     clear hb hz
     go_wp2_with fail
     refine (HB.out _).mono ?_
     rintro e w2 ⟨rfl, hb⟩
     have hz := hb.size
     obtain ⟨t0, -, -, -, t4, -⟩ := (Tx.made w1 kd ln cl nm X).carry hb
     go_wp2_with fail
     go_ret
     exact ⟨rfl, below_step (below_step hb1 (below_alloc _ _)) hb⟩
    ·obtain rfl : q = false := by rw [← hq.out]; simp [hx]
     have ex : (X.toList == s.toList) = false := by simpa using hx
     clear hc k6 k7 hx
     clear hq
     go_enter Tryz.func28, Tryz.ntmps28
     go_wp2_with fail
     refine (HN.out _ (below_alloc _ _)).mono ?_
     rintro e w1 ⟨rfl, hb⟩
     have hz := hb.size
     have hz' : w.heap.size < w1.heap.size := by simp at hz; omega
     obtain ⟨p0, p1, p2, p3, p4, p5, -⟩ := (Bx.made w (.slice (some ⟨tb, to, none⟩) n tc) I d c l k).carry hb
     have hb1 : Below w.heap.size w w1 := below_step (below_alloc _ _) hb
     clear hb hz
     go_wp2_with fail
     refine (HB.out _).mono ?_
     rintro e w2 ⟨rfl, hb⟩
     have hz := hb.size
     obtain ⟨t0, -, -, -, t4, -⟩ := (Tx.made w1 kd ln cl nm X).carry hb
     go_wp2_with fail
     go_ret
     exact ⟨rfl, below_step (below_step hb1 (below_alloc _ _)) hb⟩
   ·have e7 : ((kd : Int) == 7) = false := by rw [beq_eq_false_iff_ne]; omega
    obtain rfl : q = false := by rw [← hq.out]; simp [k6, k7]
    clear hc k6 k7
    clear hq
    go_enter Tryz.func28, Tryz.ntmps28
    go_wp2_with fail
    refine (HN.out _ (below_alloc _ _)).mono ?_
    rintro e w1 ⟨rfl, hb⟩
    have hz := hb.size
    have hz' : w.heap.size < w1.heap.size := by simp at hz; omega
    obtain ⟨p0, p1, p2, p3, p4, p5, -⟩ := (Bx.made w (.slice (some ⟨tb, to, none⟩) n tc) I d c l k).carry hb
    have hb1 : Below w.heap.size w w1 := below_step (below_alloc _ _) hb
    clear hb hz
    go_wp2_with fail
    refine (HB.out _).mono ?_
    rintro e w2 ⟨rfl, hb⟩
    have hz := hb.size
    obtain ⟨t0, -, -, -, t4, -⟩ := (Tx.made w1 kd ln cl nm X).carry hb
    go_wp2_with fail
    go_ret
    exact ⟨rfl, below_step (below_step hb1 (below_alloc _ _)) hb⟩
 ·have HB := Lib.hid (fun w => pbad_q w tb to tc n I d c l k true (by simpa using hc))
  obtain rfl : q = false := by rw [← hq.out]; simp [hc]
  clear hc
  clear hq
  go_enter Tryz.func28, Tryz.ntmps28
  go_wp2_with fail
  refine (HN.out _ (below_alloc _ _)).mono ?_
  rintro e w1 ⟨rfl, hb⟩
  have hz := hb.size
  have hz' : w.heap.size < w1.heap.size := by simp at hz; omega
  obtain ⟨p0, p1, p2, p3, p4, p5, -⟩ := (Bx.made w (.slice (some ⟨tb, to, none⟩) n tc) I d c l k).carry hb
  have hb1 : Below w.heap.size w w1 := below_step (below_alloc _ _) hb
  clear hb hz
  go_wp2_with fail
  refine (HB.out _).mono ?_
  rintro e w2 ⟨rfl, hb⟩
  have hz := hb.size
  obtain ⟨t0, -, -, -, t4, -⟩ := (Tx.made w1 kd ln cl nm X).carry hb
  go_wp2_with fail
  go_ret
  exact ⟨rfl, below_step (below_step hb1 (below_alloc _ _)) hb⟩

end Go.Proofs.YtbknflaooemigaaGreat
