/-
 The document's reader by value: word answers as said. Conditions: its tokens lie in memory, the next one is there.
-/
import Derived.Test.YtbknflaooemigaaGreatDc
namespace Go.Proofs.YtbknflaooemigaaGreat
open Go.RowKit Go.Sort
set_option linter.unusedVariables false

/-- A token is laid into a box. -/
def PutT (w : World) (b : Nat) (kd : Nat) (ln cl nm : Int) (X : ByteArray) : World :=
 ((((w.setCell ⟨b, 0, none⟩ (.int .u8 kd)).setCell ⟨b, 1, none⟩ (.int .i64 ln)).setCell ⟨b, 2, none⟩ (.int .i64 cl)).setCell ⟨b, 3, none⟩ (.int .i64 nm)).setCell ⟨b, 4, none⟩ (.string X)
theorem putT_eq (w : World) (b : Nat) (kd : Nat) (ln cl nm : Int) (X : ByteArray) :
 ((((w.setCell ⟨b, 0, none⟩ (.int .u8 kd)).setCell ⟨b, 1, none⟩ (.int .i64 ln)).setCell ⟨b, 2, none⟩ (.int .i64 cl)).setCell ⟨b, 3, none⟩ (.int .i64 nm)).setCell ⟨b, 4, none⟩ (.string X) = PutT w b kd ln cl nm X := rfl
theorem tx_set {w : World} {b kd : Nat} {ln cl nm : Int} {X : ByteArray} (h : Tx w b kd ln cl nm X) (z : Int) : (∀ v : Nat, Tx (w.setCell ⟨b, 0, none⟩ (.int .u8 v)) b v ln cl nm X) ∧ Tx (w.setCell ⟨b, 1, none⟩ (.int .i64 z)) b kd z cl nm X ∧ Tx (w.setCell ⟨b, 2, none⟩ (.int .i64 z)) b kd ln z nm X ∧ Tx (w.setCell ⟨b, 3, none⟩ (.int .i64 z)) b kd ln cl z X ∧ ∀ Y, Tx (w.setCell ⟨b, 4, none⟩ (.string Y)) b kd ln cl nm Y := by
 obtain ⟨h0, h1, h2, h3, h4, hf⟩ := h
 refine ⟨fun v => ⟨?_, ?_, ?_, ?_, ?_, ?_⟩, ⟨?_, ?_, ?_, ?_, ?_, ?_⟩, ⟨?_, ?_, ?_, ?_, ?_, ?_⟩, ⟨?_, ?_, ?_, ?_, ?_, ?_⟩, fun Y => ⟨?_, ?_, ?_, ?_, ?_, ?_⟩⟩ <;> simp [go_sem, h0, h1, h2, h3, h4, hf]
theorem putT_gen {G : World → Prop} {w : World} {b kd0 : Nat} {ln0 cl0 nm0 : Int} {X0 : ByteArray} {kd : Nat} {ln cl nm : Int} {X : ByteArray} (h : Tx w b kd0 ln0 cl0 nm0 X0) (hG : ∀ W, Tx W b kd ln cl nm X → Oth b w W → G W) : G (PutT w b kd ln cl nm X) := by
 refine hG _ ?_ ?_
 ·exact (tx_set (tx_set (tx_set (tx_set ((tx_set h 0).1 kd) ln).2.1 cl).2.2.1 nm).2.2.2.1 0).2.2.2.2 X
 ·exact ((((Oth.set _ _ _ _).trans (Oth.set _ _ _ _)).trans (Oth.set _ _ _ _)).trans (Oth.set _ _ _ _)).trans (Oth.set _ _ _ _)

theorem three_made (w : World) (sl : Value) (I d c l k : Int) : Bx (((w.alloc (.cells #[sl, .int .i64 I, .int .i64 d, .int .i64 c, .int .i64 l, .int .i64 k] 43)).alloc (.cells #[.int .u8 0, .int .i64 0, .int .i64 0, .int .i64 0, .string { data := #[] }] 38)).alloc (.cells #[.slice none 0 0, .int .i64 0, .int .i64 0, .int .i64 0, .int .i64 0, .int .i64 0] 43)) w.heap.size sl I d c l k ∧
  Tx (((w.alloc (.cells #[sl, .int .i64 I, .int .i64 d, .int .i64 c, .int .i64 l, .int .i64 k] 43)).alloc (.cells #[.int .u8 0, .int .i64 0, .int .i64 0, .int .i64 0, .string { data := #[] }] 38)).alloc (.cells #[.slice none 0 0, .int .i64 0, .int .i64 0, .int .i64 0, .int .i64 0, .int .i64 0] 43)) (w.heap.size + 1) 0 0 0 0 { data := #[] } ∧ Bx (((w.alloc (.cells #[sl, .int .i64 I, .int .i64 d, .int .i64 c, .int .i64 l, .int .i64 k] 43)).alloc (.cells #[.int .u8 0, .int .i64 0, .int .i64 0, .int .i64 0, .string { data := #[] }] 38)).alloc (.cells #[.slice none 0 0, .int .i64 0, .int .i64 0, .int .i64 0, .int .i64 0, .int .i64 0] 43)) (w.heap.size + 1 + 1) (.slice none 0 0) 0 0 0 0 0 ∧ Below w.heap.size w (((w.alloc (.cells #[sl, .int .i64 I, .int .i64 d, .int .i64 c, .int .i64 l, .int .i64 k] 43)).alloc (.cells #[.int .u8 0, .int .i64 0, .int .i64 0, .int .i64 0, .string { data := #[] }] 38)).alloc (.cells #[.slice none 0 0, .int .i64 0, .int .i64 0, .int .i64 0, .int .i64 0, .int .i64 0] 43)) := by
 refine ⟨((Bx.made w sl I d c l k).carry (below_alloc _ _)).carry (below_alloc _ _), ?_, ?_, by go_grown⟩
 ·have := (Tx.made (w.alloc (.cells #[sl, .int .i64 I, .int .i64 d, .int .i64 c, .int .i64 l, .int .i64 k] 43)) 0 0 0 0 { data := #[] }).carry (below_alloc _ (.cells #[.slice none 0 0, .int .i64 0, .int .i64 0, .int .i64 0, .int .i64 0, .int .i64 0] 43))
  simpa using this
 ·have := Bx.made ((w.alloc (.cells #[sl, .int .i64 I, .int .i64 d, .int .i64 c, .int .i64 l, .int .i64 k] 43)).alloc (.cells #[.int .u8 0, .int .i64 0, .int .i64 0, .int .i64 0, .string { data := #[] }] 38)) (.slice none 0 0) 0 0 0 0 0
  simpa using this

set_option maxHeartbeats 1000000 in
theorem pword_no {w : World} {tb to tc n I J : Nat} {d c l k d' c' l' k' : Int} {kd ln cl : Nat} {nm : Int} {X : ByteArray} (q : Nat) (qb : Bool) (hq : qb = true ∨ qb = false ∧ ((kd : Int) != (q : Int)) = true)
  (HB : Hid (∀ w, Calls Tryz.prog 34 #[pQ tb to n tc I d c l k] w fun e w' => e = .returned (.bool qb) ∧ Below w.heap.size w w'))
  (HN : Hid (∀ w', Below w.heap.size w w' → Calls Tryz.prog 29 #[pQ tb to n tc I d c l k] w' fun e w'' => e = .returned (tQ kd ln cl nm X) ∧ Below w'.heap.size w' w'')) (HF : Hid (∀ w', Below w.heap.size w w' → Calls Tryz.prog 33 #[pQ tb to n tc I d c l k, .int .i64 5] w' fun e w'' => e = .returned (pQ tb to n tc J d' c' l' k') ∧ Below w'.heap.size w' w'')) :
  Calls Tryz.prog 72 #[pQ tb to n tc I d c l k, .int .u8 q] w (Ret w (.tuple #[tQ kd ln cl nm X, pQ tb to n tc J d' c' l' k'])) := by
 rcases hq with rfl | ⟨rfl, hq⟩
 ·go_enter Tryz.func72, Tryz.ntmps72
  go_wp2_with fail
  refine (HN.out _ (three_made w (.slice (some ⟨tb, to, none⟩) n tc) I d c l k).2.2.2).mono ?_
  rintro e w1 ⟨rfl, hb⟩
  have hb1 : Below w.heap.size w w1 := below_step (three_made w (.slice (some ⟨tb, to, none⟩) n tc) I d c l k).2.2.2 hb
  have hP := (three_made w (.slice (some ⟨tb, to, none⟩) n tc) I d c l k).1.carry hb
  have hA := (three_made w (.slice (some ⟨tb, to, none⟩) n tc) I d c l k).2.1.carry hb
  have hR := (three_made w (.slice (some ⟨tb, to, none⟩) n tc) I d c l k).2.2.1.carry hb
  have hz : w.heap.size + 1 + 1 < w1.heap.size := hR.lt
  have hz' : w.heap.size < w1.heap.size := by omega
  clear hb
  obtain ⟨p0, p1, p2, p3, p4, p5, pf⟩ := id hP
  go_wp2_with fail
  refine (HB.out _).mono ?_
  rintro e w2 ⟨rfl, hb⟩
  have hT := (Tx.made w1 kd ln cl nm X).carry hb
  replace hP := (hP.carry (below_alloc _ _)).carry hb
  replace hA := (hA.carry (below_alloc _ _)).carry hb
  replace hR := (hR.carry (below_alloc _ _)).carry hb
  have hbb := below_step (below_step hb1 (below_alloc _ _)) hb
  have hz2 := hT.lt
  clear hb hb1 p0 p1 p2 p3 p4 p5 pf
  obtain ⟨p0, p1, p2, p3, p4, p5, pf⟩ := id hP
  obtain ⟨t0, t1, t2, t3, t4, tf⟩ := id hT
  go_wp2_with fail
  have g0 := fun D os => cell_regrown t0 D os
  have g1 := fun D os => cell_regrown t1 D os
  have g2 := fun D os => cell_regrown t2 D os
  have g3 := fun D os => cell_regrown t3 D os
  have g4 := fun D os => cell_regrown t4 D os
  have k0 := fun D os => cell_regrown p0 D os
  have k1 := fun D os => cell_regrown p1 D os
  have k2 := fun D os => cell_regrown p2 D os
  have k3 := fun D os => cell_regrown p3 D os
  have k4 := fun D os => cell_regrown p4 D os
  have k5 := fun D os => cell_regrown p5 D os
  have c0 : ∀ D os, Calls Tryz.prog 33 #[pQ tb to n tc I d c l k, .int .i64 5] (grow (redrawn w2 D) os) fun e w'' => e = .returned (pQ tb to n tc J d' c' l' k') ∧ ∃ p : Regrown, w'' = grow (redrawn w2 p.d) p.os := fun D os => Calls.regrown_of (HF.out _ (below_step hbb (below_regrown _ _ _)))
  clear p0 p1 p2 p3 p4 p5 pf t0 t1 t2 t3 t4 tf
  refine region_tail_below 3 (by kernel_rfl) (by kernel_rfl) ?_
  simp only [List.take_succ_cons, List.take_zero, List.drop_succ_cons, List.drop_zero]
  repeat (quiet_step (first | with_reducible exact c0 _ _))
  refine wpQuiet_nil ?_
  rintro _ ⟨⟨dq, osq⟩, rfl⟩
  have hb := below_regrown w2 dq osq
  generalize grow (redrawn w2 dq) osq = w3 at *
  replace hA := hA.carry hb
  replace hR := hR.carry hb
  replace hbb := below_step hbb hb
  clear g0 g1 g2 g3 g4 k0 k1 k2 k3 k4 k5 c0 hP hT hb
  obtain ⟨a0, a1, a2, a3, a4, af⟩ := id hA
  obtain ⟨r0, r1, r2, r3, r4, r5, rf⟩ := id hR
  go_wp2_with (first | (rw [putT_eq]; refine putT_gen hA ?_; clear hA; intro W hA hO; replace hbb := hO.below hbb (by omega); replace hR := hR.oth hO (by omega); clear hO; obtain ⟨a0, a1, a2, a3, a4, af⟩ := id hA; obtain ⟨r0, r1, r2, r3, r4, r5, rf⟩ := id hR) | (rw [put_eq]; refine put_gen hR ?_; clear hR; intro W hR hO; replace hbb := hO.below hbb (by omega); replace hA := hA.oth hO (by omega); clear hO; obtain ⟨a0, a1, a2, a3, a4, af⟩ := id hA; obtain ⟨r0, r1, r2, r3, r4, r5, rf⟩ := id hR))
  refine bodyPost_ret (v := .tuple #[tQ kd ln cl nm X, pQ tb to n tc J d' c' l' k']) (by simp [results, Tryz.results72, go_sem, a0, a1, a2, a3, a4, r0, r1, r2, r3, r4, r5]) rfl ⟨rfl, ?_⟩
  exact hbb
 ·go_enter Tryz.func72, Tryz.ntmps72
  go_wp2_with fail
  refine (HN.out _ (three_made w (.slice (some ⟨tb, to, none⟩) n tc) I d c l k).2.2.2).mono ?_
  rintro e w1 ⟨rfl, hb⟩
  have hb1 : Below w.heap.size w w1 := below_step (three_made w (.slice (some ⟨tb, to, none⟩) n tc) I d c l k).2.2.2 hb
  have hP := (three_made w (.slice (some ⟨tb, to, none⟩) n tc) I d c l k).1.carry hb
  have hA := (three_made w (.slice (some ⟨tb, to, none⟩) n tc) I d c l k).2.1.carry hb
  have hR := (three_made w (.slice (some ⟨tb, to, none⟩) n tc) I d c l k).2.2.1.carry hb
  have hz : w.heap.size + 1 + 1 < w1.heap.size := hR.lt
  have hz' : w.heap.size < w1.heap.size := by omega
  clear hb
  obtain ⟨p0, p1, p2, p3, p4, p5, pf⟩ := id hP
  go_wp2_with fail
  refine (HB.out _).mono ?_
  rintro e w2 ⟨rfl, hb⟩
  have hT := (Tx.made w1 kd ln cl nm X).carry hb
  replace hP := (hP.carry (below_alloc _ _)).carry hb
  replace hA := (hA.carry (below_alloc _ _)).carry hb
  replace hR := (hR.carry (below_alloc _ _)).carry hb
  have hbb := below_step (below_step hb1 (below_alloc _ _)) hb
  have hz2 := hT.lt
  clear hb hb1 p0 p1 p2 p3 p4 p5 pf
  obtain ⟨p0, p1, p2, p3, p4, p5, pf⟩ := id hP
  obtain ⟨t0, t1, t2, t3, t4, tf⟩ := id hT
  go_wp2_with fail
  have g0 := fun D os => cell_regrown t0 D os
  have g1 := fun D os => cell_regrown t1 D os
  have g2 := fun D os => cell_regrown t2 D os
  have g3 := fun D os => cell_regrown t3 D os
  have g4 := fun D os => cell_regrown t4 D os
  have k0 := fun D os => cell_regrown p0 D os
  have k1 := fun D os => cell_regrown p1 D os
  have k2 := fun D os => cell_regrown p2 D os
  have k3 := fun D os => cell_regrown p3 D os
  have k4 := fun D os => cell_regrown p4 D os
  have k5 := fun D os => cell_regrown p5 D os
  have c0 : ∀ D os, Calls Tryz.prog 33 #[pQ tb to n tc I d c l k, .int .i64 5] (grow (redrawn w2 D) os) fun e w'' => e = .returned (pQ tb to n tc J d' c' l' k') ∧ ∃ p : Regrown, w'' = grow (redrawn w2 p.d) p.os := fun D os => Calls.regrown_of (HF.out _ (below_step hbb (below_regrown _ _ _)))
  clear p0 p1 p2 p3 p4 p5 pf t0 t1 t2 t3 t4 tf
  refine region_tail_below 3 (by kernel_rfl) (by kernel_rfl) ?_
  simp only [List.take_succ_cons, List.take_zero, List.drop_succ_cons, List.drop_zero]
  repeat (quiet_step (first | with_reducible exact c0 _ _))
  refine wpQuiet_nil ?_
  rintro _ ⟨⟨dq, osq⟩, rfl⟩
  have hb := below_regrown w2 dq osq
  generalize grow (redrawn w2 dq) osq = w3 at *
  replace hA := hA.carry hb
  replace hR := hR.carry hb
  replace hbb := below_step hbb hb
  clear g0 g1 g2 g3 g4 k0 k1 k2 k3 k4 k5 c0 hP hT hb
  obtain ⟨a0, a1, a2, a3, a4, af⟩ := id hA
  obtain ⟨r0, r1, r2, r3, r4, r5, rf⟩ := id hR
  go_wp2_with (first | (rw [putT_eq]; refine putT_gen hA ?_; clear hA; intro W hA hO; replace hbb := hO.below hbb (by omega); replace hR := hR.oth hO (by omega); clear hO; obtain ⟨a0, a1, a2, a3, a4, af⟩ := id hA; obtain ⟨r0, r1, r2, r3, r4, r5, rf⟩ := id hR) | (rw [put_eq]; refine put_gen hR ?_; clear hR; intro W hR hO; replace hbb := hO.below hbb (by omega); replace hA := hA.oth hO (by omega); clear hO; obtain ⟨a0, a1, a2, a3, a4, af⟩ := id hA; obtain ⟨r0, r1, r2, r3, r4, r5, rf⟩ := id hR))
  refine bodyPost_ret (v := .tuple #[tQ kd ln cl nm X, pQ tb to n tc J d' c' l' k']) (by simp [results, Tryz.results72, go_sem, a0, a1, a2, a3, a4, r0, r1, r2, r3, r4, r5]) rfl ⟨rfl, ?_⟩
  exact hbb

set_option maxHeartbeats 1000000 in
theorem pword_yes {w : World} {tb to tc n I : Nat} {d c l k : Int} {kd ln cl : Nat} {nm : Int} {X : ByteArray} (q : Nat) (hq : ((kd : Int) != (q : Int)) = false) (hI : I < 100000)
  (HB : Hid (∀ w, Calls Tryz.prog 34 #[pQ tb to n tc I d c l k] w fun e w' => e = .returned (.bool false) ∧ Below w.heap.size w w'))
  (HN : Hid (∀ w', Below w.heap.size w w' → Calls Tryz.prog 29 #[pQ tb to n tc I d c l k] w' fun e w'' => e = .returned (tQ kd ln cl nm X) ∧ Below w'.heap.size w' w'')) :
  Calls Tryz.prog 72 #[pQ tb to n tc I d c l k, .int .u8 q] w (Ret w (.tuple #[tQ kd ln cl nm X, pQ tb to n tc (I + 1) d c l k])) := by
 go_enter Tryz.func72, Tryz.ntmps72
 go_wp2_with fail
 refine (HN.out _ (three_made w (.slice (some ⟨tb, to, none⟩) n tc) I d c l k).2.2.2).mono ?_
 rintro e w1 ⟨rfl, hb⟩
 have hb1 : Below w.heap.size w w1 := below_step (three_made w (.slice (some ⟨tb, to, none⟩) n tc) I d c l k).2.2.2 hb
 have hP := (three_made w (.slice (some ⟨tb, to, none⟩) n tc) I d c l k).1.carry hb
 have hA := (three_made w (.slice (some ⟨tb, to, none⟩) n tc) I d c l k).2.1.carry hb
 have hR := (three_made w (.slice (some ⟨tb, to, none⟩) n tc) I d c l k).2.2.1.carry hb
 have hz : w.heap.size + 1 + 1 < w1.heap.size := hR.lt
 have hz' : w.heap.size < w1.heap.size := by omega
 clear hb
 obtain ⟨p0, p1, p2, p3, p4, p5, pf⟩ := id hP
 go_wp2_with fail
 refine (HB.out _).mono ?_
 rintro e w2 ⟨rfl, hb⟩
 have hT := (Tx.made w1 kd ln cl nm X).carry hb
 replace hP := (hP.carry (below_alloc _ _)).carry hb
 replace hA := (hA.carry (below_alloc _ _)).carry hb
 replace hR := (hR.carry (below_alloc _ _)).carry hb
 have hbb := below_step (below_step hb1 (below_alloc _ _)) hb
 have hz2 := hT.lt
 clear hb hb1 p0 p1 p2 p3 p4 p5 pf
 obtain ⟨p0, p1, p2, p3, p4, p5, pf⟩ := id hP
 obtain ⟨t0, t1, t2, t3, t4, tf⟩ := id hT
 go_wp2_with fail
 have hb2 := hbb
 obtain ⟨V, hV⟩ : ∃ V, V = w2.setCell ⟨w.heap.size, 1, none⟩ (.int .i64 ((I : Int) + 1)) := ⟨_, rfl⟩
 rw [← hV]
 have hO : Oth w.heap.size w2 V := by rw [hV]; exact Oth.set _ _ _ _
 replace hP : Bx V w.heap.size (.slice (some ⟨tb, to, none⟩) n tc) ((I : Int) + 1) d c l k := by rw [hV]; exact (bx_set hP _).1
 replace hT := hT.oth hO (by omega)
 replace hA := hA.oth hO (by omega)
 replace hR := hR.oth hO (by omega)
 replace hbb := hO.below hbb (by omega)
 have hzV := hO.size
 clear p0 p1 p2 p3 p4 p5 pf t0 t1 t2 t3 t4 tf hV hO hb2
 obtain ⟨p0, p1, p2, p3, p4, p5, pf⟩ := id hP
 obtain ⟨t0, t1, t2, t3, t4, tf⟩ := id hT
 obtain ⟨a0, a1, a2, a3, a4, af⟩ := id hA
 obtain ⟨r0, r1, r2, r3, r4, r5, rf⟩ := id hR
 go_region
 all_goals (go_wp2; refine bodyPost_ret (v := .tuple #[tQ kd ln cl nm X, pQ tb to n tc (I + 1) d c l k]) (by simp [results, Tryz.results72, go_sem, a0, a1, a2, a3, a4, r0, r1, r2, r3, r4, r5]) rfl ⟨rfl, ?_⟩; go_grown)

theorem word_p {w : World} {tb to n tc : Nat} {T : List Tok} {s : S} (h : Ev w tb to n T s.I) (q : Nat) {kd ln cl : Nat} {nm : Int} {tx : List UInt8} (ht : nowS T s = ⟨kd, ln, cl, nm, tx⟩) (s' : S) (hs : wordS T s q = s') :
  Calls Tryz.prog 72 #[pV tb to n tc s, .int .u8 q] w (Ret w (.tuple #[tQ kd ln cl nm (bs tx), pV tb to n tc s'])) := by
 subst hs
 have h1 := h.ln
 have h2 := h.lt
 have h3 := h.en.tn
 by_cases hc : s.c = 0
 ·by_cases hk : kd = q
  ·rw [show wordS T s q = ⟨s.I + 1, s.d, s.c, s.l, s.k⟩ by simp [wordS, hc, ht, hk]]
   exact pword_yes q (by simp [hk]) (by omega) (Lib.hid fun w => bad_p false (by simp [hc])) (Lib.hid fun w' hb => now_p (h.carry hb) ht)
  ·rw [show wordS T s q = failS T s 5 by simp [wordS, ht, hk]]
   exact pword_no q false (.inr ⟨rfl, by simp; omega⟩) (Lib.hid fun w => bad_p false (by simp [hc])) (Lib.hid fun w' hb => now_p (h.carry hb) ht) (Lib.hid fun w' hb => fail_p (h.carry hb) 5 _ rfl)
 ·rw [show wordS T s q = failS T s 5 by simp [wordS, hc]]
  exact pword_no q true (.inl rfl) (Lib.hid fun w => bad_p true (by simpa using hc)) (Lib.hid fun w' hb => now_p (h.carry hb) ht) (Lib.hid fun w' hb => fail_p (h.carry hb) 5 _ rfl)
end Go.Proofs.YtbknflaooemigaaGreat
