/-
 The document's reader by value: what is, fail, must, opens, shuts and word make of it, as functions. Conditions: its tokens lie in memory, the next one is there.
-/
import Derived.Test.YtbknflaooemigaaGreatDb
namespace Go.Proofs.YtbknflaooemigaaGreat
open Go.RowKit Go.Sort
set_option linter.unusedVariables false

def isS (T : List Tok) (s : S) (x : List UInt8) : Bool := decide (s.c = 0) && seesT x (nowS T s)
def failS (T : List Tok) (s : S) (e : Int) : S := if s.c = 0 then ⟨s.I, s.d, e, (nowS T s).line, (nowS T s).col⟩ else s
def mustS (T : List Tok) (s : S) (x : List UInt8) : S := if isS T s x = true then ⟨s.I + 1, s.d, s.c, s.l, s.k⟩ else failS T s 5
def upS (s : S) : S := ⟨s.I, wrap64 (s.d + 1), s.c, s.l, s.k⟩
def downS (s : S) : S := ⟨s.I, wrap64 (s.d - 1), s.c, s.l, s.k⟩
def opensS (T : List Tok) (s : S) (x : List UInt8) : S := if isS T s x = true ∧ 40 ≤ s.d then failS T s 6 else upS (mustS T s x)
def shutsS (T : List Tok) (s : S) (x : List UInt8) : S := downS (mustS T s x)
def wordS (T : List Tok) (s : S) (kd : Nat) : S := if s.c = 0 ∧ (nowS T s).kind = kd then ⟨s.I + 1, s.d, s.c, s.l, s.k⟩ else failS T s 5

/-- All but one block stays, and no new ones are made. -/
structure Oth (b : Nat) (w w' : World) : Prop where
 os : w'.os = w.os
 tape : w'.tape = w.tape
 output : w'.output = w.output
 size : w'.heap.size = w.heap.size
 block : ∀ k, k ≠ b → w'.heap[k]? = w.heap[k]?
theorem Oth.set (w : World) (b o : Nat) (v : Value) : Oth b w (w.setCell ⟨b, o, none⟩ v) := by
 have h := Onl.set b w o v
 exact ⟨h.os, h.tape, h.output, by simp, fun k hk => by
  by_cases h' : k < w.heap.size
  ·exact h.block k h' hk
  ·rw [Array.getElem?_eq_none (xs := w.heap) (by omega), Array.getElem?_eq_none (by simp; omega)]⟩
theorem Oth.trans {b : Nat} {x y z : World} (h : Oth b x y) (k : Oth b y z) : Oth b x z :=
 ⟨k.os.trans h.os, k.tape.trans h.tape, k.output.trans h.output, k.size.trans h.size, fun i hi => (k.block i hi).trans (h.block i hi)⟩
theorem Oth.below {b : Nat} {w0 w w' : World} (h : Oth b w w') (hb : Below w0.heap.size w0 w) (hl : w0.heap.size ≤ b) : Below w0.heap.size w0 w' :=
 ⟨h.os.trans hb.os, h.tape.trans hb.tape, h.output.trans hb.output, by have := hb.size; have := h.size; omega, fun k hk => (h.block k (by omega)).trans (hb.block k hk)⟩
theorem Oth.cell {b : Nat} {w w' : World} (h : Oth b w w') {g o : Nat} (hg : g ≠ b) : w'.cell? ⟨g, o, none⟩ = w.cell? ⟨g, o, none⟩ := World.cell?_of_block (h.block g hg)
theorem Oth.froz {b : Nat} {w w' : World} (h : Oth b w w') {g o : Nat} (hg : g ≠ b) : w'.frozen? ⟨g, o, none⟩ = w.frozen? ⟨g, o, none⟩ := by
 simp only [World.frozen?]; rw [h.block g hg]
theorem Bx.oth {b g : Nat} {w w' : World} {sl : Value} {I d c l k : Int} (h : Bx w g sl I d c l k) (ho : Oth b w w') (hg : g ≠ b) : Bx w' g sl I d c l k :=
 ⟨(ho.cell hg).trans h.c0, (ho.cell hg).trans h.c1, (ho.cell hg).trans h.c2, (ho.cell hg).trans h.c3, (ho.cell hg).trans h.c4, (ho.cell hg).trans h.c5, fun o => (ho.froz hg).trans (h.fz o)⟩
theorem Tx.oth {b g kd : Nat} {w w' : World} {ln cl nm : Int} {X : ByteArray} (h : Tx w g kd ln cl nm X) (ho : Oth b w w') (hg : g ≠ b) : Tx w' g kd ln cl nm X :=
 ⟨(ho.cell hg).trans h.c0, (ho.cell hg).trans h.c1, (ho.cell hg).trans h.c2, (ho.cell hg).trans h.c3, (ho.cell hg).trans h.c4, fun o => (ho.froz hg).trans (h.fz o)⟩

/-- A reader is laid into a box. -/
def Put (w : World) (b : Nat) (sl : Value) (I d c l k : Int) : World :=
 (((((w.setCell ⟨b, 0, none⟩ sl).setCell ⟨b, 1, none⟩ (.int .i64 I)).setCell ⟨b, 2, none⟩ (.int .i64 d)).setCell ⟨b, 3, none⟩ (.int .i64 c)).setCell ⟨b, 4, none⟩ (.int .i64 l)).setCell ⟨b, 5, none⟩ (.int .i64 k)
theorem put_eq (w : World) (b : Nat) (sl : Value) (I d c l k : Int) :
 (((((w.setCell ⟨b, 0, none⟩ sl).setCell ⟨b, 1, none⟩ (.int .i64 I)).setCell ⟨b, 2, none⟩ (.int .i64 d)).setCell ⟨b, 3, none⟩ (.int .i64 c)).setCell ⟨b, 4, none⟩ (.int .i64 l)).setCell ⟨b, 5, none⟩ (.int .i64 k) = Put w b sl I d c l k := rfl
theorem bx_set {w : World} {b : Nat} {sl : Value} {I d c l k : Int} (h : Bx w b sl I d c l k) (z : Int) : Bx (w.setCell ⟨b, 1, none⟩ (.int .i64 z)) b sl z d c l k ∧ Bx (w.setCell ⟨b, 2, none⟩ (.int .i64 z)) b sl I z c l k ∧ Bx (w.setCell ⟨b, 3, none⟩ (.int .i64 z)) b sl I d z l k ∧ Bx (w.setCell ⟨b, 4, none⟩ (.int .i64 z)) b sl I d c z k ∧ Bx (w.setCell ⟨b, 5, none⟩ (.int .i64 z)) b sl I d c l z ∧ ∀ v, Bx (w.setCell ⟨b, 0, none⟩ v) b v I d c l k := by
 obtain ⟨h0, h1, h2, h3, h4, h5, hf⟩ := h
 refine ⟨⟨?_, ?_, ?_, ?_, ?_, ?_, ?_⟩, ⟨?_, ?_, ?_, ?_, ?_, ?_, ?_⟩, ⟨?_, ?_, ?_, ?_, ?_, ?_, ?_⟩, ⟨?_, ?_, ?_, ?_, ?_, ?_, ?_⟩, ⟨?_, ?_, ?_, ?_, ?_, ?_, ?_⟩, fun v => ⟨?_, ?_, ?_, ?_, ?_, ?_, ?_⟩⟩ <;> simp [go_sem, h0, h1, h2, h3, h4, h5, hf]
theorem put_gen {G : World → Prop} {w : World} {b : Nat} {sl0 : Value} {I0 d0 c0 l0 k0 : Int} {sl : Value} {I d c l k : Int} (h : Bx w b sl0 I0 d0 c0 l0 k0) (hG : ∀ W, Bx W b sl I d c l k → Oth b w W → G W) : G (Put w b sl I d c l k) := by
 refine hG _ ?_ ?_
 ·exact (bx_set (bx_set (bx_set (bx_set (bx_set ((bx_set h 0).2.2.2.2.2 sl) I).1 d).2.1 c).2.2.1 l).2.2.2.1 k).2.2.2.2.1
 ·exact (((((Oth.set _ _ _ _).trans (Oth.set _ _ _ _)).trans (Oth.set _ _ _ _)).trans (Oth.set _ _ _ _)).trans (Oth.set _ _ _ _)).trans (Oth.set _ _ _ _)

/-- What a call answers that only makes new memory. -/
def Ret (w : World) (v : Value) (e : Ending) (w' : World) : Prop := e = .returned v ∧ Below w.heap.size w w'

/-- Where a reader stands: its tokens in memory, the next one there. -/
structure Ev (w : World) (tb to n : Nat) (T : List Tok) (I : Nat) : Prop where
 en : En w tb to T
 ln : T.length = n
 lt : I < n
theorem Ev.carry {w w' : World} {tb to n : Nat} {T : List Tok} {I : Nat} (h : Ev w tb to n T I) (hb : Below w.heap.size w w') : Ev w' tb to n T I := ⟨h.en.carry hb, h.ln, h.lt⟩
theorem Ev.at {w : World} {tb to n : Nat} {T : List Tok} {I J : Nat} (h : Ev w tb to n T I) (hJ : J < n) : Ev w tb to n T J := ⟨h.en, h.ln, hJ⟩

section
variable {w : World} {tb to n tc : Nat} {T : List Tok} {s : S}

theorem now_p (h : Ev w tb to n T s.I) {kd ln cl : Nat} {nm : Int} {tx : List UInt8} (ht : nowS T s = ⟨kd, ln, cl, nm, tx⟩) : Calls Tryz.prog 29 #[pV tb to n tc s] w (Ret w (tQ kd ln cl nm (bs tx))) :=
 pnow_q h.en h.ln h.lt ht _ _ _ _
theorem bad_p (q : Bool) (hq : (s.c != 0) = q) : Calls Tryz.prog 34 #[pV tb to n tc s] w (Ret w (.bool q)) := pbad_q w tb to tc n _ _ _ _ _ q hq
theorem is_p (h : Ev w tb to n T s.I) (X : ByteArray) (x : List UInt8) (hx : X.toList = x) (q : Bool) (hq : isS T s x = q) : Calls Tryz.prog 28 #[pV tb to n tc s, .string X] w (Ret w (.bool q)) := by
 obtain ⟨⟨kd, ln, cl, nm, tx⟩, ht⟩ : ∃ t, nowS T s = t := ⟨_, rfl⟩
 refine pis_core (X := bs tx) (Lib.hid fun w' hb => now_p (h.carry hb) ht) q (Lib.hid ?_)
 rw [← hq, isS, ht, seesT, bs_toList, hx]
theorem fail_p (h : Ev w tb to n T s.I) (e : Int) (s' : S) (hs : failS T s e = s') : Calls Tryz.prog 33 #[pV tb to n tc s, .int .i64 e] w (Ret w (pV tb to n tc s')) := by
 subst hs
 obtain ⟨⟨kd, ln, cl, nm, tx⟩, ht⟩ : ∃ t, nowS T s = t := ⟨_, rfl⟩
 by_cases hc : s.c = 0
 ·have := pfail_ok (w := w) (tb := tb) (to := to) (tc := tc) (n := n) (I := s.I) (d := s.d) (l := s.l) (k := s.k) (X := bs tx) e hc (Lib.hid fun w' hb => now_p (h.carry hb) ht)
  rw [failS, if_pos hc, ht]
  exact this
 ·rw [failS, if_neg hc]
  exact pfail_bad w tb to tc n _ _ _ _ _ e hc
theorem failS_I (T : List Tok) (s : S) (e : Int) : (failS T s e).I = s.I := by unfold failS; split <;> rfl
end

set_option maxHeartbeats 1000000 in
theorem pmust_yes {w : World} {tb to tc n I : Nat} {d c l k : Int} {s : ByteArray} (hI : I < 100000) (HI : Hid (∀ w', Below w.heap.size w w' → Calls Tryz.prog 28 #[pQ tb to n tc I d c l k, .string s] w' fun e w'' => e = .returned (.bool true) ∧ Below w'.heap.size w' w'')) :
  Calls Tryz.prog 30 #[pQ tb to n tc I d c l k, .string s] w (Ret w (pQ tb to n tc (I + 1) d c l k)) := by
 go_enter Tryz.func30, Tryz.ntmps30
 go_wp2_with fail
 refine (HI.out _ (two_made w (.slice (some ⟨tb, to, none⟩) n tc) I d c l k).2.2).mono ?_
 rintro e w1 ⟨rfl, hb⟩
 have hb1 : Below w.heap.size w w1 := below_step (two_made w (.slice (some ⟨tb, to, none⟩) n tc) I d c l k).2.2 hb
 have hP := (two_made w (.slice (some ⟨tb, to, none⟩) n tc) I d c l k).1.carry hb
 have hR := (two_made w (.slice (some ⟨tb, to, none⟩) n tc) I d c l k).2.1.carry hb
 have hz : w.heap.size + 1 < w1.heap.size := hR.lt
 clear hb
 obtain ⟨p0, p1, p2, p3, p4, p5, pf⟩ := hP
 obtain ⟨r0, r1, r2, r3, r4, r5, rf⟩ := hR
 go_wp2_with fail
 refine bodyPost_ret (v := pQ tb to n tc (I + 1) d c l k) (by simp [results, Tryz.results30, go_sem, r0, r1, r2, r3, r4, r5]) rfl ⟨rfl, ?_⟩
 go_grown

set_option maxHeartbeats 1000000 in
theorem pmust_no {w : World} {tb to tc n I J : Nat} {d c l k d' c' l' k' : Int} {s : ByteArray} (HI : Hid (∀ w', Below w.heap.size w w' → Calls Tryz.prog 28 #[pQ tb to n tc I d c l k, .string s] w' fun e w'' => e = .returned (.bool false) ∧ Below w'.heap.size w' w''))
  (HF : Hid (∀ w', Below w.heap.size w w' → Calls Tryz.prog 33 #[pQ tb to n tc I d c l k, .int .i64 5] w' fun e w'' => e = .returned (pQ tb to n tc J d' c' l' k') ∧ Below w'.heap.size w' w'')) :
  Calls Tryz.prog 30 #[pQ tb to n tc I d c l k, .string s] w (Ret w (pQ tb to n tc J d' c' l' k')) := by
 go_enter Tryz.func30, Tryz.ntmps30
 go_wp2_with fail
 refine (HI.out _ (two_made w (.slice (some ⟨tb, to, none⟩) n tc) I d c l k).2.2).mono ?_
 rintro e w1 ⟨rfl, hb⟩
 have hb1 : Below w.heap.size w w1 := below_step (two_made w (.slice (some ⟨tb, to, none⟩) n tc) I d c l k).2.2 hb
 have hP := (two_made w (.slice (some ⟨tb, to, none⟩) n tc) I d c l k).1.carry hb
 have hR := (two_made w (.slice (some ⟨tb, to, none⟩) n tc) I d c l k).2.1.carry hb
 have hz : w.heap.size + 1 < w1.heap.size := hR.lt
 clear hb
 obtain ⟨p0, p1, p2, p3, p4, p5, pf⟩ := hP
 go_wp2_with fail
 refine (HF.out _ hb1).mono ?_
 rintro e w2 ⟨rfl, hb⟩
 obtain ⟨r0, r1, r2, r3, r4, r5, rf⟩ := hR.carry hb
 have hbb := below_step hb1 hb
 have hz2 := hb.size
 clear hb hR p0 p1 p2 p3 p4 p5 pf
 go_wp2_with fail
 refine bodyPost_ret (v := pQ tb to n tc J d' c' l' k') (by simp [results, Tryz.results30, go_sem, r0, r1, r2, r3, r4, r5]) rfl ⟨rfl, ?_⟩
 go_grown

theorem must_p {w : World} {tb to n tc : Nat} {T : List Tok} {s : S} (h : Ev w tb to n T s.I) (X : ByteArray) (x : List UInt8) (hx : X.toList = x) (s' : S) (hs : mustS T s x = s') :
  Calls Tryz.prog 30 #[pV tb to n tc s, .string X] w (Ret w (pV tb to n tc s')) := by
 subst hs
 have h1 := h.ln
 have h2 := h.lt
 have h3 := h.en.tn
 cases hq : isS T s x with
 | true =>
  rw [show mustS T s x = ⟨s.I + 1, s.d, s.c, s.l, s.k⟩ by simp [mustS, hq]]
  exact pmust_yes (by omega) (Lib.hid fun w' hb => is_p (h.carry hb) X x hx true hq)
 | false =>
  rw [show mustS T s x = failS T s 5 by simp [mustS, hq]]
  exact pmust_no (Lib.hid fun w' hb => is_p (h.carry hb) X x hx false hq) (Lib.hid fun w' hb => fail_p (h.carry hb) 5 _ rfl)

set_option maxHeartbeats 1000000 in
theorem popens_deep {w : World} {tb to tc n I J : Nat} {d c l k d' c' l' k' : Int} {s : ByteArray} (hd : 40 ≤ d) (HI : Hid (∀ w', Below w.heap.size w w' → Calls Tryz.prog 28 #[pQ tb to n tc I d c l k, .string s] w' fun e w'' => e = .returned (.bool true) ∧ Below w'.heap.size w' w''))
  (HF : Hid (∀ w', Below w.heap.size w w' → Calls Tryz.prog 33 #[pQ tb to n tc I d c l k, .int .i64 6] w' fun e w'' => e = .returned (pQ tb to n tc J d' c' l' k') ∧ Below w'.heap.size w' w'')) :
  Calls Tryz.prog 52 #[pQ tb to n tc I d c l k, .string s] w (Ret w (pQ tb to n tc J d' c' l' k')) := by
 go_enter Tryz.func52, Tryz.ntmps52
 go_wp2_with fail
 refine (HI.out _ (two_made w (.slice (some ⟨tb, to, none⟩) n tc) I d c l k).2.2).mono ?_
 rintro e w1 ⟨rfl, hb⟩
 have hb1 : Below w.heap.size w w1 := below_step (two_made w (.slice (some ⟨tb, to, none⟩) n tc) I d c l k).2.2 hb
 have hP := (two_made w (.slice (some ⟨tb, to, none⟩) n tc) I d c l k).1.carry hb
 have hR := (two_made w (.slice (some ⟨tb, to, none⟩) n tc) I d c l k).2.1.carry hb
 have hz : w.heap.size + 1 < w1.heap.size := hR.lt
 clear hb
 obtain ⟨p0, p1, p2, p3, p4, p5, pf⟩ := hP
 go_wp2_with fail
 refine (HF.out _ hb1).mono ?_
 rintro e w2 ⟨rfl, hb⟩
 obtain ⟨r0, r1, r2, r3, r4, r5, rf⟩ := hR.carry hb
 have hbb := below_step hb1 hb
 have hz2 := hb.size
 clear hb hR p0 p1 p2 p3 p4 p5 pf
 go_wp2_with fail
 refine bodyPost_ret (v := pQ tb to n tc J d' c' l' k') (by simp [results, Tryz.results52, go_sem, r0, r1, r2, r3, r4, r5]) rfl ⟨rfl, ?_⟩
 go_grown

set_option maxHeartbeats 1000000 in
theorem popens_yes {w : World} {tb to tc n I J : Nat} {d c l k d' c' l' k' : Int} {s : ByteArray} (hd : d < 40) (z : Int) (hw : wrap64 (d' + 1) = z) (HI : Hid (∀ w', Below w.heap.size w w' → Calls Tryz.prog 28 #[pQ tb to n tc I d c l k, .string s] w' fun e w'' => e = .returned (.bool true) ∧ Below w'.heap.size w' w''))
  (HF : Hid (∀ w', Below w.heap.size w w' → Calls Tryz.prog 30 #[pQ tb to n tc I d c l k, .string s] w' fun e w'' => e = .returned (pQ tb to n tc J d' c' l' k') ∧ Below w'.heap.size w' w'')) :
  Calls Tryz.prog 52 #[pQ tb to n tc I d c l k, .string s] w (Ret w (pQ tb to n tc J z c' l' k')) := by
 go_enter Tryz.func52, Tryz.ntmps52
 go_wp2_with fail
 refine (HI.out _ (two_made w (.slice (some ⟨tb, to, none⟩) n tc) I d c l k).2.2).mono ?_
 rintro e w1 ⟨rfl, hb⟩
 have hb1 : Below w.heap.size w w1 := below_step (two_made w (.slice (some ⟨tb, to, none⟩) n tc) I d c l k).2.2 hb
 have hP := (two_made w (.slice (some ⟨tb, to, none⟩) n tc) I d c l k).1.carry hb
 have hR := (two_made w (.slice (some ⟨tb, to, none⟩) n tc) I d c l k).2.1.carry hb
 have hz : w.heap.size + 1 < w1.heap.size := hR.lt
 clear hb
 obtain ⟨p0, p1, p2, p3, p4, p5, pf⟩ := id hP
 go_wp2_with fail
 refine (HF.out _ hb1).mono ?_
 rintro e w2 ⟨rfl, hb⟩
 clear p0 p1 p2 p3 p4 p5 pf
 replace hP := hP.carry hb
 replace hR := hR.carry hb
 have hbb := below_step hb1 hb
 have hz2 := hb.size
 clear hb hb1
 obtain ⟨p0, p1, p2, p3, p4, p5, pf⟩ := id hP
 go_wp2_with (first | (rw [put_eq]; refine put_gen hP ?_; clear hP; intro W hP hO; have hbW := hO.below hbb (Nat.le_refl _); replace hR := hR.oth hO (by omega); have hzW := hO.size; clear hO hbb; obtain ⟨p0, p1, p2, p3, p4, p5, pf⟩ := id hP; obtain ⟨r0, r1, r2, r3, r4, r5, rf⟩ := id hR))
 refine bodyPost_ret (v := pQ tb to n tc J z c' l' k') (by simp [results, Tryz.results52, go_sem, r0, r1, r2, r3, r4, r5]) rfl ⟨rfl, ?_⟩
 go_grown

set_option maxHeartbeats 1000000 in
theorem popens_no {w : World} {tb to tc n I J : Nat} {d c l k d' c' l' k' : Int} {s : ByteArray}  (z : Int) (hw : wrap64 (d' + 1) = z) (HI : Hid (∀ w', Below w.heap.size w w' → Calls Tryz.prog 28 #[pQ tb to n tc I d c l k, .string s] w' fun e w'' => e = .returned (.bool false) ∧ Below w'.heap.size w' w''))
  (HF : Hid (∀ w', Below w.heap.size w w' → Calls Tryz.prog 30 #[pQ tb to n tc I d c l k, .string s] w' fun e w'' => e = .returned (pQ tb to n tc J d' c' l' k') ∧ Below w'.heap.size w' w'')) :
  Calls Tryz.prog 52 #[pQ tb to n tc I d c l k, .string s] w (Ret w (pQ tb to n tc J z c' l' k')) := by
 go_enter Tryz.func52, Tryz.ntmps52
 go_wp2_with fail
 refine (HI.out _ (two_made w (.slice (some ⟨tb, to, none⟩) n tc) I d c l k).2.2).mono ?_
 rintro e w1 ⟨rfl, hb⟩
 have hb1 : Below w.heap.size w w1 := below_step (two_made w (.slice (some ⟨tb, to, none⟩) n tc) I d c l k).2.2 hb
 have hP := (two_made w (.slice (some ⟨tb, to, none⟩) n tc) I d c l k).1.carry hb
 have hR := (two_made w (.slice (some ⟨tb, to, none⟩) n tc) I d c l k).2.1.carry hb
 have hz : w.heap.size + 1 < w1.heap.size := hR.lt
 clear hb
 obtain ⟨p0, p1, p2, p3, p4, p5, pf⟩ := id hP
 go_wp2_with fail
 refine (HF.out _ hb1).mono ?_
 rintro e w2 ⟨rfl, hb⟩
 clear p0 p1 p2 p3 p4 p5 pf
 replace hP := hP.carry hb
 replace hR := hR.carry hb
 have hbb := below_step hb1 hb
 have hz2 := hb.size
 clear hb hb1
 obtain ⟨p0, p1, p2, p3, p4, p5, pf⟩ := id hP
 go_wp2_with (first | (rw [put_eq]; refine put_gen hP ?_; clear hP; intro W hP hO; have hbW := hO.below hbb (Nat.le_refl _); replace hR := hR.oth hO (by omega); have hzW := hO.size; clear hO hbb; obtain ⟨p0, p1, p2, p3, p4, p5, pf⟩ := id hP; obtain ⟨r0, r1, r2, r3, r4, r5, rf⟩ := id hR))
 refine bodyPost_ret (v := pQ tb to n tc J z c' l' k') (by simp [results, Tryz.results52, go_sem, r0, r1, r2, r3, r4, r5]) rfl ⟨rfl, ?_⟩
 go_grown

theorem opens_p {w : World} {tb to n tc : Nat} {T : List Tok} {s : S} (h : Ev w tb to n T s.I) (X : ByteArray) (x : List UInt8) (hx : X.toList = x) (s' : S) (hs : opensS T s x = s') :
  Calls Tryz.prog 52 #[pV tb to n tc s, .string X] w (Ret w (pV tb to n tc s')) := by
 subst hs
 cases hq : isS T s x with
 | true =>
  by_cases hd : 40 ≤ s.d
  ·rw [show opensS T s x = failS T s 6 by simp [opensS, hq, hd]]
   exact popens_deep hd (Lib.hid fun w' hb => is_p (h.carry hb) X x hx true hq) (Lib.hid fun w' hb => fail_p (h.carry hb) 6 _ rfl)
  ·rw [show opensS T s x = upS (mustS T s x) by simp [opensS, hd]]
   exact popens_yes (by omega) _ rfl (Lib.hid fun w' hb => is_p (h.carry hb) X x hx true hq) (Lib.hid fun w' hb => must_p (h.carry hb) X x hx _ rfl)
 | false =>
  rw [show opensS T s x = upS (mustS T s x) by simp [opensS, hq]]
  exact popens_no _ rfl (Lib.hid fun w' hb => is_p (h.carry hb) X x hx false hq) (Lib.hid fun w' hb => must_p (h.carry hb) X x hx _ rfl)

set_option maxHeartbeats 1000000 in
theorem pshuts {w : World} {tb to tc n I J : Nat} {d c l k d' c' l' k' : Int} {s : ByteArray} (z : Int) (hw : wrap64 (d' - 1) = z)
  (HF : Hid (∀ w', Below w.heap.size w w' → Calls Tryz.prog 30 #[pQ tb to n tc I d c l k, .string s] w' fun e w'' => e = .returned (pQ tb to n tc J d' c' l' k') ∧ Below w'.heap.size w' w'')) :
  Calls Tryz.prog 71 #[pQ tb to n tc I d c l k, .string s] w (Ret w (pQ tb to n tc J z c' l' k')) := by
 go_enter Tryz.func71, Tryz.ntmps71
 go_wp2_with fail
 refine (HF.out _ (two_made w (.slice (some ⟨tb, to, none⟩) n tc) I d c l k).2.2).mono ?_
 rintro e w1 ⟨rfl, hb⟩
 have hb1 : Below w.heap.size w w1 := below_step (two_made w (.slice (some ⟨tb, to, none⟩) n tc) I d c l k).2.2 hb
 have hP := (two_made w (.slice (some ⟨tb, to, none⟩) n tc) I d c l k).1.carry hb
 have hR := (two_made w (.slice (some ⟨tb, to, none⟩) n tc) I d c l k).2.1.carry hb
 have hz : w.heap.size + 1 < w1.heap.size := hR.lt
 clear hb
 have hbb := hb1
 clear hb1
 obtain ⟨p0, p1, p2, p3, p4, p5, pf⟩ := id hP
 go_wp2_with (first | (rw [put_eq]; refine put_gen hP ?_; clear hP; intro W hP hO; have hbW := hO.below hbb (Nat.le_refl _); replace hR := hR.oth hO (by omega); have hzW := hO.size; clear hO hbb; obtain ⟨p0, p1, p2, p3, p4, p5, pf⟩ := id hP; obtain ⟨r0, r1, r2, r3, r4, r5, rf⟩ := id hR))
 refine bodyPost_ret (v := pQ tb to n tc J z c' l' k') (by simp [results, Tryz.results71, go_sem, r0, r1, r2, r3, r4, r5]) rfl ⟨rfl, ?_⟩
 go_grown

theorem shuts_p {w : World} {tb to n tc : Nat} {T : List Tok} {s : S} (h : Ev w tb to n T s.I) (X : ByteArray) (x : List UInt8) (hx : X.toList = x) (s' : S) (hs : shutsS T s x = s') :
  Calls Tryz.prog 71 #[pV tb to n tc s, .string X] w (Ret w (pV tb to n tc s')) := by
 subst hs
 exact pshuts _ rfl (Lib.hid fun w' hb => must_p (h.carry hb) X x hx _ rfl)
end Go.Proofs.YtbknflaooemigaaGreat
