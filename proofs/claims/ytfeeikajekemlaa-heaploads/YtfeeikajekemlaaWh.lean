/-
  The walk of heap.lay. Conditions: as said.
-/
import Derived.Test.YtfeeikajekemlaaWg
import Derived.IntWalk
namespace Go.Proofs.Ytfeeikajekemlaa
open Go.RowKit Go.Sort
set_option linter.unusedVariables false
set_option linter.unusedSimpArgs false
set_option maxRecDepth 100000

/-- All but the blocks of S is as it was. -/
structure Oth (S : Nat → Prop) (w w' : World) : Prop where
  os : w'.os = w.os
  tape : w'.tape = w.tape
  output : w'.output = w.output
  size : w.heap.size ≤ w'.heap.size
  block : ∀ b, b < w.heap.size → ¬ S b → w'.heap[b]? = w.heap[b]?
theorem Oth.refl (S : Nat → Prop) (w : World) : Oth S w w := ⟨rfl, rfl, rfl, Nat.le_refl _, fun _ _ _ => rfl⟩
theorem Oth.trans {S : Nat → Prop} {a b c : World} (h : Oth S a b) (g : Oth S b c) : Oth S a c :=
  ⟨g.os.trans h.os, g.tape.trans h.tape, g.output.trans h.output, Nat.le_trans h.size g.size, fun k hk hs => (g.block k (Nat.lt_of_lt_of_le hk h.size) hs).trans (h.block k hk hs)⟩
theorem Oth.below {S : Nat → Prop} {w w' : World} (h : Below w.heap.size w w') : Oth S w w' := ⟨h.os, h.tape, h.output, h.size, fun b hb _ => h.block b hb⟩
theorem Oth.alloc {S : Nat → Prop} {a w : World} (h : Oth S a w) (o : Obj) : Oth S a (w.alloc o) := h.trans (Oth.below (below_alloc w o))
theorem Oth.set {S : Nat → Prop} {a w : World} (h : Oth S a w) {q : Addr} (hq : S q.block) (v : Value) : Oth S a (w.setCell q v) :=
  h.trans ⟨rfl, rfl, rfl, by simp [World.setCell], fun k hk hs => heap_setCell_other _ _ _ _ (fun e => hs (e ▸ hq))⟩
theorem Oth.grown {S : Nat → Prop} {a w w' : World} {row : Option Nat} (h : Oth S a w) (g : w.grownBy w' row) (hr : ∀ k, row = some k → S k) : Oth S a w' :=
  h.trans ⟨g.os, g.tape, g.output, g.size, fun k hk hs => g.block k hk (fun e => hs (hr k e.symm))⟩
theorem own_same {w w' : World} {e s n : Nat} {v : Value} {xs : List Value} (h : w.ownsRow 0 e s v n xs) (hk : ∀ g, v.ownBlock = some g → w'.heap[g]? = w.heap[g]?) : w'.ownsRow 0 e s v n xs := by
  refine ⟨h.1, ?_⟩
  rcases h.2 with hn | ⟨g, cap, cur, rfl, hb, hgg, rest⟩
  · exact .inl hn
  · exact .inr ⟨g, cap, cur, rfl, hb, by rw [hk g rfl]; exact hgg, rest⟩
theorem set_other {w : World} {q : Addr} {v : Value} {b : Nat} (h : b ≠ q.block) : (w.setCell q v).heap[b]? = w.heap[b]? := heap_setCell_other _ _ _ _ h

/-- What lay leaves. -/
structure LayW (w w' : World) (p room C n P : Nat) (vo va : Value) (l1 l2 : List Value) (x : Oc) (g1 c1 g2 c2 : Nat) : Prop where
  oth : Oth (fun b => b = p ∨ vo.ownBlock = some b ∨ va.ownBlock = some b) w w'
  hd : w'.rowIs p 69 4 (hpF room (C + (1 + P)) (.slice (some ⟨g1, 0, none⟩) (n + 1) c1) (.slice (some ⟨g2, 0, none⟩) (n + 1) c2))
  o1 : w'.ownsRow 0 83 1 (.slice (some ⟨g1, 0, none⟩) (n + 1) c1) (n + 1) (l1 ++ [.pointer (some ⟨w.heap.size, 0, none⟩)])
  o2 : w'.ownsRow 0 4 1 (.slice (some ⟨g2, 0, none⟩) (n + 1) c2) (n + 1) (l2 ++ [.bool true])
  b1 : vo.ownBlock = some g1 ∨ w.heap.size + 1 < g1
  b2 : va.ownBlock = some g2 ∨ w.heap.size + 1 < g2
  ne : g1 ≠ g2
  l1 : g1 < w'.heap.size
  l2 : g2 < w'.heap.size
  bx : w'.rowIs w.heap.size 45 4 (ocF x)
  big : w.heap.size < w'.heap.size
def LayP (w : World) (p room C n P : Nat) (vo va : Value) (l1 l2 : List Value) (x : Oc) (e : Ending) (w' : World) : Prop :=
  ∃ g1 c1 g2 c2, e = .returned (.agg #[.int .u8 x.kind, .int .i64 ((n : Int) + 1), .int .i64 0, .int .i64 0]) ∧ LayW w w' p room C n P vo va l1 l2 x g1 c1 g2 c2

theorem box_row (w : World) (x : Oc) : (w.alloc (.cells #[.int .u8 x.kind, .int .i64 x.of, .string x.text, .slice x.a x.n x.c] 45)).rowIs w.heap.size 45 4 (ocF x) :=
  World.rowIs_alloc w #[.int .u8 x.kind, .int .i64 x.of, .string x.text, .slice x.a x.n x.c] 45 (ocF x) (fun i hi => by
    have : i < 4 := hi
    match i, this with
    | 0, _ => rfl
    | 1, _ => rfl
    | 2, _ => rfl
    | 3, _ => rfl)

theorem hd_set1 {w : World} {p room C T : Nat} {vo va : Value} (h : w.rowIs p 69 4 (hpF room C vo va)) : (w.setCell ⟨p, 1, none⟩ (.int .i64 T)).rowIs p 69 4 (hpF room T vo va) :=
  (h.set 1 (.int .i64 T)).congr fun j hj => by
    match j, hj with
    | 0, _ => rfl
    | 1, _ => rfl
    | 2, _ => rfl
    | 3, _ => rfl
theorem hd_set2 {w : World} {p room C : Nat} {vo va v : Value} (h : w.rowIs p 69 4 (hpF room C vo va)) : (w.setCell ⟨p, 2, none⟩ v).rowIs p 69 4 (hpF room C v va) :=
  (h.set 2 v).congr fun j hj => by
    match j, hj with
    | 0, _ => rfl
    | 1, _ => rfl
    | 2, _ => rfl
    | 3, _ => rfl
theorem hd_set3 {w : World} {p room C : Nat} {vo va v : Value} (h : w.rowIs p 69 4 (hpF room C vo va)) : (w.setCell ⟨p, 3, none⟩ v).rowIs p 69 4 (hpF room C vo v) :=
  (h.set 3 v).congr fun j hj => by
    match j, hj with
    | 0, _ => rfl
    | 1, _ => rfl
    | 2, _ => rfl
    | 3, _ => rfl

set_option maxHeartbeats 4000000 in
theorem lay_walk (p room C n : Nat) (a1 a2 : Option Addr) (k1 k2 : Nat) (l1 l2 : List Value) (x : Oc) (w : World) (hd : Hid (w.rowIs p 69 4 (hpF room C (.slice a1 n k1) (.slice a2 n k2)))) (ho : Hid (w.ownsRow 0 83 1 (.slice a1 n k1) n l1)) (ha : Hid (w.ownsRow 0 4 1 (.slice a2 n k2) n l2))
    (hp1 : Hid ((Value.slice a1 n k1).ownBlock ≠ some p)) (hp2 : Hid ((Value.slice a2 n k2).ownBlock ≠ some p)) (h12 : Hid (∀ g, (Value.slice a1 n k1).ownBlock = some g → (Value.slice a2 n k2).ownBlock ≠ some g)) (hC : C ≤ 65536) (hn : n ≤ 65536) (ht : x.text.size ≤ 100000) (hxn : x.n ≤ 100000) :
    Calls Try.prog 42 #[.pointer (some ⟨p, 0, none⟩), ocV x] w (LayP w p room C n (partC x) (.slice a1 n k1) (.slice a2 n k2) l1 l2 x) := by
  have hP : partC x ≤ 200000 := by unfold partC; omega
  obtain ⟨P, hPe⟩ : ∃ P, partC x = P := ⟨_, rfl⟩
  have H41 : Hid (∀ w, Calls Try.prog 41 #[ocV x] w fun e w' => e = .returned (.int .i64 (P : Nat)) ∧ Below w.heap.size w w') := by
    rw [← hPe]; exact fun w => part_any x w ht hxn
  rw [hPe] at hP ⊢
  clear hPe
  have hpl := hd.out.lt
  obtain ⟨kx, fx, tx, ax, nx, cx⟩ := x
  go_enter Try.func42, Try.ntmps42
  go_wp2_with fail
  obtain ⟨W, hW⟩ : ∃ W, W = ((w.alloc (.cells #[.int .u8 kx, .int .i64 fx, .string tx, .slice ax nx cx] 45)).alloc (.cells #[.int .u8 0, .int .i64 0, .int .i64 0, .int .i64 0] 35)) := ⟨_, rfl⟩
  rw [← hW]
  have hB : Below w.heap.size w W := by rw [hW]; go_grown
  have hz : W.heap.size = w.heap.size + 1 + 1 := by rw [hW]; simp
  have hbx : W.rowIs w.heap.size 45 4 (ocF ⟨kx, fx, tx, ax, nx, cx⟩) := by rw [hW]; exact (box_row w ⟨kx, fx, tx, ax, nx, cx⟩).alloc _
  have hrs : W.rowIs (w.heap.size + 1) 35 4 (flV [v0]) := by
    rw [hW]
    have := World.rowIs_alloc (w.alloc (.cells #[.int .u8 kx, .int .i64 fx, .string tx, .slice ax nx cx] 45)) #[.int .u8 0, .int .i64 0, .int .i64 0, .int .i64 0] 35 (flV [v0]) (fun i hi => by
      have : i < 4 := hi
      match i, this with
      | 0, _ => rfl
      | 1, _ => rfl
      | 2, _ => rfl
      | 3, _ => rfl)
    simpa using this
  have hdW := hd.out.of_block (hB.block p hpl)
  clear hW
  have k0 := fun D os => cell_regrown (w := W) (a := ⟨p, 1, none⟩) (v := .int .i64 C) (hdW.cell (i := 1) (by omega)) D os
  have q0 := fun D os => cell_regrown (w := W) (a := ⟨w.heap.size, 0, none⟩) (v := .int .u8 kx) (hbx.cell (i := 0) (by omega)) D os
  have q1 := fun D os => cell_regrown (w := W) (a := ⟨w.heap.size, 1, none⟩) (v := .int .i64 fx) (hbx.cell (i := 1) (by omega)) D os
  have q2 := fun D os => cell_regrown (w := W) (a := ⟨w.heap.size, 2, none⟩) (v := .string tx) (hbx.cell (i := 2) (by omega)) D os
  have q3 := fun D os => cell_regrown (w := W) (a := ⟨w.heap.size, 3, none⟩) (v := .slice ax nx cx) (hbx.cell (i := 3) (by omega)) D os
  have c0 : ∀ D os, Calls Try.prog 41 #[ocV ⟨kx, fx, tx, ax, nx, cx⟩] (grow (redrawn W D) os) fun e w'' => e = .returned (.int .i64 (P : Nat)) ∧ ∃ p : Regrown, w'' = grow (redrawn W p.d) p.os := fun D os => Calls.regrown_of (H41.out _)
  have s1 : IntKind.i64.wrap (1 + (P : Int)) = 1 + P := IntWalk.i64_in _ (by omega)
  have s2 : IntKind.i64.wrap ((C : Int) + (1 + P)) = C + (1 + P) := IntWalk.i64_in _ (by omega)
  replace hbx := Lib.hid hbx
  replace hrs := Lib.hid hrs
  replace hdW := Lib.hid hdW
  refine region_tail_below 10 (by kernel_rfl) (by kernel_rfl) ?_
  simp only [List.take_succ_cons, List.take_zero, List.drop_succ_cons, List.drop_zero]
  repeat (quiet_step (first | with_reducible exact c0 _ _))
  refine wpQuiet_nil ?_
  rintro _ ⟨⟨dq, osq⟩, rfl⟩
  have hb := below_regrown W dq osq
  generalize grow (redrawn W dq) osq = w1 at *
  have hB1 := Lib.hid (below_step hB hb)
  have hz1 : w.heap.size + 1 < w1.heap.size := by have := hb.size; omega
  have hbx1 := Lib.hid (hbx.out.of_block (hb.block w.heap.size (by omega)))
  have hrs1 := Lib.hid (hrs.out.of_block (hb.block (w.heap.size + 1) (by omega)))
  have hd1 := hdW.out.of_block (hb.block p (by omega))
  have r1 : w1.cell? ⟨p, 1, none⟩ = some (.int .i64 C) := hd1.cell (by omega)
  have r2 : w1.cell? ⟨p, 2, none⟩ = some (.slice a1 n k1) := hd1.cell (by omega)
  have r3 : w1.cell? ⟨p, 3, none⟩ = some (.slice a2 n k2) := hd1.cell (by omega)
  have fp : ∀ o, w1.frozen? ⟨p, o, none⟩ = false := fun o => hd1.frozen o
  have hpl1 : p < w1.heap.size := by omega
  have hO1 : Hid (((w1.setCell ⟨p, 1, none⟩ (.int .i64 ((C : Int) + (1 + P)))).alloc (.cells #[.pointer (some ⟨w.heap.size, 0, none⟩)] 83)).ownsRow 0 83 1 (.slice a1 n k1) n l1) := by
    refine Lib.hid (own_same ho.out fun g hg => ?_)
    have hgl := (ho.out.lt g hg).2
    rw [heap_alloc_old _ _ (by simp; omega), set_other (fun e => hp1.out (by rw [hg]; simp at e; rw [e])), hB1.out.block g hgl]
  have hd1' := Lib.hid hd1
  clear hd1 hbx hrs hdW hB hz hb k0 q0 q1 q2 q3 c0 s1 s2 H41
  go_wp2_with (refine wpList_app1 rfl 66 83 (.inl ⟨rfl, rfl⟩) (.tmp 19) (.tmp 20) rfl (.slice a1 n k1) (.pointer (some ⟨w.heap.size, 0, none⟩)) rfl n w1.heap.size l1 rfl rfl (by simp [go_sem]) hO1.out (by omega) (w1.heap.size + 1) (by simp) ?_)
  intro g1 c1 w2 ho1 hg1 hat1 hlt1
  have hoO : ∀ g, (Value.slice a1 n k1).ownBlock = some g → g < w.heap.size := fun g hg => (ho.out.lt g hg).2
  have haO : ∀ g, (Value.slice a2 n k2).ownBlock = some g → g < w.heap.size := fun g hg => (ha.out.lt g hg).2
  have hsz2 : w1.heap.size + 1 ≤ w2.heap.size := by have := hg1.size; simpa using this
  have hS2 : Oth (fun b => b = p ∨ (Value.slice a1 n k1).ownBlock = some b ∨ (Value.slice a2 n k2).ownBlock = some b) w w2 :=
    (((Oth.below hB1.out).set (q := ⟨p, 1, none⟩) (.inl rfl) _).alloc _).grown hg1 fun k hk => .inr (.inl hk)
  have hd2 : w2.rowIs p 69 4 (hpF room (C + (1 + P)) (.slice a1 n k1) (.slice a2 n k2)) := by
    have h := hd_set1 (T := C + (1 + P)) hd1'.out
    rw [show ((C + (1 + P) : Nat) : Int) = (C : Int) + (1 + P) by omega] at h
    exact (h.alloc _).of_block (hg1.block p (by simp; omega) fun e => hp1.out e.symm)
  have hne1 : g1 ≠ p := by
    rcases hat1 with h | h
    · exact fun e => hp1.out (by rw [h, e])
    · omega
  have hbx2 := ((hbx1.out.setOther (a := ⟨p, 1, none⟩) (by simp; omega) (.int .i64 ((C : Int) + (1 + P)))).alloc (.cells #[.pointer (some ⟨w.heap.size, 0, none⟩)] 83)).of_block (hg1.block w.heap.size (by simp; omega) fun e => by have := hoO _ e.symm; omega)
  have hrs2 := ((hrs1.out.setOther (a := ⟨p, 1, none⟩) (by simp; omega) (.int .i64 ((C : Int) + (1 + P)))).alloc (.cells #[.pointer (some ⟨w.heap.size, 0, none⟩)] 83)).of_block (hg1.block (w.heap.size + 1) (by simp; omega) fun e => by have := hoO _ e.symm; omega)
  have hO2 : Hid (((w2.setCell ⟨p, 2, none⟩ (.slice (some ⟨g1, 0, none⟩) (n + 1) c1)).alloc (.cells #[.bool true] 4)).ownsRow 0 4 1 (.slice a2 n k2) n l2) := by
    refine Lib.hid (own_same ha.out fun g hg => ?_)
    have hgl := haO g hg
    have hgp : g ≠ p := fun e => hp2.out (by rw [hg, e])
    rw [heap_alloc_old _ _ (by simp; omega), set_other hgp, hg1.block g (by simp; omega) (fun e => h12.out g e.symm hg), heap_alloc_old _ _ (by simp; omega), set_other hgp, hB1.out.block g hgl]
  have r3' : w2.cell? ⟨p, 3, none⟩ = some (.slice a2 n k2) := hd2.cell (by omega)
  have r2' : w2.cell? ⟨p, 2, none⟩ = some (.slice a1 n k1) := hd2.cell (by omega)
  have fp2 : ∀ o, w2.frozen? ⟨p, o, none⟩ = false := fun o => hd2.frozen o
  have hpl2 : p < w2.heap.size := by omega
  replace ho1 := Lib.hid ho1
  have hat1' : Hid ((Value.slice a1 n k1).ownBlock = some g1 ∨ w1.heap.size < g1) := Lib.hid (hat1.imp id fun e => by omega)
  replace hd2 := Lib.hid hd2
  replace hbx2 := Lib.hid hbx2
  replace hrs2 := Lib.hid hrs2
  replace hS2 := Lib.hid hS2
  replace hoO := Lib.hid hoO
  replace haO := Lib.hid haO
  clear r1 r2 r3 fp hO1 hd1' hbx1 hrs1 hB1 hat1 hg1
  go_wp2_with (refine wpList_app1 rfl 67 4 (.inr ⟨rfl, rfl⟩) (.tmp 28) (.tmp 29) rfl (.slice a2 n k2) (.bool true) rfl n w2.heap.size l2 rfl rfl (by simp [go_sem]) hO2.out (by omega) (w2.heap.size + 1) (by simp) ?_)
  intro g2 c2 w3 ho2 hg2 hat2 hlt2
  have hsz3 : w2.heap.size + 1 ≤ w3.heap.size := by have := hg2.size; simpa using this
  have hS3 : Oth (fun b => b = p ∨ (Value.slice a1 n k1).ownBlock = some b ∨ (Value.slice a2 n k2).ownBlock = some b) w w3 :=
    ((hS2.out.set (q := ⟨p, 2, none⟩) (.inl rfl) _).alloc _).grown hg2 fun k hk => .inr (.inr hk)
  have hd3 : w3.rowIs p 69 4 (hpF room (C + (1 + P)) (.slice (some ⟨g1, 0, none⟩) (n + 1) c1) (.slice a2 n k2)) :=
    ((hd_set2 hd2.out).alloc _).of_block (hg2.block p (by simp; omega) fun e => hp2.out e.symm)
  have hne2 : g2 ≠ p := by
    rcases hat2 with h | h
    · exact fun e => hp2.out (by rw [h, e])
    · omega
  have hne : g1 ≠ g2 := by
    rcases hat1'.out with h | h
    · rcases hat2 with h2 | h2
      · exact fun e => h12.out g1 h (by rw [h2, e])
      · have := hoO.out g1 h; omega
    · rcases hat2 with h2 | h2
      · have := haO.out g2 h2; omega
      · omega
  have hg1a : (Value.slice a2 n k2).ownBlock ≠ some g1 := fun e => by
    rcases hat1'.out with h | h
    · exact h12.out g1 h e
    · have := haO.out g1 e; omega
  have ho3 : w3.ownsRow 0 83 1 (.slice (some ⟨g1, 0, none⟩) (n + 1) c1) (n + 1) (l1 ++ [.pointer (some ⟨w.heap.size, 0, none⟩)]) :=
    own_same ho1.out fun g hg => by
      have : g = g1 := by simpa [Value.ownBlock] using hg.symm
      subst this
      rw [hg2.block g (by simp; omega) fun e => hg1a e.symm, heap_alloc_old _ _ (by simp; omega), set_other hne1]
  have hbx3 := ((hbx2.out.setOther (a := ⟨p, 2, none⟩) (by simp; omega) (.slice (some ⟨g1, 0, none⟩) (n + 1) c1)).alloc (.cells #[.bool true] 4)).of_block (hg2.block w.heap.size (by simp; omega) fun e => by have := haO.out _ e.symm; omega)
  have hrs3 := ((hrs2.out.setOther (a := ⟨p, 2, none⟩) (by simp; omega) (.slice (some ⟨g1, 0, none⟩) (n + 1) c1)).alloc (.cells #[.bool true] 4)).of_block (hg2.block (w.heap.size + 1) (by simp; omega) fun e => by have := haO.out _ e.symm; omega)
  have r33 : w3.cell? ⟨p, 3, none⟩ = some (.slice a2 n k2) := hd3.cell (by omega)
  have fp3 : ∀ o, w3.frozen? ⟨p, o, none⟩ = false := fun o => hd3.frozen o
  have hpl3 : p < w3.heap.size := by omega
  have hat2' : Hid ((Value.slice a2 n k2).ownBlock = some g2 ∨ w2.heap.size < g2) := Lib.hid (hat2.imp id fun e => by omega)
  have hd4 := Lib.hid (hd_set3 (v := .slice (some ⟨g2, 0, none⟩) (n + 1) c2) hd3)
  have hbx4 := Lib.hid (hbx3.setOther (a := ⟨p, 3, none⟩) (by simp; omega) (.slice (some ⟨g2, 0, none⟩) (n + 1) c2))
  have hrs4 := Lib.hid (hrs3.setOther (a := ⟨p, 3, none⟩) (by simp; omega) (.slice (some ⟨g2, 0, none⟩) (n + 1) c2))
  have ho4 := Lib.hid (own_same (w' := w3.setCell ⟨p, 3, none⟩ (.slice (some ⟨g2, 0, none⟩) (n + 1) c2)) ho3 fun g hg => by
      have : g = g1 := by simpa [Value.ownBlock] using hg.symm
      subst this
      exact set_other hne1)
  have ha4 := Lib.hid (own_same (w' := w3.setCell ⟨p, 3, none⟩ (.slice (some ⟨g2, 0, none⟩) (n + 1) c2)) ho2 fun g hg => by
      have : g = g2 := by simpa [Value.ownBlock] using hg.symm
      subst this
      exact set_other hne2)
  have hS4 := Lib.hid (hS3.set (q := ⟨p, 3, none⟩) (.inl rfl) (.slice (some ⟨g2, 0, none⟩) (n + 1) c2))
  clear r3' r2' fp2 hO2 hd2 hbx2 hrs2 hat2 hg2 hd3 hbx3 hrs3 ho3 ho2 hS3 hS2 ho1
  go_wp2_with fail
  obtain ⟨W4, hW4⟩ : ∃ W4, W4 = w3.setCell ⟨p, 3, none⟩ (.slice (some ⟨g2, 0, none⟩) (n + 1) c2) := ⟨_, rfl⟩
  have hz4 : W4.heap.size = w3.heap.size := by rw [hW4]; simp
  rw [← hW4] at hd4 hbx4 hrs4 ho4 ha4 hS4 ⊢
  clear hW4
  have t0 : W4.cell? ⟨w.heap.size, 0, none⟩ = some (.int .u8 kx) := hbx4.out.cell (i := 0) (by omega)
  have t1 : W4.cell? ⟨p, 2, none⟩ = some (.slice (some ⟨g1, 0, none⟩) (n + 1) c1) := hd4.out.cell (i := 2) (by omega)
  have u0 : W4.cell? ⟨w.heap.size + 1, 0, none⟩ = some (.int .u8 0) := hrs4.out.cell (i := 0) (by omega)
  have u1 : W4.cell? ⟨w.heap.size + 1, 1, none⟩ = some (.int .i64 0) := hrs4.out.cell (i := 1) (by omega)
  have u2 : W4.cell? ⟨w.heap.size + 1, 2, none⟩ = some (.int .i64 0) := hrs4.out.cell (i := 2) (by omega)
  have u3 : W4.cell? ⟨w.heap.size + 1, 3, none⟩ = some (.int .i64 0) := hrs4.out.cell (i := 3) (by omega)
  have fu : ∀ o, W4.frozen? ⟨w.heap.size + 1, o, none⟩ = false := fun o => hrs4.out.frozen o
  replace hz4 := Lib.hid hz4
  clear r33 fp3
  go_region
  go_wp2_with fail
  have hE : ∀ b, b ≠ w.heap.size + 1 → (((((W4.setCell ⟨w.heap.size + 1, 0, none⟩ (.int .u8 kx)).setCell ⟨w.heap.size + 1, 1, none⟩ (.int .i64 ((n : Int) + 1))).setCell ⟨w.heap.size + 1, 2, none⟩ (.int .i64 0)).setCell ⟨w.heap.size + 1, 3, none⟩ (.int .i64 0)).drew).heap[b]? = W4.heap[b]? := fun b hb =>
    (set_other (w := ((W4.setCell ⟨w.heap.size + 1, 0, none⟩ (.int .u8 kx)).setCell ⟨w.heap.size + 1, 1, none⟩ (.int .i64 ((n : Int) + 1))).setCell ⟨w.heap.size + 1, 2, none⟩ (.int .i64 0)) (q := ⟨w.heap.size + 1, 3, none⟩) hb).trans ((set_other (q := ⟨w.heap.size + 1, 2, none⟩) hb).trans ((set_other (q := ⟨w.heap.size + 1, 1, none⟩) hb).trans (set_other (q := ⟨w.heap.size + 1, 0, none⟩) hb)))
  have hq1 : g1 ≠ w.heap.size + 1 := by
    rcases hat1'.out with h | h
    · have := hoO.out g1 h; omega
    · omega
  have hq2 : g2 ≠ w.heap.size + 1 := by
    rcases hat2'.out with h | h
    · have := haO.out g2 h; omega
    · omega
  refine bodyPost_ret (v := .agg #[.int .u8 kx, .int .i64 ((n : Int) + 1), .int .i64 0, .int .i64 0]) (by simp [results, Try.results42, go_sem, u0, u1, u2, u3]) rfl ⟨g1, c1, g2, c2, rfl, ?_⟩
  have hsz : (((((W4.setCell ⟨w.heap.size + 1, 0, none⟩ (.int .u8 kx)).setCell ⟨w.heap.size + 1, 1, none⟩ (.int .i64 ((n : Int) + 1))).setCell ⟨w.heap.size + 1, 2, none⟩ (.int .i64 0)).setCell ⟨w.heap.size + 1, 3, none⟩ (.int .i64 0)).drew).heap.size = w3.heap.size := by
    rw [heap_drew]; simp [hz4.out]
  have hz4' := hz4.out
  refine ⟨⟨hS4.out.os, hS4.out.tape, hS4.out.output, by rw [hsz]; omega, fun b hb hs => (hE b (by omega)).trans (hS4.out.block b hb hs)⟩, hd4.out.of_block (hE p (by omega)), own_same ho4.out fun g hg => ?_, own_same ha4.out fun g hg => ?_,
    hat1'.out.imp id (fun h => by omega), hat2'.out.imp id (fun h => by omega), hne, by rw [hsz]; omega, by rw [hsz]; omega, hbx4.out.of_block (hE _ (by omega)), by rw [hsz]; omega⟩
  · have : g = g1 := by simpa [Value.ownBlock] using hg.symm
    subst this
    exact hE _ hq1
  · have : g = g2 := by simpa [Value.ownBlock] using hg.symm
    subst this
    exact hE _ hq2

end Go.Proofs.Ytfeeikajekemlaa
