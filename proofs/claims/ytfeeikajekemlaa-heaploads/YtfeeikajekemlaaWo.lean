/-
  Contract of heap.changeable; what a store into an object's values leaves. Conditions: as said.
-/
import Derived.Test.YtfeeikajekemlaaWn
import Derived.Test.YtfeeikajekemlaaFl
namespace Go.Proofs.Ytfeeikajekemlaa
open Go.RowKit
set_option linter.unusedVariables false
set_option linter.unusedSimpArgs false

def ChgH (w : World) (own : Owns) (k p room : Nat) (m : M) (i : Nat) (e : Ending) (w' : World) : Prop :=
  ∃ own' vo va bl vb al xs, e = .returned (.pointer (some ⟨bl i, 0, none⟩)) ∧ HeapAt w' own' k p room m vo va bl vb al xs ∧ al i = true ∧ Fz w' own' ∧ Stp w.heap.size k own own' w w'

theorem ptrs_set (bl : Nat → Nat) (n i b : Nat) : (ptrs bl n).set i (.pointer (some ⟨b, 0, none⟩)) = ptrs (fun j => if j = i then b else bl j) n := by
  apply List.ext_getElem
  · simp [ptrs]
  · intro j h1 h2
    simp only [ptrs, List.getElem_set, List.getElem_map, List.getElem_range]
    by_cases e : i = j
    · subst e; simp
    · rw [if_neg e, if_neg (fun z => e z.symm)]
theorem bools_set (al : Nat → Bool) (n i : Nat) (b : Bool) : (bools al n).set i (.bool b) = bools (fun j => if j = i then b else al j) n := by
  apply List.ext_getElem
  · simp [bools]
  · intro j h1 h2
    simp only [bools, List.getElem_set, List.getElem_map, List.getElem_range]
    by_cases e : i = j
    · subst e; simp
    · rw [if_neg e, if_neg (fun z => e z.symm)]

theorem chg_any {w : World} {own : Owns} {k p room : Nat} {m : M} (h : Hp w own k p room m) (fz : Fz w own) (i : Nat) (hi : i < m.L.length) :
    Calls Try.prog 46 #[.pointer (some ⟨p, 0, none⟩), .int .i64 ((i : Int) + 1)] w (ChgH w own k p room m i) := by
  obtain ⟨vo, va, bl, vb, al, xs, h⟩ := h
  have hlen := h.len
  have hk := h.k0
  obtain ⟨g1, c1, rfl, g0, hat⟩ := h.obj hi
  obtain ⟨g2, c2, rfl, _, _⟩ := h.als.form (by omega)
  have q2 : w.cell? ⟨p, 2, none⟩ = some (.slice (some ⟨g1, 0, none⟩) m.L.length c1) := h.hd.cell (i := 2) (by omega)
  have q3 : w.cell? ⟨p, 3, none⟩ = some (.slice (some ⟨g2, 0, none⟩) m.L.length c2) := h.hd.cell (i := 3) (by omega)
  have og1 := h.obO g1 rfl
  have og2 := h.alO g2 rfl
  have ob := h.at_ i hi
  have r2 : w.cell? ⟨g2, i, none⟩ = some (.bool (al i)) := by rw [h.als.cellAt i (by omega)]; exact bools_get al _ i hi
  cases hal : al i with
  | true =>
    rw [hal] at r2
    refine (chg_no p i m.L.length g1 g2 c1 c2 (bl i) w q2 q3 g0 r2 hi hlen).mono ?_
    rintro e w' ⟨rfl, rfl⟩
    exact ⟨own, _, _, bl, vb, al, xs, rfl, h, hal, fz, Stp.of_below (Below.refl _ _)⟩
  | false =>
    have n1 : g1 ≠ p := fun e => by rw [e, h.hdO] at og1; simp at og1
    have n2 : g2 ≠ p := fun e => by rw [e, h.hdO] at og2; simp at og2
    have n3 : g1 ≠ g2 := fun e => by rw [e, og2] at og1; simp at og1
    have hxn : (xs i).n ≤ 70000 := by
      have h1 := h.ok.fits
      have h2 := h.rm
      have h3 := part_cost (h.ok.may _ (ob_mem hi))
      have h4 : cost (Ytfeeikajekemlaa.ob m.L i) ≤ costs m.L := by
        have : ∀ (L : List Ob) (j : Nat), j < L.length → cost (Ytfeeikajekemlaa.ob L j) ≤ costs L := by
          intro L
          induction L with
          | nil => intro j hj; simp at hj
          | cons a L ih =>
            intro j hj
            cases j with
            | zero => simp [Ytfeeikajekemlaa.ob, costs]
            | succ j =>
              have := ih j (by simpa using hj)
              have e : Ytfeeikajekemlaa.ob (a :: L) (j + 1) = Ytfeeikajekemlaa.ob L j := by simp [Ytfeeikajekemlaa.ob]
              rw [e]; simp [costs]; omega
        exact this m.L i hi
      have h5 := h.ok.sum
      have h6 := ob.vals.1
      unfold part at h3
      omega
    refine (chg_walk p i m.L.length g1 g2 c1 c2 (bl i) _ _ (xs i) (Ytfeeikajekemlaa.ob m.L i).vals w q2 q3 (Lib.hid h.obs) (Lib.hid h.als) (Lib.hid (ptrs_get bl _ i hi)) (Lib.hid (by rw [bools_get al _ i hi, hal])) (Lib.hid hat) (Lib.hid ob.vals.1) (Lib.hid fun e => (ob.vals.2.1 e).1)
      (Lib.hid (va_rv ob.vals fun _ => trivial)) hxn hi hlen n1 n2 n3).mono ?_
    rintro e w' ⟨B, vbx, a, c, rfl, C⟩
    have hbl := C.bl
    have hbs := C.bs
    have hp := h.hd.lt
    have hg1 := (h.obs.lt g1 rfl).2
    have hg2 := (h.als.lt g2 rfl).2
    obtain ⟨own', hown⟩ : ∃ own' : Owns, own' = fun q => if q = B then (k, 3 + 2 * i) else if (xs i).n ≠ 0 ∧ q = vbx then (k, 4 + 2 * i) else own q := ⟨_, rfl⟩
    have hold : ∀ q, q < w.heap.size → own' q = own q := fun q hq => by
      rw [hown]
      simp only
      rw [if_neg (by omega), if_neg (fun e => by have := (C.vl e.1).1; omega)]
    have hsame : ∀ q, q < w.heap.size → (∀ r, r < 3 → own q ≠ (k, r)) → w'.heap[q]? = w.heap[q]? := fun q hq hr => C.oth.block q hq fun e => by
      rcases e with e | e
      · exact hr 1 (by omega) (e ▸ og1)
      · exact hr 2 (by omega) (e ▸ og2)
    refine ⟨own', .slice (some ⟨g1, 0, none⟩) m.L.length c1, .slice (some ⟨g2, 0, none⟩) m.L.length c2, fun j => if j = i then B else bl j, fun j => if j = i then vbx else vb j, fun j => if j = i then true else al j,
      fun j => if j = i then ⟨(xs i).kind, (xs i).of, (xs i).text, a, (xs i).n, c⟩ else xs j, by simp, ?_, by simp, ?_, ?_⟩
    · refine ⟨hk, h.ok, h.rm, h.hd.of_block (C.oth.block p hp fun e => e.elim (fun z => n1 z.symm) (fun z => n2 z.symm)), by rw [hold p hp]; exact h.hdO, by rw [← ptrs_set]; exact C.o1, ?_, by rw [← bools_set]; exact C.o2, ?_, ?_⟩
      · intro g hg
        have : g = g1 := by simpa [Value.ownBlock] using hg.symm
        rw [this, hold g1 hg1]; exact og1
      · intro g hg
        have : g = g2 := by simpa [Value.ownBlock] using hg.symm
        rw [this, hold g2 hg2]; exact og2
      · intro j hj
        by_cases e : j = i
        · subst e
          simp only [if_true]
          refine ⟨C.bx, ob.kind, ob.of, ob.text, C.va, fun _ => ⟨by rw [hown]; simp, fun hn => ?_⟩, fun z => by cases z⟩
          have := (C.vl hn).2
          rw [hown]; simp [this, hn]
        · simp only [if_neg e]
          have ho := h.at_ j hj
          have hr := ho.role hk
          exact ho.keep ⟨hold _ ho.row.lt, hsame _ ho.row.lt hr.1⟩ fun hn => ⟨hold _ (ho.lt hn), hsame _ (ho.lt hn) (hr.2 hn)⟩
    · intro q hq
      have h3 := C.oth.size
      rw [hown]
      simp only
      rw [if_neg (by omega), if_neg (fun e => by
        rcases C.va.2.2 with h1 | ⟨_, h2⟩
        · exact e.1 h1
        · have := h2.lt; omega)]
      exact fz q (by omega)
    · exact ⟨C.oth.os, C.oth.tape, C.oth.output, C.oth.size, hold, fun q hq hqk => hsame q hq fun r _ e => hqk (by rw [e])⟩

theorem Hp.put {w w' : World} {own : Owns} {k p room : Nat} {m : M} {vo va : Value} {bl vb : Nat → Nat} {al : Nat → Bool} {xs : Nat → Oc} (h : HeapAt w own k p room m vo va bl vb al xs) (i j : Nat) (v x : Vl) (hi : i < m.L.length) (hv : at_ v = i) (hT : putT m.L v (j : Int) = 0) (hal : al i = true) (hj : j < (xs i).n)
    (hO : Oth (fun b => b = vb i) w w') (hrow : w'.rowIs (vb i) 35 ((xs i).n * 4) (flV ((ob m.L i).vals.set j x))) : Hp w' own k p room (putM m v (j : Int) x) := by
  have hk := h.k0
  have hn : (xs i).n ≠ 0 := by omega
  have ho := h.at_ i hi
  have hov : own (vb i) = (k, 4 + 2 * i) := (ho.ownA hal).2 hn
  have hm : putM m v (j : Int) x = ⟨m.cells, m.L.set i (putO (ob m.L i) j x)⟩ := by unfold putM; rw [if_pos hT, hv]; rfl
  have hok := h.ok.put v (j : Int) x
  rw [hm] at hok ⊢
  have hLl : (m.L.set i (putO (ob m.L i) j x)).length = m.L.length := by simp
  have hne : ∀ q, own q ≠ (k, 4 + 2 * i) → q ≠ vb i := fun q hq e => hq (e ▸ hov)
  have hs : ∀ q, q < w.heap.size → own q ≠ (k, 4 + 2 * i) → w'.heap[q]? = w.heap[q]? := fun q hq hr => hO.block q hq (hne q hr)
  refine ⟨vo, va, bl, vb, al, xs, ⟨hk, hok, h.rm, h.hd.of_block (hs p h.hd.lt (by rw [h.hdO]; simp; omega)), h.hdO, ?_, h.obO, ?_, h.alO, ?_⟩⟩
  · show w'.ownsRow 0 83 1 vo (m.L.set i _).length (ptrs bl (m.L.set i _).length)
    rw [hLl]
    exact own_same h.obs fun g hg => hs g (h.obs.lt g hg).2 (by rw [h.obO g hg]; simp; omega)
  · show w'.ownsRow 0 4 1 va (m.L.set i _).length (bools al (m.L.set i _).length)
    rw [hLl]
    exact own_same h.als fun g hg => hs g (h.als.lt g hg).2 (by rw [h.alO g hg]; simp; omega)
  · intro q hq
    rw [hLl] at hq
    have hoq := h.at_ q hq
    have hob : ob (m.L.set i (putO (ob m.L i) j x)) q = if q = i then putO (ob m.L i) j x else ob m.L q := by
      unfold ob
      rw [List.getD_eq_getElem?_getD, List.getElem?_set]
      by_cases e : i = q
      · subst e; simp [hq]
      · rw [if_neg e, if_neg (fun z => e z.symm), List.getD_eq_getElem?_getD]
    show ObjAt w' own k q (bl q) (vb q) (al q) (ob (m.L.set i (putO (ob m.L i) j x)) q) (xs q)
    rw [hob]
    by_cases e : q = i
    · subst e
      rw [if_pos rfl]
      have hb : own (bl q) ≠ (k, 4 + 2 * q) := by rw [(ho.ownA hal).1]; simp
      refine ⟨ho.row.of_block (hs _ ho.row.lt hb), ho.kind, ho.of, ho.text, ⟨by simp [putO]; exact ho.vals.1, ho.vals.2.1, .inr ⟨?_, hrow⟩⟩, ho.ownA, ho.ownF⟩
      rcases ho.vals.2.2 with h1 | ⟨h1, _⟩
      · exact absurd h1 hn
      · exact h1
    · rw [if_neg e]
      have h1 : own (bl q) ≠ (k, 4 + 2 * i) := by
        cases ha : al q with
        | true => rw [(hoq.ownA ha).1]; simp; omega
        | false => exact fun z => by have := (hoq.ownF ha).1; unfold Free at this; rw [z] at this; exact hk this
      have h2 : (xs q).n ≠ 0 → own (vb q) ≠ (k, 4 + 2 * i) := fun hqn => by
        cases ha : al q with
        | true => rw [(hoq.ownA ha).2 hqn]; simp; omega
        | false => exact fun z => by have := (hoq.ownF ha).2 hqn; unfold Free at this; rw [z] at this; exact hk this
      exact hoq.keep ⟨rfl, hs _ hoq.row.lt h1⟩ fun hqn => ⟨rfl, hs _ (hoq.lt hqn) (h2 hqn)⟩

end Go.Proofs.Ytfeeikajekemlaa
