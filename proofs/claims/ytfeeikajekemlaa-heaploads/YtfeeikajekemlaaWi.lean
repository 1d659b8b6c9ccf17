/-
  Contract of heap.lay: an object more. Conditions: as said.
-/
import Derived.Test.YtfeeikajekemlaaWh
namespace Go.Proofs.Ytfeeikajekemlaa
open Go.RowKit
set_option linter.unusedVariables false
set_option linter.unusedSimpArgs false

theorem ObjAt.keep {w w' : World} {own own' : Owns} {k i b vb : Nat} {al : Bool} {o : Ob} {x : Oc} (h : ObjAt w own k i b vb al o x) (hb : own' b = own b ∧ w'.heap[b]? = w.heap[b]?) (hv : x.n ≠ 0 → own' vb = own vb ∧ w'.heap[vb]? = w.heap[vb]?) : ObjAt w' own' k i b vb al o x :=
  ⟨h.row.of_block hb.2, h.kind, h.of, h.text, h.vals.of_block fun hn => (hv hn).2, fun e => ⟨by rw [hb.1]; exact (h.ownA e).1, fun hn => by rw [(hv hn).1]; exact (h.ownA e).2 hn⟩,
    fun e => ⟨by unfold Free; rw [hb.1]; exact (h.ownF e).1, fun hn => by unfold Free; rw [(hv hn).1]; exact (h.ownF e).2 hn⟩⟩
theorem ObjAt.lt {w : World} {own : Owns} {k i b vb : Nat} {al : Bool} {o : Ob} {x : Oc} (h : ObjAt w own k i b vb al o x) (hn : x.n ≠ 0) : vb < w.heap.size := by
  rcases h.vals.2.2 with h1 | ⟨_, h2⟩
  · exact absurd h1 hn
  · exact h2.lt
/-- An object's blocks play no part but as an object's. -/
theorem ObjAt.role {w : World} {own : Owns} {k i b vb : Nat} {al : Bool} {o : Ob} {x : Oc} (h : ObjAt w own k i b vb al o x) (hk : k ≠ 0) : (∀ r, r < 3 → own b ≠ (k, r)) ∧ (x.n ≠ 0 → ∀ r, r < 3 → own vb ≠ (k, r)) := by
  cases al with
  | true =>
    refine ⟨fun r hr e => ?_, fun hn r hr e => ?_⟩
    · rw [(h.ownA rfl).1] at e
      have := congrArg Prod.snd e
      simp at this; omega
    · rw [(h.ownA rfl).2 hn] at e
      have := congrArg Prod.snd e
      simp at this; omega
  | false =>
    refine ⟨fun r hr e => ?_, fun hn r hr e => ?_⟩
    · have := (h.ownF rfl).1
      unfold Free at this
      rw [e] at this
      exact hk this
    · have := (h.ownF rfl).2 hn
      unfold Free at this
      rw [e] at this
      exact hk this

theorem ob_app (L : List Ob) (o : Ob) (i : Nat) : ob (L ++ [o]) i = if i < L.length then ob L i else if i = L.length then o else ob0 := by
  unfold ob
  rw [List.getD_eq_getElem?_getD, List.getD_eq_getElem?_getD]
  by_cases h : i < L.length
  · rw [if_pos h, List.getElem?_append_left h]
  · rw [if_neg h]
    by_cases e : i = L.length
    · rw [if_pos e, e, List.getElem?_append_right (Nat.le_refl _)]; simp
    · rw [if_neg e, List.getElem?_eq_none (by simp; omega)]; rfl
theorem ptrs_succ (bl : Nat → Nat) (n b : Nat) : ptrs bl n ++ [.pointer (some ⟨b, 0, none⟩)] = ptrs (fun i => if i < n then bl i else b) (n + 1) := by
  unfold ptrs
  rw [List.range_succ, List.map_append]
  congr 1
  · refine List.map_congr_left fun i hi => ?_
    have : i < n := by simpa using hi
    simp [this]
  · simp
theorem bools_succ (al : Nat → Bool) (n : Nat) (b : Bool) : bools al n ++ [.bool b] = bools (fun i => if i < n then al i else b) (n + 1) := by
  unfold bools
  rw [List.range_succ, List.map_append]
  congr 1
  · refine List.map_congr_left fun i hi => ?_
    have : i < n := by simpa using hi
    simp [this]
  · simp

/-- What a call that lays an object leaves. -/
def MadeP (w0 : World) (own : Owns) (k p room : Nat) (m : M) (w' : World) : Prop := ∃ own', Hp w' own' k p room m ∧ Fz w' own' ∧ Stp w0.heap.size k own own' w0 w'

theorem lay_made {w0 w w' : World} {own : Owns} {k p room : Nat} {m : M} {vo va : Value} {bl vb : Nat → Nat} {al : Nat → Bool} {xs : Nat → Oc} (h0 : HeapAt w0 own k p room m vo va bl vb al xs) (fz : Fz w0 own) (hb : Below w0.heap.size w0 w)
    (x : Oc) (o : Ob) (vbx : Nat) (hx : VA w x vbx o.vals) (hv : x.n ≠ 0 → w0.heap.size ≤ vbx) (hk1 : x.kind = o.kind) (hk2 : x.of = o.of) (hk3 : x.text = o.text) (hfit : addB room m o = true) (hmay : mayB o = true) {g1 c1 g2 c2 : Nat}
    (L : LayW w w' p room m.cells m.L.length (partC x) vo va (ptrs bl m.L.length) (bools al m.L.length) x g1 c1 g2 c2) : MadeP w0 own k p room (mkM m o) w' := by
  have hk := h0.k0
  have hp := h0.hd.lt
  have hsz := hb.size
  have hbig := L.big
  have hvo : ∀ g, vo.ownBlock = some g → g < w0.heap.size := fun g hg => (h0.obs.lt g hg).2
  have hva : ∀ g, va.ownBlock = some g → g < w0.heap.size := fun g hg => (h0.als.lt g hg).2
  have hvx : x.n ≠ 0 → vbx < w.heap.size := fun hn => by
    rcases hx.2.2 with h1 | ⟨_, h2⟩
    · exact absurd h1 hn
    · exact h2.lt
  obtain ⟨own', hown⟩ : ∃ own' : Owns, own' = fun b => if b = g1 then (k, 1) else if b = g2 then (k, 2) else if b = w.heap.size then (k, 3 + 2 * m.L.length) else if x.n ≠ 0 ∧ b = vbx then (k, 4 + 2 * m.L.length) else own b := ⟨_, rfl⟩
  have hold : ∀ b, b < w0.heap.size → own' b = own b := fun b hbb => by
    rw [hown]
    simp only
    by_cases e1 : b = g1
    · rw [if_pos e1]
      rcases L.b1 with h | h
      · rw [e1]; exact (h0.obO g1 h).symm
      · omega
    · rw [if_neg e1]
      by_cases e2 : b = g2
      · rw [if_pos e2]
        rcases L.b2 with h | h
        · rw [e2]; exact (h0.alO g2 h).symm
        · omega
      · rw [if_neg e2, if_neg (by omega), if_neg (fun e => by have := hv e.1; omega)]
  have hS : ∀ b, (∀ r, r < 3 → own b ≠ (k, r)) → ¬ (b = p ∨ vo.ownBlock = some b ∨ va.ownBlock = some b) := fun b hr e => by
    rcases e with e | e | e
    · exact hr 0 (by omega) (e ▸ h0.hdO)
    · exact hr 1 (by omega) (h0.obO b e)
    · exact hr 2 (by omega) (h0.alO b e)
  have hsame : ∀ b, b < w0.heap.size → (∀ r, r < 3 → own b ≠ (k, r)) → w'.heap[b]? = w0.heap[b]? := fun b hbb hr => (L.oth.block b (by omega) (hS b hr)).trans (hb.block b hbb)
  have hnk : ∀ b, (own b).1 ≠ k → ∀ r, r < 3 → own b ≠ (k, r) := fun b hbk r _ e => hbk (by rw [e])
  have hvown : x.n ≠ 0 → own vbx = (0, 0) := fun hn => fz vbx (hv hn)
  have hcost : m.cells + (1 + partC x) = m.cells + cost o := by
    rw [part_cost hmay, partC, part, hk3, hx.1]; omega
  have hg1 : g1 ≠ w.heap.size := by
    rcases L.b1 with h | h
    · have := hvo g1 h; omega
    · omega
  have hg2 : g2 ≠ w.heap.size := by
    rcases L.b2 with h | h
    · have := hva g2 h; omega
    · omega
  have hLl : (mkM m o).L.length = m.L.length + 1 := by simp [mkM]
  refine ⟨own', ⟨.slice (some ⟨g1, 0, none⟩) (m.L.length + 1) c1, .slice (some ⟨g2, 0, none⟩) (m.L.length + 1) c2, fun i => if i < m.L.length then bl i else w.heap.size, fun i => if i < m.L.length then vb i else vbx,
    fun i => if i < m.L.length then al i else true, fun i => if i < m.L.length then xs i else x, ?_⟩, ?_, ?_⟩
  · refine ⟨hk, ok_mk h0.ok hfit hmay, h0.rm, ?_, by rw [hold p hp]; exact h0.hdO, ?_, ?_, ?_, ?_, ?_⟩
    · have := L.hd
      rw [hcost] at this
      exact this
    · rw [hLl, ← ptrs_succ]; exact L.o1
    · intro g hg
      have : g = g1 := by simpa [Value.ownBlock] using hg.symm
      rw [hown, this]; simp
    · rw [hLl, ← bools_succ]; exact L.o2
    · intro g hg
      have : g = g2 := by simpa [Value.ownBlock] using hg.symm
      rw [hown, this]; simp [L.ne.symm]
    · intro i hi
      rw [hLl] at hi
      show ObjAt w' own' k i (if i < m.L.length then bl i else w.heap.size) (if i < m.L.length then vb i else vbx) (if i < m.L.length then al i else true) (ob (m.L ++ [o]) i) (if i < m.L.length then xs i else x)
      rw [ob_app]
      by_cases hil : i < m.L.length
      · rw [if_pos hil, if_pos hil, if_pos hil, if_pos hil, if_pos hil]
        have ho := h0.at_ i hil
        have hr := ho.role hk
        exact ho.keep ⟨hold _ ho.row.lt, hsame _ ho.row.lt hr.1⟩ fun hn => ⟨hold _ (ho.lt hn), hsame _ (ho.lt hn) (hr.2 hn)⟩
      · obtain rfl : i = m.L.length := by omega
        rw [if_neg hil, if_neg hil, if_neg hil, if_neg hil, if_neg hil, if_pos rfl]
        refine ⟨L.bx, hk1, hk2, hk3, hx.of_block fun hn => L.oth.block vbx (hvx hn) (hS _ (hnk _ (by rw [hvown hn]; exact fun e => hk e.symm))), fun _ => ⟨?_, fun hn => ?_⟩, fun e => by cases e⟩
        · rw [hown]; simp [hg1.symm, hg2.symm]
        · have a1 : vbx ≠ g1 := fun e => by
            rcases L.b1 with h | h
            · have := h0.obO g1 h
              rw [← e, hvown hn] at this
              exact hk (congrArg Prod.fst this).symm
            · have := hvx hn; omega
          have a2 : vbx ≠ g2 := fun e => by
            rcases L.b2 with h | h
            · have := h0.alO g2 h
              rw [← e, hvown hn] at this
              exact hk (congrArg Prod.fst this).symm
            · have := hvx hn; omega
          have a3 : vbx ≠ w.heap.size := by have := hvx hn; omega
          rw [hown]; simp [a1, a2, a3, hn]
  · intro b hbb
    have h1 := L.l1
    have h2 := L.l2
    have h3 := L.oth.size
    rw [hown]
    simp only
    rw [if_neg (by omega), if_neg (by omega), if_neg (by omega), if_neg (fun e => by have := hvx e.1; omega)]
    exact fz b (by omega)
  · exact ⟨L.oth.os.trans hb.os, L.oth.tape.trans hb.tape, L.oth.output.trans hb.output, Nat.le_trans hb.size L.oth.size, hold, fun b hbb hbk => hsame b hbb (hnk b hbk)⟩

theorem lay_any {w0 w : World} {own : Owns} {k p room : Nat} {m : M} (h0 : Hp w0 own k p room m) (fz : Fz w0 own) (hb : Below w0.heap.size w0 w)
    (x : Oc) (o : Ob) (vbx : Nat) (hx : VA w x vbx o.vals) (hv : x.n ≠ 0 → w0.heap.size ≤ vbx) (hk1 : x.kind = o.kind) (hk2 : x.of = o.of) (hk3 : x.text = o.text) (hfit : addB room m o = true) (hmay : mayB o = true) (ht : x.text.size ≤ 100000) (hxn : x.n ≤ 100000) :
    Calls Try.prog 42 #[.pointer (some ⟨p, 0, none⟩), ocV x] w fun e w' => e = .returned (vlV (mkV m o)) ∧ MadeP w0 own k p room (mkM m o) w' := by
  obtain ⟨vo, va, bl, vb, al, xs, h0⟩ := h0
  have h := h0.below hb
  have hlen := h.len
  have hC : m.cells ≤ 65536 := by have := h.ok.fits; have := h.rm; omega
  obtain ⟨a1, k1, rfl⟩ := own_form h.obs
  obtain ⟨a2, k2, rfl⟩ := own_form h.als
  refine (lay_walk p room m.cells m.L.length a1 a2 k1 k2 _ _ x w (Lib.hid h.hd) (Lib.hid h.obs) (Lib.hid h.als) (Lib.hid fun e => ?_) (Lib.hid fun e => ?_) (Lib.hid fun g hg e => ?_) hC hlen ht hxn).mono ?_
  · have := h.obO p e
    rw [h.hdO] at this
    simp at this
  · have := h.alO p e
    rw [h.hdO] at this
    simp at this
  · have h1 := h.obO g hg
    have h2 := h.alO g e
    rw [h1] at h2
    simp at h2
  · rintro e w' ⟨g1, c1, g2, c2, rfl, L⟩
    refine ⟨?_, lay_made h0 fz hb x o vbx hx hv hk1 hk2 hk3 hfit hmay L⟩
    simp [mkV, hk1]

end Go.Proofs.Ytfeeikajekemlaa
