/-
  Copy: what is alone is cleared, the row of objects is cloned. Conditions: as said. Copy of a heap: both have the same objects, which are nobody's from then on. Conditions: as said. The walk of HeapCopies. Conditions: none.
-/
import Derived.Test.YtfeeikajekemlaaWo
import Derived.Lib.SliceRun
import Derived.Lib.LazyBuf
import Derived.Test.YtfeeikajekemlaaAl
import Derived.Deep.RegionHeld3
import Derived.Test.YtfeeikajekemlaaLp0
namespace Go.Proofs.Ytfeeikajekemlaa
section
open Go.RowKit
set_option linter.unusedVariables false
set_option linter.unusedSimpArgs false
set_option maxRecDepth 100000

theorem zero4 (w : World) : (zeroValue 4).run Try.prog w = .ok (.bool false) w := by kernel_rfl

theorem own_clear {g n c : Nat} : ∀ (r o : Nat) (w : World) (al : Nat → Bool), w.ownsRow 0 4 1 (.slice (some ⟨g, 0, none⟩) n c) n (bools al n) →
    (w.setCells g o (List.replicate r (.bool false))).ownsRow 0 4 1 (.slice (some ⟨g, 0, none⟩) n c) n (bools (fun j => if o ≤ j ∧ j < o + r then false else al j) n)
  | 0, o, w, al, h => by
    have e : (fun j => if o ≤ j ∧ j < o + 0 then false else al j) = al := by
      funext j; rw [if_neg (by omega)]
    rw [e]; exact h
  | r + 1, o, w, al, h => by
    have h1 := (h.stored o (.bool false)).1
    rw [bools_set] at h1
    have h2 := own_clear r (o + 1) _ _ h1
    have e : (fun j => if o + 1 ≤ j ∧ j < o + 1 + r then false else if j = o then false else al j) = (fun j => if o ≤ j ∧ j < o + (r + 1) then false else al j) := by
      funext j
      by_cases h0 : j = o
      · subst h0; rw [if_neg (by omega), if_pos rfl, if_pos (by omega)]
      · by_cases h1 : o + 1 ≤ j ∧ j < o + 1 + r
        · rw [if_pos h1, if_pos (by omega)]
        · rw [if_neg h1, if_neg h0, if_neg (by omega)]
    rw [e] at h2
    exact h2
theorem oth_setCells {g : Nat} : ∀ (vs : List Value) (o : Nat) (w : World), Oth (fun b => b = g) w (w.setCells g o vs)
  | [], o, w => Oth.refl _ w
  | v :: r, o, w => ((Oth.refl (fun b => b = g) w).set (q := ⟨g, o, none⟩) rfl v).trans (oth_setCells r (o + 1) _)

/-- What is alone no longer. -/
theorem clear_al {w : World} {va : Value} {n : Nat} {al : Nat → Bool} (h : w.ownsRow 0 4 1 va n (bools al n)) :
    ∃ w', (∀ ty, (Builtin.clear_ #[67] ty #[va]).run Try.prog w = .ok (.tuple #[]) w') ∧ w'.ownsRow 0 4 1 va n (bools (fun _ => false) n) ∧ Oth (fun b => va.ownBlock = some b) w w' := by
  by_cases h0 : n = 0
  · subst h0
    refine ⟨w, fun ty => ?_, by simpa [bools] using h, Oth.refl _ w⟩
    obtain ⟨a, c, rfl⟩ := own_form h
    cases a <;> simp [Builtin.clear_, run_underlying Try.underlying67]
  · have h' := h
    rcases h.2 with ⟨_, hn⟩ | ⟨g, cap, cur, rfl, _⟩
    · exact absurd hn h0
    · refine ⟨w.setCells g 0 (List.replicate n (.bool false)), fun ty => ?_, ?_, ?_⟩
      · exact Lib.run_clear_slice w 67 4 ty (.bool false) Try.underlying67 zero4 rfl rfl g 0 n cap (by omega) (fun j hj => by rw [Nat.zero_add, h'.cellAt j (by omega), bools_get _ _ _ hj]; rfl) (fun j hj => h'.frozenAt _)
      · have := own_clear n 0 w al h
        have e : bools (fun j => if 0 ≤ j ∧ j < 0 + n then false else al j) n = bools (fun _ => false) n := by
          unfold bools
          refine List.map_congr_left fun j hj => ?_
          have : j < n := by simpa using hj
          show Value.bool (if 0 ≤ j ∧ j < 0 + n then false else al j) = .bool false
          rw [if_pos (by omega)]
        rw [e] at this
        exact this
      · have := oth_setCells (g := g) (List.replicate n (.bool false)) 0 w
        exact ⟨this.os, this.tape, this.output, this.size, fun k hk hs => this.block k hk fun e => hs (by rw [e]; rfl)⟩


theorem own_none {w : World} : w.ownsRow w.heap.size 83 1 (.slice none 0 0) 0 [] := ⟨rfl, .inl ⟨rfl, rfl⟩⟩
theorem one_ptrs (bl : Nat → Nat) (n : Nat) : ∀ u ∈ ptrs bl n, u.oneCell' = true := fun u hu => by
  obtain ⟨j, _, rfl⟩ := List.mem_map.1 hu
  rfl
theorem one_bools (al : Nat → Bool) (n : Nat) : ∀ u ∈ bools al n, u.oneCell' = true := fun u hu => by
  obtain ⟨j, _, rfl⟩ := List.mem_map.1 hu
  rfl

set_option maxHeartbeats 2000000 in
theorem clone_any {w : World} {vo : Value} {n : Nat} {bl : Nat → Nat} (h : w.ownsRow 0 83 1 vo n (ptrs bl n)) (hn : n ≤ 1000000) :
    Calls Try.prog 47 #[vo] w fun e w' => ∃ v', e = .returned v' ∧ w'.ownsRow w.heap.size 83 1 v' n (ptrs bl n) ∧ Below w.heap.size w w' := by
  have h' := h
  rcases h.2 with ⟨rfl, rfl⟩ | ⟨g, cap, cur, rfl, _⟩
  · clear h
    have e1 : ∀ w : World, (binOp .eql 66 (.slice none 0 0) (.slice none 0 0)).run Try.prog w = .ok (.bool true) w := fun w => Go.run_eql_slice_nil w 66 83 none 0 0 Try.underlying66
    go_enter Try.func47, Try.ntmps47
    go_wp2_with fail
    go_ret
    exact ⟨_, rfl, own_none, Below.refl _ _⟩
  · replace h' := Lib.hid h'
    clear h
    obtain ⟨i0, hi0, hz0, hz1, hz2⟩ := info_parts Try.info83
    have hE : Hid ((w.alloc (.cells #[] 83)).ownsRow w.heap.size 83 1 (.slice (some ⟨w.heap.size, 0, none⟩) 0 0) 0 []) := Lib.hid (World.ownsRow_made w #[] 0 (Nat.le_refl _) (by decide) rfl)
    have hC : Hid (∀ (j : Nat) (y : Value), (ptrs bl n)[j]? = some y → (w.alloc (.cells #[] 83)).cell? ((⟨g, 0, none⟩ : Addr).add j) = some y) := Lib.hid fun j y hj => by
      rw [plain_add]
      have hjn : j < n := by
        have := (List.getElem?_eq_some_iff.1 hj).1
        simpa [ptrs] using this
      refine cell_alloc ?_ _
      rw [h'.out.cellAt j (by omega)]
      exact hj
    have e1 : ∀ w : World, (binOp .eql 66 (.slice (some ⟨g, 0, none⟩) n cap) (.slice none 0 0)).run Try.prog w = .ok (.bool false) w := fun w => Go.run_eql_slice_nil w 66 83 _ _ _ Try.underlying66
    go_enter Try.func47, Try.ntmps47
    go_wp2_with (refine wpList_append_own _ rfl (.tmp 5) (.tmp 6) 66 rfl w.heap.size 83 i0 _ 1 8 Try.underlying66 hi0 hz0 hz1 hz2 rfl (by decide) (.slice (some ⟨w.heap.size, 0, none⟩) 0 0) 0 [] rfl hE.out ⟨g, 0, none⟩ n cap (ptrs bl n) rfl (by simp [ptrs]) hC.out (one_ptrs bl n) (by unfold maxLen; omega) (by omega) (by simp) ?_; intro v' w' h1 h2 _; replace h1 := Lib.hid h1; replace h2 := Lib.hid h2)
    go_ret
    refine ⟨v', rfl, by simpa using h1.out, ?_⟩
    exact ((below_alloc w _).grown h2.out (by simp) fun r hr => (hE.out.lt r hr).1)
end
end Go.Proofs.Ytfeeikajekemlaa

namespace Go.Proofs.Ytfeeikajekemlaa
section
open Go.RowKit
set_option linter.unusedVariables false
set_option linter.unusedSimpArgs false
set_option maxRecDepth 100000

/-- What a copy leaves. -/
structure CopyW (w w' : World) (own own' : Owns) (k k2 p p2 room : Nat) (m : M) : Prop where
  h1 : Hp w' own' k p room m
  h2 : Hp w' own' k2 p2 room m
  fz : Fz w' own'
  os : w'.os = w.os
  tape : w'.tape = w.tape
  output : w'.output = w.output
  size : w.heap.size ≤ w'.heap.size
  keep : ∀ b, b < w.heap.size → (own b).1 ≠ k → own' b = own b ∧ w'.heap[b]? = w.heap[b]?
  new : w.heap.size ≤ p2
theorem rowIs_type {w : World} {b t n : Nat} {F : Nat → Value} (h : w.rowIs b t n F) : ∃ cs f, w.heap[b]? = some (.cells cs t f) := by
  obtain ⟨cs, h, _⟩ := h
  exact ⟨cs, _, h⟩
theorem own_type {w : World} {B e s n g : Nat} {v : Value} {l : List Value} (h : w.ownsRow B e s v n l) (hg : v.ownBlock = some g) : (∃ cs f, w.heap[g]? = some (.cells cs e f)) ∧ B ≤ g ∧ g < w.heap.size := by
  have hl := h.lt g hg
  refine ⟨?_, hl⟩
  rcases h.2 with ⟨rfl, _⟩ | ⟨g', cap, cur, rfl, hb, hgg, _⟩
  · simp [Value.ownBlock] at hg
  · simp [Value.ownBlock] at hg
    subst hg
    exact ⟨_, _, hgg⟩

theorem copy_end {w wC w' : World} {own : Owns} {k k2 p p2 room : Nat} {m : M} {vo va v2 va2 : Value} {bl vb : Nat → Nat} {al : Nat → Bool} {xs : Nat → Oc} (h : HeapAt w own k p room m vo va bl vb al xs) (fz : Fz w own) (hk2 : k2 ≠ 0)
    (hO : Oth (fun b => va.ownBlock = some b) w wC) (hA : wC.ownsRow 0 4 1 va m.L.length (bools (fun _ => false) m.L.length)) (hb : Below wC.heap.size wC w')
    (h1 : w'.ownsRow wC.heap.size 83 1 v2 m.L.length (ptrs bl m.L.length)) (h2 : w'.ownsRow wC.heap.size 4 1 va2 m.L.length (bools (fun _ => false) m.L.length)) (h3 : w'.rowIs p2 69 4 (hpF room m.cells v2 va2)) (hp2 : wC.heap.size ≤ p2) :
    ∃ own', CopyW w w' own own' k k2 p p2 room m := by
  have hs1 := hO.size
  have hs2 := hb.size
  obtain ⟨own', hown⟩ : ∃ own' : Owns, own' = fun b => if b = p2 then (k2, 0) else if v2.ownBlock = some b then (k2, 1) else if va2.ownBlock = some b then (k2, 2) else if (own b).1 = k ∧ 3 ≤ (own b).2 then (0, 0) else own b := ⟨_, rfl⟩
  have hk := h.k0
  have hlow : ∀ b, b < wC.heap.size → own' b = if (own b).1 = k ∧ 3 ≤ (own b).2 then (0, 0) else own b := fun b hlt => by
    rw [hown]
    have n1 : ¬ v2.ownBlock = some b := fun e => by have := (own_type h1 e).2; omega
    have n2 : ¬ va2.ownBlock = some b := fun e => by have := (own_type h2 e).2; omega
    simp only [if_neg n1, if_neg n2]
    rw [if_neg (by omega)]
  have hblk : ∀ b, b < w.heap.size → ¬ va.ownBlock = some b → w'.heap[b]? = w.heap[b]? := fun b hlt hn => (hb.block b (by omega)).trans (hO.block b hlt hn)
  have hva : ∀ b, va.ownBlock = some b → own b = (k, 2) := h.alO
  have hfree : ∀ b, b < w.heap.size → Free own b → Free own' b ∧ w'.heap[b]? = w.heap[b]? := fun b hlt hf => by
    unfold Free at hf
    refine ⟨?_, hblk b hlt fun e => by rw [hva b e] at hf; exact hk hf⟩
    unfold Free
    rw [hlow b (by omega), if_neg (by omega)]; exact hf
  have hrole : ∀ b r, b < w.heap.size → own b = (k, r) → 3 ≤ r → Free own' b ∧ w'.heap[b]? = w.heap[b]? := fun b r hlt hf hr => by
    refine ⟨?_, hblk b hlt fun e => by have := hva b e; rw [hf] at this; simp at this; omega⟩
    unfold Free
    rw [hlow b (by omega), if_pos (by rw [hf]; exact ⟨rfl, hr⟩)]
  have hkeepO : ∀ b r, b < w.heap.size → own b = (k, r) → r < 3 → own' b = (k, r) := fun b r hlt hf hr => by
    rw [hlow b (by omega), if_neg (by rw [hf]; simp; omega)]; exact hf
  have hat : ∀ kk i, i < m.L.length → ObjAt w' own' kk i (bl i) (vb i) false (ob m.L i) (xs i) := fun kk i hi => by
    have o := h.at_ i hi
    have hbl : Free own' (bl i) ∧ w'.heap[bl i]? = w.heap[bl i]? := by
      cases e : al i with
      | true => exact hrole _ _ o.row.lt (o.ownA e).1 (by omega)
      | false => exact hfree _ o.row.lt (o.ownF e).1
    have hvb : (xs i).n ≠ 0 → Free own' (vb i) ∧ w'.heap[vb i]? = w.heap[vb i]? := fun hn => by
      have hl : vb i < w.heap.size := by
        rcases o.vals.2.2 with z | ⟨_, z⟩
        · exact absurd z hn
        · exact z.lt
      cases e : al i with
      | true => exact hrole _ _ hl ((o.ownA e).2 hn) (by omega)
      | false => exact hfree _ hl ((o.ownF e).2 hn)
    exact ⟨o.row.of_block hbl.2, o.kind, o.of, o.text, o.vals.of_block fun hn => (hvb hn).2, (fun e => by cases e), fun _ => ⟨hbl.1, fun hn => (hvb hn).1⟩⟩
  refine ⟨own', ?_, ?_, ?_, hb.os.trans hO.os, hb.tape.trans hO.tape, hb.output.trans hO.output, by omega, fun b hlt hn => ⟨?_, ?_⟩, by omega⟩
  · refine ⟨vo, va, bl, vb, fun _ => false, xs, h.k0, h.ok, h.rm, ?_, hkeepO p 0 h.hd.lt h.hdO (by omega), ?_, fun g hg => hkeepO g 1 (h.obs.lt g hg).2 (h.obO g hg) (by omega), own_carry hA hb, fun g hg => hkeepO g 2 (h.als.lt g hg).2 (h.alO g hg) (by omega), hat k⟩
    · exact h.hd.of_block (hblk p h.hd.lt fun e => by have := hva p e; rw [h.hdO] at this; simp at this)
    · exact own_same h.obs fun g hg => hblk g (h.obs.lt g hg).2 fun e => by have := hva g e; rw [h.obO g hg] at this; simp at this
  · obtain ⟨cs3, f3, t3⟩ := rowIs_type h3
    refine ⟨v2, va2, bl, vb, fun _ => false, xs, hk2, h.ok, h.rm, h3, ?_, own_mono h1 (Nat.zero_le _), fun g hg => ?_, own_mono h2 (Nat.zero_le _), fun g hg => ?_, hat k2⟩
    · rw [hown]; simp
    · obtain ⟨⟨cs, f, t⟩, _⟩ := own_type h1 hg
      have : ¬ g = p2 := fun e => by rw [e, t3] at t; simp at t
      rw [hown]; simp [this, hg]
    · obtain ⟨⟨cs, f, t⟩, _⟩ := own_type h2 hg
      have n1 : ¬ g = p2 := fun e => by rw [e, t3] at t; simp at t
      have n2 : ¬ v2.ownBlock = some g := fun e => by
        obtain ⟨⟨cs', f', t'⟩, _⟩ := own_type h1 e
        rw [t'] at t; simp at t
      rw [hown]; simp [n1, n2, hg]
  · intro b hb'
    have n1 : ¬ v2.ownBlock = some b := fun e => by have := (own_type h1 e).2; omega
    have n2 : ¬ va2.ownBlock = some b := fun e => by have := (own_type h2 e).2; omega
    have n3 : ¬ b = p2 := fun e => by have := h3.lt; omega
    have e := fz b (by omega)
    rw [hown]; simp only [if_neg n1, if_neg n2, if_neg n3]
    rw [e, if_neg (by simp)]
  · rw [hlow b (by omega), if_neg (by omega)]
  · exact hblk b hlt fun e => hn (by rw [hva b e])


theorem heap_len {w : World} {own : Owns} {k p room : Nat} {m : M} (h : Hp w own k p room m) : m.L.length ≤ 65536 := by
  obtain ⟨vo, va, bl, vb, al, xs, h⟩ := h
  have h1 := costs_len m.L
  have h2 := h.ok.sum
  have h3 := h.ok.fits
  have h4 := h.rm
  omega
theorem own_made (w : World) (n : Nat) (hn : n ≤ 65536) : (w.alloc (.cells (madeCells #[.bool false] n) 4)).ownsRow w.heap.size 4 1 (.slice (some ⟨w.heap.size, 0, none⟩) n n) n (bools (fun _ => false) n) := by
  refine ⟨by simp [bools], .inr ⟨w.heap.size, n, _, rfl, Nat.le_refl _, heap_alloc_new w _, Nat.le_refl _, ?_, ?_, ?_⟩⟩
  · unfold maxLen; omega
  · simp [size_madeCells]
  · have e : (madeCells #[Value.bool false] n).toList = bools (fun _ => false) n := by
      refine List.ext_getElem (by simp [bools, size_madeCells]) fun i h1 h2 => ?_
      simp [madeCells, bools, Nat.mod_one]
    rw [e, Nat.mul_one]
    exact List.take_of_length_le (by simp [bools])
theorem hp_row (w : World) (room mc : Nat) (v2 va2 : Value) : (w.alloc (.cells #[.int .i64 room, .int .i64 (mc : Nat), v2, va2] 69)).rowIs w.heap.size 69 4 (hpF room mc v2 va2) :=
  World.rowIs_alloc w #[.int .i64 room, .int .i64 (mc : Nat), v2, va2] 69 _ (fun i hi => by
    have : i < 4 := hi
    match i, this with
    | 0, _ => rfl
    | 1, _ => rfl
    | 2, _ => rfl
    | 3, _ => rfl)
def CopyP (w : World) (own : Owns) (k k2 p room : Nat) (m : M) (e : Ending) (w' : World) : Prop :=
  ∃ p2 own', e = .returned (.pointer (some ⟨p2, 0, none⟩)) ∧ CopyW w w' own own' k k2 p p2 room m

set_option maxHeartbeats 4000000 in
/-- Copy. -/
theorem copy_any {w : World} {own : Owns} {k p room : Nat} {m : M} (h : Hp w own k p room m) (fz : Fz w own) (k2 : Nat) (hk2 : k2 ≠ 0) :
    Calls Try.prog 22 #[.pointer (some ⟨p, 0, none⟩)] w (CopyP w own k k2 p room m) := by
  obtain ⟨vo, va, bl, vb, al, xs, h⟩ := h
  obtain ⟨wC, hcl, hA, hO⟩ := clear_al h.als
  have hlen : m.L.length ≤ 65536 := heap_len ⟨_, _, _, _, _, _, h⟩
  have hpne : ¬ va.ownBlock = some p := fun e => by have := h.alO p e; rw [h.hdO] at this; simp at this
  have hdC : wC.rowIs p 69 4 (hpF room m.cells vo va) := h.hd.of_block (hO.block p h.hd.lt hpne)
  have hobC : wC.ownsRow 0 83 1 vo m.L.length (ptrs bl m.L.length) := own_same h.obs fun g hg => hO.block g (h.obs.lt g hg).2 fun e => by have := h.alO g e; rw [h.obO g hg] at this; simp at this
  have q3 : w.cell? ⟨p, 3, none⟩ = some va := h.hd.cell (i := 3) (by omega)
  have c0 : wC.cell? ⟨p, 0, none⟩ = some (.int .i64 room) := hdC.cell (i := 0) (by omega)
  have c1 : wC.cell? ⟨p, 1, none⟩ = some (.int .i64 (m.cells : Nat)) := hdC.cell (i := 1) (by omega)
  have c2 : wC.cell? ⟨p, 2, none⟩ = some vo := hdC.cell (i := 2) (by omega)
  have HE := Lib.hid fun w' v2 va2 p2 hb h1 h2 h3 hp2 => copy_end (w' := w') (v2 := v2) (va2 := va2) (p2 := p2) h fz hk2 hO hA hb h1 h2 h3 hp2
  have HC := Lib.hid fun w' hb => clone_any (own_carry (w' := w') hobC hb) (by omega)
  have lt1 := hdC.lt
  have hmk : ∀ w : World, (Instr.makeSlice 67 (.int .i64 (m.L.length : Int)) (.int .i64 (m.L.length : Int))).run Try.prog w = .ok (.slice (some ⟨w.heap.size, 0, none⟩) m.L.length m.L.length) (w.alloc (.cells (madeCells #[.bool false] (m.L.length * 1)) 4)) := fun w => by
    obtain ⟨i0, hi0, hz0, hz1, hz2⟩ := info_parts Try.info4
    have := run_make (P := Try.prog) w 67 4 i0 _ Try.underlying67 hi0 hz0 .i64 .i64 m.L.length m.L.length (by omega) (Int.le_refl _) (by rw [hz2]; omega) (by omega)
    rw [hz1] at this
    simpa [Value.cells] using this
  obtain ⟨A, cA, hvo⟩ := own_form h.obs
  obtain ⟨n, hn⟩ : ∃ n, m.L.length = n := ⟨_, rfl⟩
  obtain ⟨mc, hmc⟩ : ∃ mc, m.cells = mc := ⟨_, rfl⟩
  rw [hn] at hvo hlen
  subst hvo
  rw [hn] at hmk HE HC
  rw [hmc] at c1 HE
  clear h hO hA hdC hobC hpne fz
  go_enter Try.func22, Try.ntmps22
  go_wp2_with (simp only [hcl])
  go_region_held3 (fun w' => w'.cell? ⟨p, 0, none⟩ = some (.int .i64 room) ∧ w'.cell? ⟨p, 1, none⟩ = some (.int .i64 (mc : Nat)) ∧ w'.cell? ⟨p, 2, none⟩ = some (.slice A n cA)) (first | go_keep | exact ⟨d0, d1, d2⟩) (first | (go_at_call 47; refine (HC.out _ (by go_grown)).mono ?_; rintro e w2 ⟨v2, rfl, ho2, hb2⟩; obtain ⟨a2, cc2, rfl⟩ := own_form ho2; have hB2 := (below_step (by go_grown) hb2 : Below wC.heap.size wC w2); have d0 := cell_carry hB2 c0; have d1 := cell_carry hB2 c1; have d2 := cell_carry hB2 c2; have dl : p < w2.heap.size := (by have := hB2.size; omega); replace ho2 := Lib.hid ho2; have hb3 := Lib.hid hb2; clear hb2))
  · have hz : wC.heap.size ≤ w2.heap.size := hB2.size
    have hW := HE.out ((w2.alloc (.cells (madeCells #[.bool false] n) 4)).alloc (.cells #[.int .i64 room, .int .i64 (mc : Nat), .slice a2 n cc2, .slice (some ⟨w2.heap.size, 0, none⟩) n n] 69)) (.slice a2 n cc2) (.slice (some ⟨w2.heap.size, 0, none⟩) n n) (w2.heap.size + 1)
      ((hB2.alloc hB2.size _).alloc (by simp; omega) _) (own_carry (own_mono ho2.out (by simp)) ((below_alloc _ _).alloc (by simp) _)) (own_carry (own_mono (own_made w2 n hlen) hz) (below_alloc _ _)) (by have := hp_row (w2.alloc (.cells (madeCells #[.bool false] n) 4)) room mc (.slice a2 n cc2) (.slice (some ⟨w2.heap.size, 0, none⟩) n n); simpa using this) (by omega)
    obtain ⟨own', hW⟩ := hW
    replace hW := Lib.hid hW
    clear HE HC hmk
    go_wp2_with fail
    go_ret
    exact ⟨_, own', rfl, hW.out⟩
  · have hz : wC.heap.size ≤ w2.heap.size := hB2.size
    have hA2 : w2.ownsRow wC.heap.size 4 1 (.slice (some ⟨wC.heap.size, 0, none⟩) n n) n (bools (fun _ => false) n) := own_carry (show (World.drew (wC.alloc (.cells (madeCells #[.bool false] n) 4))).ownsRow wC.heap.size 4 1 (.slice (some ⟨wC.heap.size, 0, none⟩) n n) n (bools (fun _ => false) n) from own_made wC n hlen) (by have := hb3.out; simpa only [Nat.mul_one] using this)
    have hW := HE.out (w2.alloc (.cells #[.int .i64 room, .int .i64 (mc : Nat), .slice a2 n cc2, .slice (some ⟨wC.heap.size, 0, none⟩) n n] 69)) (.slice a2 n cc2) (.slice (some ⟨wC.heap.size, 0, none⟩) n n) w2.heap.size
      (hB2.alloc hB2.size _) (own_carry (own_mono ho2.out (by simp)) (below_alloc _ _)) (own_carry hA2 (below_alloc _ _)) (hp_row w2 room mc (.slice a2 n cc2) (.slice (some ⟨wC.heap.size, 0, none⟩) n n)) hz
    obtain ⟨own', hW⟩ := hW
    replace hW := Lib.hid hW
    clear HE HC hmk
    go_wp2_with fail
    go_ret
    exact ⟨_, own', rfl, hW.out⟩
end
end Go.Proofs.Ytfeeikajekemlaa

namespace Go.Proofs.Ytfeeikajekemlaa
section
open Go.RowKit
set_option linter.unusedVariables false
set_option linter.unusedSimpArgs false
set_option maxRecDepth 100000

/-- The others' things behind a copy. -/
theorem Cx.copy {B0 : Nat} {w0 w w' : World} {own own' : Owns} {k k2 p p2 room : Nat} {m : M} (h : Cx B0 w0 w own) (s : CopyW w w' own own' k k2 p p2 room m) (hk : k ≠ 0) : Cx B0 w0 w' own' := by
  have hF : ∀ b, b < w.heap.size → Free own b → own' b = own b ∧ w'.heap[b]? = w.heap[b]? := fun b hb hf => s.keep b hb (by unfold Free at hf; omega)
  have hs := s.size
  refine ⟨Nat.le_trans h.le hs, h.bel.trans ⟨s.os, s.tape, s.output, s.size, fun b hb => (hF b (Nat.lt_of_lt_of_le hb h.le) (h.free b hb)).2⟩, fun b hb => ?_, s.fz⟩
  unfold Free
  rw [(hF b (Nat.lt_of_lt_of_le hb h.le) (h.free b hb)).1]
  exact h.free b hb
theorem Tb.copy {w w' : World} {own own' : Owns} {k k2 p p2 room t : Nat} {F : Nat → Value} {m : M} {a : Option Addr} {n c : Nat} (h : Tb w own k p room t F m a n c) (s : CopyW w w' own own' k k2 p p2 room m) : Tb w' own' k p room t F m a n c := by
  have hk := h.hp.k0
  have hb := s.keep t h.box.lt (by rw [h.lab]; simp)
  exact ⟨s.h1, h.box.of_block hb.2, by rw [hb.1]; exact h.lab, h.rl.kp fun b hlt hf => by
    have := s.keep b hlt (by unfold Free at hf; omega)
    exact ⟨by unfold Free; rw [this.1]; exact hf, this.2⟩⟩
theorem oth_own {own : Owns} {q k b : Nat} (h : own q = (0, 0)) (hk : k ≠ 0) : ownQ q k own b = if b = q then (k + 9, 0) else own b := by simp [ownQ]

/-- The second one's box is made: it holds the same list. -/
theorem lp_second {B0 : Nat} {w0 w : World} {own : Owns} {k k2 p p2 room t : Nat} {m : M} {a : Option Addr} {n c : Nat} (hL : Lp w own k p room t m a n c) (h2 : Hp w own k2 p2 room m) (hC : Cx B0 w0 w own) (h29 : k ≠ k2 + 9) (h22 : k2 ≠ k + 9) (hkk : k + 9 ≠ k2 + 9) :
    Lp (w.alloc (.cells #[.int .i64 room, .int .i64 (m.cells : Nat), .slice a n c] 31)) (ownQ w.heap.size k2 own) k p room t m a n c ∧ Lp (w.alloc (.cells #[.int .i64 room, .int .i64 (m.cells : Nat), .slice a n c] 31)) (ownQ w.heap.size k2 own) k2 p2 room w.heap.size m a n c ∧ Cx B0 w0 (w.alloc (.cells #[.int .i64 room, .int .i64 (m.cells : Nat), .slice a n c] 31)) (ownQ w.heap.size k2 own) := by
  have hb : Below w.heap.size w (w.alloc (.cells #[.int .i64 room, .int .i64 (m.cells : Nat), .slice a n c] 31)) := below_alloc _ _
  have hx := hp_box h2 hC.fz hb (Nat.le_refl _) (by simp)
  have hq : own w.heap.size = (0, 0) := hC.fz _ (Nat.le_refl _)
  have kq : Kp (Free own) (Free (ownQ w.heap.size k2 own)) w (w.alloc (.cells #[.int .i64 room, .int .i64 (m.cells : Nat), .slice a n c] 31)) := fun b hb' hp => ⟨by unfold Free; rw [ownQ_ne (by omega)]; exact hp, hb.block b hb'⟩
  have hlt := hL.box.lt
  have hle := hC.le
  refine ⟨⟨?_, hL.box.of_block (hb.block _ hlt), by rw [ownQ_ne (by omega)]; exact hL.lab, hL.rl.kp kq⟩, ⟨hx.1, ?_, ownQ_q _ _ _, hL.rl.kp kq⟩, ⟨by simp; omega, hC.bel.trans (hb.mono hle), fun b hb' => ?_, hx.2⟩⟩
  · exact hL.hp.keep hb.size hb.os hb.tape hb.output fun b hb' _ => ⟨ownQ_ne (by omega), hb.block b hb'⟩
  · exact (h_box w room (m.cells : Nat) (.slice a n c)).congr fun j hj => by simp only [hF]
  · unfold Free
    rw [ownQ_ne (by omega)]; exact hC.free b hb'

/-- One heap's step, and its box's new list, leave the other as it was. -/
theorem lp_other {w w3 : World} {own own2 : Owns} {j k p pj room t tj n c n2 c2 : Nat} {F : Nat → Value} {m mj : M} {a a2 : Option Addr} (h2 : Lp w own j pj room tj mj a n c) (s : Stp w.heap.size k own own2 w w3) (hT : Tb w3 own2 k p room t F m a2 n2 c2) (hjk : j ≠ k) (hk : k ≠ 0) (hj9 : j + 9 ≠ k) (hk9 : k + 9 ≠ j) (ht : t ≠ tj) (u0 u1 u2 : Value) :
    Lp (((w3.setCell ⟨t, 0, none⟩ u0).setCell ⟨t, 1, none⟩ u1).setCell ⟨t, 2, none⟩ u2) own2 j pj room tj mj a n c :=
  (h2.other s hjk hk hj9).oth (oth3 w3 t u0 u1 u2) fun b hb => by rw [hb, hT.lab]; exact ⟨hk9, by simp, ht⟩

set_option maxHeartbeats 16000000 in
theorem heapCopies_walk (W : World) (a : Option Addr) (len cap : Nat) (l : List Op) (z : l.length = len ∧ RP W a l op0) (ah : Option Addr) (lenh caph : Nat) (lh : List Op) (zh : lh.length = lenh ∧ RP W ah lh op0) (at' : Option Addr) (lent capt : Nat) (lt : List Op) (zt : lt.length = lent ∧ RP W at' lt op0) :
    Calls Try.prog 7 #[.slice a len cap, .slice ah lenh caph, .slice at' lent capt] W fun e w' => e = .returned (.bool true) ∧ Below W.heap.size W w' := by
  obtain ⟨hl, h⟩ := z
  obtain ⟨hlh, hh⟩ := zh
  obtain ⟨hlt', ht⟩ := zt
  have HA := Lib.hid fun w' => awake_any w'
  obtain ⟨room, hroom⟩ : ∃ r : Nat, r = 2000 := ⟨_, rfl⟩
  have er : (2000 : Int) = (room : Int) := by omega
  have HN := new_ok room W (by omega) own00 1 (by omega) (fz00 W)
  rw [← er] at HN
  replace h := Lib.hid h
  replace hh := Lib.hid hh
  replace ht := Lib.hid ht
  replace HN := Lib.hid HN
  replace er := Lib.hid er
  clear hroom
  go_enter Try.func7, Try.ntmps7
  go_wp2_with ((with_reducible refine HN.out.mono ?_); rintro e w1 ⟨rfl, own1, h1, f1, s1, hb1⟩; have HG := Lib.hid (great_any a len cap l hl w1 (rp_carry h.out hb1)); have HG2 := Lib.hid (great_any ah lenh caph lh hlh w1 (rp_carry hh.out hb1)); have HG3 := Lib.hid (great_any at' lent capt lt hlt' w1 (rp_carry ht.out hb1)); replace h1 := Lib.hid h1; replace f1 := Lib.hid f1; replace s1 := Lib.hid s1; replace hb1 := Lib.hid hb1)
  refine HG.out.mono ?_
  rintro e w2 ⟨g1, rfl, hg1, rfl⟩
  cases g1
  case true =>
    go_wp2_with ((with_reducible refine (HA.out _).mono ?_); rintro e w3 ⟨rfl, hb⟩)
    go_ret
    exact ⟨rfl, below_step hb1.out hb⟩
  case false =>
  have hcalm := Lib.hid (hg1 rfl)
  clear hg1 HG
  go_wp2_with fail
  refine HG2.out.mono ?_
  rintro e w2 ⟨g2, rfl, hg2, rfl⟩
  cases g2
  case true =>
    go_wp2_with ((with_reducible refine (HA.out _).mono ?_); rintro e w3 ⟨rfl, hb⟩)
    go_ret
    exact ⟨rfl, below_step hb1.out hb⟩
  case false =>
  have hcalmh := Lib.hid (hg2 rfl)
  clear hg2 HG2
  go_wp2_with fail
  refine HG3.out.mono ?_
  rintro e w2 ⟨g3, rfl, hg3, rfl⟩
  cases g3
  case true =>
    go_wp2_with ((with_reducible refine (HA.out _).mono ?_); rintro e w3 ⟨rfl, hb⟩)
    go_ret
    exact ⟨rfl, below_step hb1.out hb⟩
  case false =>
    have hcalmt := Lib.hid (hg3 rfl)
    clear hg3 HG3
    go_wp2_with fail
    obtain ⟨hL0, hC0⟩ := lp_start (p := W.heap.size) h1.out f1.out s1.out
    have hlen60 : len ≤ 60 := by rw [← hl]; exact hcalm.out.1
    have hlenh60 : lenh ≤ 60 := by rw [← hlh]; exact hcalmh.out.1
    have hlent60 : lent ≤ 60 := by rw [← hlt']; exact hcalmt.out.1
    obtain ⟨W2, hW2⟩ : ∃ W2, W2 = w1.alloc (.cells #[.int .i64 2000, .int .i64 0, .slice none 0 0] 31) := ⟨_, rfl⟩
    rw [← hW2]
    rw [er.out] at hW2
    rw [← hW2] at hL0 hC0
    clear hW2
    replace hL0 := Lib.hid hL0
    replace hC0 := Lib.hid hC0
    replace hl := Lib.hid hl
    replace hlh := Lib.hid hlh
    replace hlt' := Lib.hid hlt'
    clear h1 f1 s1 hb1 HN
    go_loopw [10] (fun j wr => ∃ q own m a' n' c', q ≤ len ∧ j = .int .i64 q ∧ Hid (Lp wr own 1 W.heap.size room w1.heap.size m a' n' c') ∧ Hid (Cx W.heap.size W wr own)) (fun j _ => len - (intOf j).toNat)
    case atStart => exact ⟨0, _, _, _, _, _, Nat.zero_le _, rfl, hL0, hC0⟩
    case round =>
      obtain ⟨q, own, m, a', n', c', hq, rfl, hL, hC⟩ := hrel
      clear hL0 hC0
      have x0 := Lp.c0 hL.out
      have x1 := Lp.c1 hL.out
      have x2 := Lp.c2 hL.out
      by_cases hlt : q < len
      · obtain ⟨b, o, ad, n, c, rfl, hat, hn, hz, hr⟩ := h.out q (by rw [hl.out]; exact hlt)
        have hc2 := calm_at hcalm.out (i := q) (by rw [hl.out]; exact hlt)
        replace hat := hat.carry hC.out.bel
        replace hr := hC.out.rv rfl hr
        obtain ⟨op, hop⟩ : ∃ y, l.getD q op0 = y := ⟨_, rfl⟩
        rw [hop] at hat hn hr hc2
        clear hop
        obtain ⟨m', hm'⟩ : ∃ m', stepM room m op = m' := ⟨_, rfl⟩
        have K2 := Lib.hid fun (w' : World) (hb : Below wr.heap.size wr w') => does_b hL.out hC.out op ad n c hn hz hr hc2.1 (by omega) hb
        rw [hm'] at K2
        clear hm'
        obtain ⟨kd, f, i, s, ⟨kv, nv, rv, iv⟩, ⟨kx, nx, rx, ix⟩, vs⟩ := op
        have c0 : wr.cell? ⟨b, o + q * 13, none⟩ = some (.int .i64 kd) := hat.all 0 (by omega)
        have c1 : wr.cell? ⟨b, o + q * 13 + 1, none⟩ = some (.int .i64 f) := hat.all 1 (by omega)
        have c2 : wr.cell? ⟨b, o + q * 13 + 2, none⟩ = some (.int .i64 i) := hat.all 2 (by omega)
        have c3 : wr.cell? ⟨b, o + q * 13 + 3, none⟩ = some (.string s) := hat.all 3 (by omega)
        have c4 : wr.cell? ⟨b, o + q * 13 + 4, none⟩ = some (.int .u8 kv) := hat.all 4 (by omega)
        have c5 : wr.cell? ⟨b, o + q * 13 + 5, none⟩ = some (.int .i64 nv) := hat.all 5 (by omega)
        have c6 : wr.cell? ⟨b, o + q * 13 + 6, none⟩ = some (.int .i64 rv) := hat.all 6 (by omega)
        have c7 : wr.cell? ⟨b, o + q * 13 + 7, none⟩ = some (.int .i64 iv) := hat.all 7 (by omega)
        have c8 : wr.cell? ⟨b, o + q * 13 + 8, none⟩ = some (.int .u8 kx) := hat.all 8 (by omega)
        have c9 : wr.cell? ⟨b, o + q * 13 + 9, none⟩ = some (.int .i64 nx) := hat.all 9 (by omega)
        have c10 : wr.cell? ⟨b, o + q * 13 + 10, none⟩ = some (.int .i64 rx) := hat.all 10 (by omega)
        have c11 : wr.cell? ⟨b, o + q * 13 + 11, none⟩ = some (.int .i64 ix) := hat.all 11 (by omega)
        have c12 : wr.cell? ⟨b, o + q * 13 + 12, none⟩ = some (.slice ad n c) := hat.all 12 (by omega)
        unfold DoesB at K2
        simp only [opV] at K2
        have lt1 := hL.out.box.lt
        have lt2 := block_lt_of_cell c0
        clear hat hn hz hr hc2
        go_wp2_with fail
        go_region_with ((with_reducible refine (K2.out (World.drew wr) (by go_grown)).mono ?_); rintro e w3 ⟨own2, a2, n2, d2, rfl, hC2, hs, hT⟩; have z0 := hT.box.cell (i := 0) (by omega); have z1 := hT.box.cell (i := 1) (by omega); have z2 := hT.box.cell (i := 2) (by omega); have zf : ∀ o, w3.frozen? ⟨w1.heap.size, o, none⟩ = false := (fun o => hT.box.frozen o); replace hC2 := Lib.hid hC2; replace hs := Lib.hid hs; replace hT := Lib.hid hT)
        all_goals
          have hS3 := Lib.hid hT.out.store
          have hC4 := Lib.hid (hC2.out.store hT.out.lab (.int .i64 room) (.int .i64 (m'.cells : Nat)) (.slice a2 n2 d2))
          clear hT hC2 hs hL hC K2 x0 x1 x2 c0 c1 c2 c3 c4 c5 c6 c7 c8 c9 c10 c11 c12 lt1 lt2 z0 z1 z2 zf
          obtain ⟨W4, hW4⟩ : ∃ W4, W4 = ((w3.setCell ⟨w1.heap.size, 0, none⟩ (.int .i64 room)).setCell ⟨w1.heap.size, 1, none⟩ (.int .i64 (m'.cells : Nat))).setCell ⟨w1.heap.size, 2, none⟩ (.slice a2 n2 d2) := ⟨_, rfl⟩
          rw [← hW4]
          rw [← hW4] at hS3 hC4
          clear hW4
          go_wp2_with fail
          go_roundw
          case rel => exact ⟨q + 1, own2, m', a2, n2, d2, hlt, by go_num, hS3, hC4⟩
          case measure => simp [intOf]; omega
      · obtain rfl : q = len := by omega
        have HCP := Lib.hid (copy_any hL.out.hp hC.out.fz 2 (by omega))
        clear h x0 x1 x2 hcalm
        go_wp2_with ((with_reducible refine HCP.out.mono ?_); rintro e w3 ⟨p2, own3, rfl, hcp⟩; have hL3 := (hL.out.copy hcp); have hC3 := (hC.out.copy hcp (by omega)); have x0 := Lp.c0 hL3; have x1 := Lp.c1 hL3; have x2 := Lp.c2 hL3; have lz := hL3.box.lt; replace hL3 := Lib.hid hL3; replace hC3 := Lib.hid hC3)
        obtain ⟨hL4, hM4, hC4⟩ := lp_second hL3.out hcp.h2 hC3.out (by omega) (by omega) (by omega)
        have hne : w1.heap.size ≠ w3.heap.size := fun e => by
          have e1 := hL4.lab
          have e2 := hM4.lab
          rw [e] at e1
          rw [e1] at e2
          simp at e2
        obtain ⟨W4, hW4⟩ : ∃ W4, W4 = w3.alloc (.cells #[.int .i64 room, .int .i64 (m.cells : Nat), .slice a' n' c'] 31) := ⟨_, rfl⟩
        rw [← hW4] at hL4 hM4 hC4 ⊢
        clear hW4 x0 x1 x2 lz hL3 hC3 hcp hL hC HCP
        replace hL4 := Lib.hid hL4
        replace hM4 := Lib.hid hM4
        replace hC4 := Lib.hid hC4
        replace hne := Lib.hid hne
        go_loopw [13] (fun j wr => ∃ q own m1 a1 n1 cc1 m2 a2 n2 cc2, (q ≤ lenh ∨ q ≤ lent) ∧ j = .int .i64 q ∧ Hid (Lp wr own 1 W.heap.size room w1.heap.size m1 a1 n1 cc1) ∧ Hid (Lp wr own 2 p2 room w3.heap.size m2 a2 n2 cc2) ∧ Hid (Cx W.heap.size W wr own)) (fun j _ => max lenh lent - (intOf j).toNat)
        case atStart => exact ⟨0, _, _, _, _, _, _, _, _, _, .inl (Nat.zero_le _), rfl, hL4, hM4, hC4⟩
        case round =>
          obtain ⟨q, own, m1, a1, n1, cc1, m2, a2, n2, cc2, hq, rfl, hL, hM, hC⟩ := hrel
          clear hL4 hM4 hC4
          by_cases hlt : q < lenh
          · have hq60 : q < 60 := by omega
            have x0 := Lp.c0 hL.out
            have x1 := Lp.c1 hL.out
            have x2 := Lp.c2 hL.out
            obtain ⟨b, o, ad, n, c, rfl, hat, hn, hz, hr⟩ := hh.out q (by rw [hlh.out]; exact hlt)
            have hc2 := calm_at hcalmh.out (i := q) (by rw [hlh.out]; exact hlt)
            replace hat := hat.carry hC.out.bel
            replace hr := hC.out.rv rfl hr
            obtain ⟨op, hop⟩ : ∃ y, lh.getD q op0 = y := ⟨_, rfl⟩
            rw [hop] at hat hn hr hc2
            clear hop
            obtain ⟨m5, hm'⟩ : ∃ m', stepM room m1 op = m' := ⟨_, rfl⟩
            have K2 := Lib.hid fun (w' : World) (hb : Below wr.heap.size wr w') => does_b hL.out hC.out op ad n c hn hz hr hc2.1 (by omega) hb
            rw [hm'] at K2
            clear hm'
            obtain ⟨kd, f, i, s, ⟨kv, nv, rv, iv⟩, ⟨kx, nx, rx, ix⟩, vs⟩ := op
            have c0 : wr.cell? ⟨b, o + q * 13, none⟩ = some (.int .i64 kd) := hat.all 0 (by omega)
            have c1 : wr.cell? ⟨b, o + q * 13 + 1, none⟩ = some (.int .i64 f) := hat.all 1 (by omega)
            have c2 : wr.cell? ⟨b, o + q * 13 + 2, none⟩ = some (.int .i64 i) := hat.all 2 (by omega)
            have c3 : wr.cell? ⟨b, o + q * 13 + 3, none⟩ = some (.string s) := hat.all 3 (by omega)
            have c4 : wr.cell? ⟨b, o + q * 13 + 4, none⟩ = some (.int .u8 kv) := hat.all 4 (by omega)
            have c5 : wr.cell? ⟨b, o + q * 13 + 5, none⟩ = some (.int .i64 nv) := hat.all 5 (by omega)
            have c6 : wr.cell? ⟨b, o + q * 13 + 6, none⟩ = some (.int .i64 rv) := hat.all 6 (by omega)
            have c7 : wr.cell? ⟨b, o + q * 13 + 7, none⟩ = some (.int .i64 iv) := hat.all 7 (by omega)
            have c8 : wr.cell? ⟨b, o + q * 13 + 8, none⟩ = some (.int .u8 kx) := hat.all 8 (by omega)
            have c9 : wr.cell? ⟨b, o + q * 13 + 9, none⟩ = some (.int .i64 nx) := hat.all 9 (by omega)
            have c10 : wr.cell? ⟨b, o + q * 13 + 10, none⟩ = some (.int .i64 rx) := hat.all 10 (by omega)
            have c11 : wr.cell? ⟨b, o + q * 13 + 11, none⟩ = some (.int .i64 ix) := hat.all 11 (by omega)
            have c12 : wr.cell? ⟨b, o + q * 13 + 12, none⟩ = some (.slice ad n c) := hat.all 12 (by omega)
            unfold DoesB at K2
            simp only [opV] at K2
            have lt1 := hL.out.box.lt
            have lt2 := block_lt_of_cell c0
            clear hat hn hz hr hc2
            go_wp2_with fail
            go_region_with ((with_reducible refine (K2.out (World.drew wr) (by go_grown)).mono ?_); rintro e w5 ⟨own5, a5, n5, d5, rfl, hC2, hs, hT⟩; have z0 := hT.box.cell (i := 0) (by omega); have z1 := hT.box.cell (i := 1) (by omega); have z2 := hT.box.cell (i := 2) (by omega); have zf : ∀ o, w5.frozen? ⟨w1.heap.size, o, none⟩ = false := (fun o => hT.box.frozen o); replace hC2 := Lib.hid hC2; replace hs := Lib.hid hs; replace hT := Lib.hid hT)
            all_goals
              have hL5 := Lib.hid hT.out.store
              have hM5 := Lib.hid (lp_other hM.out hs.out hT.out (by omega) (by omega) (by omega) (by omega) hne.out (.int .i64 room) (.int .i64 (m5.cells : Nat)) (.slice a5 n5 d5))
              have hC5 := Lib.hid (hC2.out.store hT.out.lab (.int .i64 room) (.int .i64 (m5.cells : Nat)) (.slice a5 n5 d5))
              clear hT hC2 hs hL hM hC K2 x0 x1 x2 c0 c1 c2 c3 c4 c5 c6 c7 c8 c9 c10 c11 c12 lt1 lt2 z0 z1 z2 zf
              obtain ⟨W5, hW⟩ : ∃ W5, W5 = ((w5.setCell ⟨w1.heap.size, 0, none⟩ (.int .i64 room)).setCell ⟨w1.heap.size, 1, none⟩ (.int .i64 (m5.cells : Nat))).setCell ⟨w1.heap.size, 2, none⟩ (.slice a5 n5 d5) := ⟨_, rfl⟩
              rw [← hW]
              rw [← hW] at hL5 hM5 hC5
              clear hW
              by_cases hlt2 : q < lent
              · have y0 := Lp.c0 hM5.out
                have y1 := Lp.c1 hM5.out
                have y2 := Lp.c2 hM5.out
                obtain ⟨b, o, ad, n, c, rfl, hat, hn, hz, hr⟩ := ht.out q (by rw [hlt'.out]; exact hlt2)
                have hc2 := calm_at hcalmt.out (i := q) (by rw [hlt'.out]; exact hlt2)
                replace hat := hat.carry hC5.out.bel
                replace hr := hC5.out.rv rfl hr
                obtain ⟨op, hop⟩ : ∃ y, lt.getD q op0 = y := ⟨_, rfl⟩
                rw [hop] at hat hn hr hc2
                clear hop
                obtain ⟨m7, hm'⟩ : ∃ m', stepM room m2 op = m' := ⟨_, rfl⟩
                have K2 := Lib.hid fun (w' : World) (hb : Below W5.heap.size W5 w') => does_b hM5.out hC5.out op ad n c hn hz hr hc2.1 (by omega) hb
                rw [hm'] at K2
                clear hm'
                obtain ⟨kd, f, i, s, ⟨kv, nv, rv, iv⟩, ⟨kx, nx, rx, ix⟩, vs⟩ := op
                have c0 : W5.cell? ⟨b, o + q * 13, none⟩ = some (.int .i64 kd) := hat.all 0 (by omega)
                have c1 : W5.cell? ⟨b, o + q * 13 + 1, none⟩ = some (.int .i64 f) := hat.all 1 (by omega)
                have c2 : W5.cell? ⟨b, o + q * 13 + 2, none⟩ = some (.int .i64 i) := hat.all 2 (by omega)
                have c3 : W5.cell? ⟨b, o + q * 13 + 3, none⟩ = some (.string s) := hat.all 3 (by omega)
                have c4 : W5.cell? ⟨b, o + q * 13 + 4, none⟩ = some (.int .u8 kv) := hat.all 4 (by omega)
                have c5 : W5.cell? ⟨b, o + q * 13 + 5, none⟩ = some (.int .i64 nv) := hat.all 5 (by omega)
                have c6 : W5.cell? ⟨b, o + q * 13 + 6, none⟩ = some (.int .i64 rv) := hat.all 6 (by omega)
                have c7 : W5.cell? ⟨b, o + q * 13 + 7, none⟩ = some (.int .i64 iv) := hat.all 7 (by omega)
                have c8 : W5.cell? ⟨b, o + q * 13 + 8, none⟩ = some (.int .u8 kx) := hat.all 8 (by omega)
                have c9 : W5.cell? ⟨b, o + q * 13 + 9, none⟩ = some (.int .i64 nx) := hat.all 9 (by omega)
                have c10 : W5.cell? ⟨b, o + q * 13 + 10, none⟩ = some (.int .i64 rx) := hat.all 10 (by omega)
                have c11 : W5.cell? ⟨b, o + q * 13 + 11, none⟩ = some (.int .i64 ix) := hat.all 11 (by omega)
                have c12 : W5.cell? ⟨b, o + q * 13 + 12, none⟩ = some (.slice ad n c) := hat.all 12 (by omega)
                unfold DoesB at K2
                simp only [opV] at K2
                have lt1 := hM5.out.box.lt
                have lt2 := block_lt_of_cell c0
                clear hat hn hz hr hc2
                go_wp2_with fail
                go_region_with ((with_reducible refine (K2.out (World.drew W5) (by go_grown)).mono ?_); rintro e w7 ⟨own7, a7, n7, d7, rfl, hC2, hs, hT⟩; have z0 := hT.box.cell (i := 0) (by omega); have z1 := hT.box.cell (i := 1) (by omega); have z2 := hT.box.cell (i := 2) (by omega); have zf : ∀ o, w7.frozen? ⟨w3.heap.size, o, none⟩ = false := (fun o => hT.box.frozen o); replace hC2 := Lib.hid hC2; replace hs := Lib.hid hs; replace hT := Lib.hid hT)
                all_goals
                  have hM7 := Lib.hid hT.out.store
                  have hL7 := Lib.hid (lp_other hL5.out hs.out hT.out (by omega) (by omega) (by omega) (by omega) hne.out.symm (.int .i64 room) (.int .i64 (m7.cells : Nat)) (.slice a7 n7 d7))
                  have hC7 := Lib.hid (hC2.out.store hT.out.lab (.int .i64 room) (.int .i64 (m7.cells : Nat)) (.slice a7 n7 d7))
                  clear hT hC2 hs hM5 hL5 hC5 K2 y0 y1 y2 c0 c1 c2 c3 c4 c5 c6 c7 c8 c9 c10 c11 c12 lt1 lt2 z0 z1 z2 zf
                  obtain ⟨W7, hW⟩ : ∃ W5, W5 = ((w7.setCell ⟨w3.heap.size, 0, none⟩ (.int .i64 room)).setCell ⟨w3.heap.size, 1, none⟩ (.int .i64 (m7.cells : Nat))).setCell ⟨w3.heap.size, 2, none⟩ (.slice a7 n7 d7) := ⟨_, rfl⟩
                  rw [← hW]
                  rw [← hW] at hM7 hL7 hC7
                  clear hW
                  go_wp2_with fail
                  go_roundw
                  case rel => exact ⟨q + 1, _, _, _, _, _, _, _, _, _, .inl hlt, by go_num, hL7, hM7, hC7⟩
                  case measure => simp [intOf]; omega
              · go_wp2_with fail
                go_roundw
                case rel => exact ⟨q + 1, _, _, _, _, _, _, _, _, _, .inl hlt, by go_num, hL5, hM5, hC5⟩
                case measure => simp [intOf]; omega
          · by_cases hlt2 : q < lent
            · have hq60 : q < 60 := by omega
              have y0 := Lp.c0 hM.out
              have y1 := Lp.c1 hM.out
              have y2 := Lp.c2 hM.out
              obtain ⟨b, o, ad, n, c, rfl, hat, hn, hz, hr⟩ := ht.out q (by rw [hlt'.out]; exact hlt2)
              have hc2 := calm_at hcalmt.out (i := q) (by rw [hlt'.out]; exact hlt2)
              replace hat := hat.carry hC.out.bel
              replace hr := hC.out.rv rfl hr
              obtain ⟨op, hop⟩ : ∃ y, lt.getD q op0 = y := ⟨_, rfl⟩
              rw [hop] at hat hn hr hc2
              clear hop
              obtain ⟨m7, hm'⟩ : ∃ m', stepM room m2 op = m' := ⟨_, rfl⟩
              have K2 := Lib.hid fun (w' : World) (hb : Below wr.heap.size wr w') => does_b hM.out hC.out op ad n c hn hz hr hc2.1 (by omega) hb
              rw [hm'] at K2
              clear hm'
              obtain ⟨kd, f, i, s, ⟨kv, nv, rv, iv⟩, ⟨kx, nx, rx, ix⟩, vs⟩ := op
              have c0 : wr.cell? ⟨b, o + q * 13, none⟩ = some (.int .i64 kd) := hat.all 0 (by omega)
              have c1 : wr.cell? ⟨b, o + q * 13 + 1, none⟩ = some (.int .i64 f) := hat.all 1 (by omega)
              have c2 : wr.cell? ⟨b, o + q * 13 + 2, none⟩ = some (.int .i64 i) := hat.all 2 (by omega)
              have c3 : wr.cell? ⟨b, o + q * 13 + 3, none⟩ = some (.string s) := hat.all 3 (by omega)
              have c4 : wr.cell? ⟨b, o + q * 13 + 4, none⟩ = some (.int .u8 kv) := hat.all 4 (by omega)
              have c5 : wr.cell? ⟨b, o + q * 13 + 5, none⟩ = some (.int .i64 nv) := hat.all 5 (by omega)
              have c6 : wr.cell? ⟨b, o + q * 13 + 6, none⟩ = some (.int .i64 rv) := hat.all 6 (by omega)
              have c7 : wr.cell? ⟨b, o + q * 13 + 7, none⟩ = some (.int .i64 iv) := hat.all 7 (by omega)
              have c8 : wr.cell? ⟨b, o + q * 13 + 8, none⟩ = some (.int .u8 kx) := hat.all 8 (by omega)
              have c9 : wr.cell? ⟨b, o + q * 13 + 9, none⟩ = some (.int .i64 nx) := hat.all 9 (by omega)
              have c10 : wr.cell? ⟨b, o + q * 13 + 10, none⟩ = some (.int .i64 rx) := hat.all 10 (by omega)
              have c11 : wr.cell? ⟨b, o + q * 13 + 11, none⟩ = some (.int .i64 ix) := hat.all 11 (by omega)
              have c12 : wr.cell? ⟨b, o + q * 13 + 12, none⟩ = some (.slice ad n c) := hat.all 12 (by omega)
              unfold DoesB at K2
              simp only [opV] at K2
              have lt1 := hM.out.box.lt
              have lt2 := block_lt_of_cell c0
              clear hat hn hz hr hc2
              go_wp2_with fail
              go_region_with ((with_reducible refine (K2.out (World.drew wr) (by go_grown)).mono ?_); rintro e w7 ⟨own7, a7, n7, d7, rfl, hC2, hs, hT⟩; have z0 := hT.box.cell (i := 0) (by omega); have z1 := hT.box.cell (i := 1) (by omega); have z2 := hT.box.cell (i := 2) (by omega); have zf : ∀ o, w7.frozen? ⟨w3.heap.size, o, none⟩ = false := (fun o => hT.box.frozen o); replace hC2 := Lib.hid hC2; replace hs := Lib.hid hs; replace hT := Lib.hid hT)
              all_goals
                have hM7 := Lib.hid hT.out.store
                have hL7 := Lib.hid (lp_other hL.out hs.out hT.out (by omega) (by omega) (by omega) (by omega) hne.out.symm (.int .i64 room) (.int .i64 (m7.cells : Nat)) (.slice a7 n7 d7))
                have hC7 := Lib.hid (hC2.out.store hT.out.lab (.int .i64 room) (.int .i64 (m7.cells : Nat)) (.slice a7 n7 d7))
                clear hT hC2 hs hM hL hC K2 y0 y1 y2 c0 c1 c2 c3 c4 c5 c6 c7 c8 c9 c10 c11 c12 lt1 lt2 z0 z1 z2 zf
                obtain ⟨W7, hW⟩ : ∃ W5, W5 = ((w7.setCell ⟨w3.heap.size, 0, none⟩ (.int .i64 room)).setCell ⟨w3.heap.size, 1, none⟩ (.int .i64 (m7.cells : Nat))).setCell ⟨w3.heap.size, 2, none⟩ (.slice a7 n7 d7) := ⟨_, rfl⟩
                rw [← hW]
                rw [← hW] at hM7 hL7 hC7
                clear hW
                go_wp2_with fail
                go_roundw
                case rel => exact ⟨q + 1, _, _, _, _, _, _, _, _, _, .inr hlt2, by go_num, hL7, hM7, hC7⟩
                case measure => simp [intOf]; omega
            · have KL1 := Lib.hid fun (w' : World) (hb : Below wr.heap.size wr w') (hs : w'.heap.size = wr.heap.size) => all_lp hL.out hb hs
              have KL2 := Lib.hid fun (w' : World) (hb : Below wr.heap.size wr w') => all_lp (hM.out.below hb) (Below.refl _ _) rfl
              have x2 := Lp.c2 hL.out
              have y2 := Lp.c2 hM.out
              have hbel := Lib.hid hC.out.bel
              have hle := hC.out.le
              clear hh ht hL hM hC hcalmh hcalmt
              go_wp2_with fail
              go_region_with (first | ((with_reducible refine (KL1.out (World.drew wr) (by go_grown) (by simp)).mono ?_); rintro e w5 ⟨rfl, hB5, HS1⟩; have x5 := cell_carry hB5 x2; have y5 := cell_carry hB5 y2; replace hB5 := Lib.hid hB5; replace HS1 := Lib.hid HS1) | ((with_reducible refine (HS1.out _ (by go_grown)).mono ?_); rintro e w6 ⟨rfl, hB6⟩; have hB6' := (below_step hB5.out hB6); have y6 := cell_carry hB6' y2; replace hB6' := Lib.hid hB6'; clear hB6) | ((with_reducible refine (KL2.out _ (by first | exact hB6'.out | go_grown)).mono ?_); rintro e w7 ⟨rfl, hB7, HS2⟩; have hB7' := (below_step hB6'.out hB7); have y7 := cell_carry hB7' y2; replace hB7' := Lib.hid hB7'; replace HS2 := Lib.hid HS2; clear hB7) | ((with_reducible refine (HS2.out _ (by go_grown)).mono ?_); rintro e w8 ⟨rfl, hB8⟩; have hB8' := Lib.hid (below_step hB7'.out hB8); clear hB8) | ((with_reducible refine (HA.out _).mono ?_); rintro e w9 ⟨rfl, hB9⟩; have hB9' := Lib.hid (below_step hB8'.out hB9); clear hB9))
              all_goals
                go_wp2_with fail
                go_ret
                exact ⟨rfl, hbel.out.trans (Below.mono hB9'.out hle)⟩
end
end Go.Proofs.Ytfeeikajekemlaa
