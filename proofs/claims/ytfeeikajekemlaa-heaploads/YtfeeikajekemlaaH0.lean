/-
  Copy: what is alone is cleared, the row of objects is cloned. Conditions: as said. Rows of objects opened; values cleared; what is more than is gone through. Conditions: none. Load of a heap. Conditions: as said. The document's Load. Conditions: as said. A list of objects of its own; lists whose values are cleared. Conditions: as said. Both Loads; a round of the list of its own. Conditions: as said. The walk of HeapLoads. Conditions: none.
-/
import Derived.Test.YtfeeikajekemlaaWo
import Derived.Lib.SliceRun
import Derived.Lib.LazyBuf
import Derived.Test.YtfeeikajekemlaaOpn
import Derived.Test.YtfeeikajekemlaaAl
import Derived.Test.YtfeeikajekemlaaLp0
namespace Go.Proofs.Ytfeeikajekemlaa
section
open Go.RowKit
set_option linter.unusedVariables false
set_option linter.unusedSimpArgs false
set_option maxRecDepth 100000

theorem zero4 (w : World) : (zeroValue 4).run Try.prog w = .ok (.bool false) w := by kernel_rfl

theorem own_clear {g n c : Nat} : ∀ (r o : Nat) (w : World) (al : Nat → Bool), w.ownsRow 0 4 1 (.slice (some ⟨g, 0, none⟩) n c) n (bools al n) →
    (w.setCells g o (List.replicate r (.bool false))).ownsRow 0 4 1 (.slice (some ⟨g, 0, none⟩) n c) n (bools (fun j => if o ≤ j ∧ j < o + r then false else al j) n)
  | 0, o, w, al, h => by
    have e : (fun j => if o ≤ j ∧ j < o + 0 then false else al j) = al := by
      funext j; rw [if_neg (by omega)]
    rw [e]; exact h
  | r + 1, o, w, al, h => by
    have h1 := (h.stored o (.bool false)).1
    rw [bools_set] at h1
    have h2 := own_clear r (o + 1) _ _ h1
    have e : (fun j => if o + 1 ≤ j ∧ j < o + 1 + r then false else if j = o then false else al j) = (fun j => if o ≤ j ∧ j < o + (r + 1) then false else al j) := by
      funext j
      by_cases h0 : j = o
      · subst h0; rw [if_neg (by omega), if_pos rfl, if_pos (by omega)]
      · by_cases h1 : o + 1 ≤ j ∧ j < o + 1 + r
        · rw [if_pos h1, if_pos (by omega)]
        · rw [if_neg h1, if_neg h0, if_neg (by omega)]
    rw [e] at h2
    exact h2
theorem oth_setCells {g : Nat} : ∀ (vs : List Value) (o : Nat) (w : World), Oth (fun b => b = g) w (w.setCells g o vs)
  | [], o, w => Oth.refl _ w
  | v :: r, o, w => ((Oth.refl (fun b => b = g) w).set (q := ⟨g, o, none⟩) rfl v).trans (oth_setCells r (o + 1) _)

/-- What is alone no longer. -/
theorem clear_al {w : World} {va : Value} {n : Nat} {al : Nat → Bool} (h : w.ownsRow 0 4 1 va n (bools al n)) :
    ∃ w', (∀ ty, (Builtin.clear_ #[67] ty #[va]).run Try.prog w = .ok (.tuple #[]) w') ∧ w'.ownsRow 0 4 1 va n (bools (fun _ => false) n) ∧ Oth (fun b => va.ownBlock = some b) w w' := by
  by_cases h0 : n = 0
  · subst h0
    refine ⟨w, fun ty => ?_, by simpa [bools] using h, Oth.refl _ w⟩
    obtain ⟨a, c, rfl⟩ := own_form h
    cases a <;> simp [Builtin.clear_, run_underlying Try.underlying67]
  · have h' := h
    rcases h.2 with ⟨_, hn⟩ | ⟨g, cap, cur, rfl, _⟩
    · exact absurd hn h0
    · refine ⟨w.setCells g 0 (List.replicate n (.bool false)), fun ty => ?_, ?_, ?_⟩
      · exact Lib.run_clear_slice w 67 4 ty (.bool false) Try.underlying67 zero4 rfl rfl g 0 n cap (by omega) (fun j hj => by rw [Nat.zero_add, h'.cellAt j (by omega), bools_get _ _ _ hj]; rfl) (fun j hj => h'.frozenAt _)
      · have := own_clear n 0 w al h
        have e : bools (fun j => if 0 ≤ j ∧ j < 0 + n then false else al j) n = bools (fun _ => false) n := by
          unfold bools
          refine List.map_congr_left fun j hj => ?_
          have : j < n := by simpa using hj
          show Value.bool (if 0 ≤ j ∧ j < 0 + n then false else al j) = .bool false
          rw [if_pos (by omega)]
        rw [e] at this
        exact this
      · have := oth_setCells (g := g) (List.replicate n (.bool false)) 0 w
        exact ⟨this.os, this.tape, this.output, this.size, fun k hk hs => this.block k hk fun e => hs (by rw [e]; rfl)⟩


theorem own_none {w : World} : w.ownsRow w.heap.size 83 1 (.slice none 0 0) 0 [] := ⟨rfl, .inl ⟨rfl, rfl⟩⟩
theorem one_ptrs (bl : Nat → Nat) (n : Nat) : ∀ u ∈ ptrs bl n, u.oneCell' = true := fun u hu => by
  obtain ⟨j, _, rfl⟩ := List.mem_map.1 hu
  rfl
theorem one_bools (al : Nat → Bool) (n : Nat) : ∀ u ∈ bools al n, u.oneCell' = true := fun u hu => by
  obtain ⟨j, _, rfl⟩ := List.mem_map.1 hu
  rfl

set_option maxHeartbeats 2000000 in
theorem clone_any {w : World} {vo : Value} {n : Nat} {bl : Nat → Nat} (h : w.ownsRow 0 83 1 vo n (ptrs bl n)) (hn : n ≤ 1000000) :
    Calls Try.prog 47 #[vo] w fun e w' => ∃ v', e = .returned v' ∧ w'.ownsRow w.heap.size 83 1 v' n (ptrs bl n) ∧ Below w.heap.size w w' := by
  have h' := h
  rcases h.2 with ⟨rfl, rfl⟩ | ⟨g, cap, cur, rfl, _⟩
  · clear h
    have e1 : ∀ w : World, (binOp .eql 66 (.slice none 0 0) (.slice none 0 0)).run Try.prog w = .ok (.bool true) w := fun w => Go.run_eql_slice_nil w 66 83 none 0 0 Try.underlying66
    go_enter Try.func47, Try.ntmps47
    go_wp2_with fail
    go_ret
    exact ⟨_, rfl, own_none, Below.refl _ _⟩
  · replace h' := Lib.hid h'
    clear h
    obtain ⟨i0, hi0, hz0, hz1, hz2⟩ := info_parts Try.info83
    have hE : Hid ((w.alloc (.cells #[] 83)).ownsRow w.heap.size 83 1 (.slice (some ⟨w.heap.size, 0, none⟩) 0 0) 0 []) := Lib.hid (World.ownsRow_made w #[] 0 (Nat.le_refl _) (by decide) rfl)
    have hC : Hid (∀ (j : Nat) (y : Value), (ptrs bl n)[j]? = some y → (w.alloc (.cells #[] 83)).cell? ((⟨g, 0, none⟩ : Addr).add j) = some y) := Lib.hid fun j y hj => by
      rw [plain_add]
      have hjn : j < n := by
        have := (List.getElem?_eq_some_iff.1 hj).1
        simpa [ptrs] using this
      refine cell_alloc ?_ _
      rw [h'.out.cellAt j (by omega)]
      exact hj
    have e1 : ∀ w : World, (binOp .eql 66 (.slice (some ⟨g, 0, none⟩) n cap) (.slice none 0 0)).run Try.prog w = .ok (.bool false) w := fun w => Go.run_eql_slice_nil w 66 83 _ _ _ Try.underlying66
    go_enter Try.func47, Try.ntmps47
    go_wp2_with (refine wpList_append_own _ rfl (.tmp 5) (.tmp 6) 66 rfl w.heap.size 83 i0 _ 1 8 Try.underlying66 hi0 hz0 hz1 hz2 rfl (by decide) (.slice (some ⟨w.heap.size, 0, none⟩) 0 0) 0 [] rfl hE.out ⟨g, 0, none⟩ n cap (ptrs bl n) rfl (by simp [ptrs]) hC.out (one_ptrs bl n) (by unfold maxLen; omega) (by omega) (by simp) ?_; intro v' w' h1 h2 _; replace h1 := Lib.hid h1; replace h2 := Lib.hid h2)
    go_ret
    refine ⟨v', rfl, by simpa using h1.out, ?_⟩
    exact ((below_alloc w _).grown h2.out (by simp) fun r hr => (hE.out.lt r hr).1)
end
end Go.Proofs.Ytfeeikajekemlaa

namespace Go.Proofs.Ytfeeikajekemlaa
section
open Go.RowKit Go.Deep Go.ChangeShapes Go.WideShapes
set_option linter.unusedVariables false
set_option linter.unusedSimpArgs false
set_option maxRecDepth 100000

section
variable {H : Type} {enc : TypeId × Value → H} {w : World} {base : Nat} {spare : Nat → Bool} {held : Bool}
theorem open_obj {fuel : Nat} {cs : List Value} {x : DataW H × List MemPlace} (hl : cs.length = 4) (h : DataW.trod enc Try.prog w base spare held fuel 45 cs = some x) :
    ∃ (y : Oc) (l : List Vl), cs = ocCells y ∧ l.length = y.n ∧ (y.a = none → y.n = 0 ∧ y.c = 0) ∧ RV (fun _ => True) w y.a l := by
  obtain ⟨xs, m, _, _, _, hx, hf⟩ := DataW.trod_struct Try.underlying45 h
  match cs, hl, xs, hx with
  | [c0, c1, c2, c3], _, [y0, y1, y2, y3], _ =>
    have e5 : Try.prog.cellsOf 5 = 1 := by kernel_rfl
    have e3 : Try.prog.cellsOf 3 = 1 := by kernel_rfl
    have e9 : Try.prog.cellsOf 9 = 1 := by kernel_rfl
    have e36 : Try.prog.cellsOf 36 = 1 := by kernel_rfl
    have f0 : DataW.trod enc Try.prog w base spare held m 5 (([c0, c1, c2, c3].drop 0).take (Try.prog.cellsOf 5)) = some y0 := hf 0 { name := "Kind", type := 5, offset := 0, embedded := false, tag := "", pkgPath := "", byteOffset := 0 } rfl
    have f1 : DataW.trod enc Try.prog w base spare held m 3 (([c0, c1, c2, c3].drop 1).take (Try.prog.cellsOf 3)) = some y1 := hf 1 { name := "Of", type := 3, offset := 1, embedded := false, tag := "", pkgPath := "", byteOffset := 8 } rfl
    have f2 : DataW.trod enc Try.prog w base spare held m 9 (([c0, c1, c2, c3].drop 2).take (Try.prog.cellsOf 9)) = some y2 := hf 2 { name := "Text", type := 9, offset := 2, embedded := false, tag := "", pkgPath := "", byteOffset := 16 } rfl
    have f3 : DataW.trod enc Try.prog w base spare held m 36 (([c0, c1, c2, c3].drop 3).take (Try.prog.cellsOf 36)) = some y3 := hf 3 { name := "Vals", type := 36, offset := 3, embedded := false, tag := "", pkgPath := "", byteOffset := 32 } rfl
    rw [e5] at f0
    rw [e3] at f1
    rw [e9] at f2
    rw [e36] at f3
    obtain ⟨z0, a0, _, b0⟩ := DataW.trod_int Try.underlying5 f0
    obtain ⟨z1, a1, _, _⟩ := DataW.trod_int Try.underlying3 f1
    obtain ⟨s, a2, _, _⟩ := DataW.trod_string Try.underlying9 f2
    simp at a0 a1 a2
    subst a0 a1 a2
    have f3' : DataW.trod enc Try.prog w base spare held m 36 [c3] = some y3 := by simpa using f3
    have hsl : ∃ a n c, c3 = .slice a n c := by
      rcases open_slice Try.underlying36 f3' with ⟨h0, _⟩ | ⟨a', len', cap', m, n, D, Pl, hcs, _⟩
      · simp at h0; exact ⟨none, 0, 0, h0⟩
      · simp at hcs; exact ⟨some a', len', cap', hcs⟩
    obtain ⟨a, n, c, rfl⟩ := hsl
    obtain ⟨l, hl, hz, hr⟩ := open_vals f3'
    have := u8_wf b0
    refine ⟨⟨z0.toNat, z1, s, a, n, c⟩, l, ?_, hl, hz, hr⟩
    unfold ocCells
    simp only
    rw [show ((z0.toNat : Nat) : Int) = z0 by omega]

theorem open_objs {fuel : Nat} {a : Option Addr} {len cap : Nat} {x : DataW H × List MemPlace} (h : DataW.trod enc Try.prog w base spare held fuel 29 [.slice a len cap] = some x) : ∃ l : List Ob, RL (fun _ => True) w a len cap l := by
  rcases open_slice Try.underlying29 h with ⟨h0, _⟩ | ⟨a', len', cap', m, n, D, Pl, hcs, hb, hl, hm, hmm, _, hi⟩
  · simp at h0
    obtain ⟨rfl, rfl, rfl⟩ := h0
    exact ⟨[], [], rfl, rfl, fun _ => ⟨rfl, rfl⟩, fun i hi => by simp at hi, fun i hi => by omega⟩
  · simp at hcs
    obtain ⟨rfl, rfl, rfl⟩ := hcs
    have hlm : len ≤ m := by rw [hmm]; split <;> omega
    have e45 : Try.prog.cellsOf 45 = 4 := by kernel_rfl
    rw [e45] at hi
    have hex : ∀ i, i < len → ∃ nn : Oc × Ob, (∀ j, j < 4 → w.cell? ((a'.add (i * 4)).add j) = (ocCells nn.1)[j]?) ∧ Like (fun _ => True) w nn.1 nn.2 := by
      intro i hil
      obtain ⟨cs', hc, ht⟩ := hi i (by omega)
      obtain ⟨_, hcl, hat⟩ := World.cells?_some hc
      obtain ⟨y, l, rfl, h1, h2, h3⟩ := open_obj hcl ht
      exact ⟨⟨y, ⟨y.kind, y.of, y.text, l⟩⟩, hat, ⟨rfl, rfl, rfl, h1, h2, h3⟩⟩
    haveI : Inhabited (Oc × Ob) := ⟨(oc0, ob0)⟩
    obtain ⟨F, hF⟩ := choose_lt hex
    refine ⟨(List.range len).map fun i => (F i).2, (List.range len).map fun i => (F i).1, by simp, by simp, (fun e => by cases e), fun i hil => ?_, fun i hil => ?_⟩
    · have hil' : i < len := by simpa using hil
      have hnd : oc ((List.range len).map fun i => (F i).1) i = (F i).1 := by simp [oc, List.getD, hil']
      obtain ⟨hc, _⟩ := hF i hil'
      have hspot : a'.spot = none := by
        obtain ⟨h0, _⟩ := hF 0 (by omega)
        have := h0 0 (by omega)
        rw [show (ocCells (F 0).1)[0]? = some (.int .u8 ((F 0).1.kind : Nat)) from rfl] at this
        have := World.cell?_spot this
        simpa [Addr.add] using this
      obtain ⟨b, o, sp⟩ := a'
      simp only at hspot
      subst hspot
      simp only [at_add] at hc
      refine ⟨b, o, rfl, trivial, ?_⟩
      rw [hnd]
      exact ⟨hc 0 (by omega), hc 1 (by omega), hc 2 (by omega), hc 3 (by omega)⟩
    · have hnd : oc ((List.range len).map fun i => (F i).1) i = (F i).1 := by simp [oc, List.getD, hil]
      have hne : ob ((List.range len).map fun i => (F i).2) i = (F i).2 := by simp [ob, List.getD, hil]
      rw [hnd, hne]
      exact (hF i hil).2
end

theorem zero35 (w : World) : (zeroValue 35).run Try.prog w = .ok (.agg #[.int .u8 0, .int .i64 0, .int .i64 0, .int .i64 0]) w := by kernel_rfl

/-- So many cells of a block may be written. -/
def Wrt (w : World) (b m : Nat) : Prop := (∀ j, j < m → (w.cell? ⟨b, j, none⟩).isSome = true) ∧ ∀ o, w.frozen? ⟨b, o, none⟩ = false
theorem Wrt.of_block {w w' : World} {b m : Nat} (h : Wrt w b m) (e : w'.heap[b]? = w.heap[b]?) : Wrt w' b m := by
  refine ⟨fun j hj => ?_, fun o => ?_⟩
  · rw [World.cell?_of_block (w := w) (a := ⟨b, j, none⟩) e]; exact h.1 j hj
  · rw [← h.2 o]
    simp [World.frozen?, e]

/-- Values are cleared: only their own block is changed. -/
theorem clear_wrt {w : World} (a : Option Addr) (n c vb : Nat) (h : n ≠ 0 → a = some ⟨vb, 0, none⟩ ∧ Wrt w vb (n * 4)) :
    ∃ w', (∀ ty, (Builtin.clear_ #[36] ty #[.slice a n c]).run Try.prog w = .ok (.tuple #[]) w') ∧ Oth (fun b => n ≠ 0 ∧ b = vb) w w' := by
  by_cases h0 : n = 0
  · refine ⟨w, fun ty => ?_, Oth.refl _ w⟩
    rw [h0]
    cases a <;> simp [Builtin.clear_, run_underlying Try.underlying36]
  · obtain ⟨h3, hr, hf⟩ := h h0
    rw [h3]
    obtain ⟨m, hm⟩ : ∃ m, n = m + 1 := ⟨n - 1, by omega⟩
    obtain ⟨vs, hvs⟩ : ∃ vs, vs = (Builtin.zeroCells (Value.agg #[.int .u8 0, .int .i64 0, .int .i64 0, .int .i64 0]).cells n).toList := ⟨_, rfl⟩
    have hlen : vs.length = n * 4 := by rw [hvs]; simp [Builtin.zeroCells, Value.cells]
    have hone : ∀ v ∈ vs, v.oneCell' = true := by
      intro v hv
      rw [hvs] at hv
      simp only [Builtin.zeroCells, Value.cells, Array.toList_map, List.mem_map] at hv
      obtain ⟨i, _, rfl⟩ := hv
      have h4 : i % 4 < 4 := Nat.mod_lt _ (by omega)
      simp only [List.size_toArray, List.length_cons, List.length_nil]
      generalize i % 4 = r at *
      match r, h4 with
      | 0, _ => rfl
      | 1, _ => rfl
      | 2, _ => rfl
      | 3, _ => rfl
    have hst := run_storeCells_cells (P := Try.prog) vb 0 vs 0 w (fun j hj => by rw [show 0 + 0 + j = j by omega]; exact hr j (by omega)) (fun j hj => hf _) hone
    refine ⟨w.setCells vb 0 vs, fun ty => ?_, ?_⟩
    · simp only [Nat.add_zero] at hst
      rw [hm] at hvs ⊢
      simp [Builtin.clear_, run_underlying Try.underlying36, zero35, ← hvs, hst]
    · have := oth_setCells (g := vb) vs 0 w
      exact ⟨this.os, this.tape, this.output, this.size, fun k hk hs => this.block k hk fun e => hs ⟨h0, e⟩⟩

/-! ### More than is gone through -/
def wgt (o : Ob) : Nat := 1 + min o.text.size 5000 + min o.vals.length 5000
def wgts : List Ob → Nat
  | [] => 0
  | o :: L => wgt o + wgts L
theorem wgts_take (L : List Ob) : ∀ q, q < L.length → wgts (L.take (q + 1)) = wgts (L.take q) + wgt (ob L q) := by
  induction L with
  | nil => intro q hq; simp at hq
  | cons o L ih =>
    intro q hq
    cases q with
    | zero => simp [wgts, ob]
    | succ q =>
      have := ih q (by simpa using hq)
      rw [List.take_succ_cons, List.take_succ_cons, wgts, wgts, this]
      simp [ob]; omega
theorem wgt_mem {L : List Ob} {o : Ob} (h : o ∈ L) : wgt o ≤ wgts L := by
  induction L with
  | nil => cases h
  | cons x L ih =>
    rw [wgts]
    rcases List.mem_cons.1 h with rfl | h
    · omega
    · have := ih h; omega
theorem wgts_len (L : List Ob) : L.length ≤ wgts L := by
  induction L with
  | nil => simp [wgts]
  | cons o L ih => simp [wgts, wgt]; omega

/-- Not more than is gone through: what that means. -/
structure Some_ (L : List Ob) : Prop where
  len : L.length ≤ 3000
  text : ∀ i, i < L.length → (ob L i).text.size ≤ 3000
  vals : ∀ i, i < L.length → (ob L i).vals.length ≤ 3000
theorem some_of {L : List Ob} (h : wgts L ≤ 3000) : Some_ L := by
  refine ⟨by have := wgts_len L; omega, fun i hi => ?_, fun i hi => ?_⟩ <;>
  · have := wgt_mem (ob_mem hi)
    unfold wgt at this
    omega

def GreatLP (L : List Ob) (W : World) (e : Ending) (w' : World) : Prop := ∃ g : Bool, e = .returned (.bool g) ∧ (g = false → Some_ L) ∧ Below W.heap.size W w'
set_option maxHeartbeats 4000000 in
theorem great_l (a : Option Addr) (len cap : Nat) (L : List Ob) (W : World) (P : Nat → Prop) (hL : RL P W a len cap L) :
    Calls Try.prog 16 #[.slice a len cap] W (GreatLP L W) := by
  obtain ⟨cs, lc, hl, hz, hr, hk⟩ := hL
  replace hr := Lib.hid hr
  replace hk := Lib.hid hk
  replace lc := Lib.hid lc
  replace hl := Lib.hid hl
  go_enter Try.func16, Try.ntmps16
  go_wp2_with fail
  go_loopw [3, 7] (fun s j wr => ∃ q : Nat, q ≤ len ∧ j = .int .i64 q ∧ s = .int .i64 (wgts (L.take q) : Nat) ∧ wgts (L.take q) ≤ 3000 ∧ Hid (Below W.heap.size W wr)) (fun s j _ => len - (intOf j).toNat)
  case atStart => exact ⟨0, Nat.zero_le _, rfl, by simp [wgts], by simp [wgts], Lib.hid (Below.refl _ _)⟩
  case round =>
    obtain ⟨q, hq, rfl, rfl, hs, hb⟩ := hrel
    have hq3 : q ≤ 3000 := by
      have := wgts_len (L.take q)
      rw [List.length_take, hl.out] at this
      omega
    by_cases hlt : q < len
    · obtain ⟨g, o, rfl, _, hat⟩ := (hr.out.kp (kp_below hb.out)) q (by rw [lc.out]; exact hlt)
      have k1 := hk.out q hlt
      have hw := wgts_take L q (by rw [hl.out]; exact hlt)
      obtain ⟨⟨ek, ef, et, ea, en, ec⟩, hE⟩ : ∃ x, oc cs q = x := ⟨_, rfl⟩
      rw [hE] at hat k1
      have x2 : wr.cell? ⟨g, o + q * 4 + 2, none⟩ = some (.string et) := hat.c2
      have x3 : wr.cell? ⟨g, o + q * 4 + 3, none⟩ = some (.slice ea en ec) := hat.c3
      have hwt : wgt (ob L q) = 1 + min et.size 5000 + min en 5000 := by
        unfold wgt
        rw [← k1.text, k1.len]
      rw [hwt] at hw
      obtain ⟨S, hS⟩ : ∃ S, wgts (L.take q) = S := ⟨_, rfl⟩
      obtain ⟨S2, hS2⟩ : ∃ S2, wgts (L.take (q + 1)) = S2 := ⟨_, rfl⟩
      rw [hS] at hs hw ⊢
      rw [hS2] at hw
      replace hS := Lib.hid hS
      replace hS2 := Lib.hid hS2
      clear hat k1 hE hwt
      go_wp2_with fail
      go_quiet (fail)
      have hE2 : ((S : Int) + ((1 + if (5000 : Int) < (et.size : Int) then 5000 else (et.size : Int)) + if (5000 : Int) < (en : Int) then 5000 else (en : Int))) = (S2 : Int) := by
        rw [hw]
        by_cases k1 : (5000 : Int) < (et.size : Int) <;> by_cases k2 : (5000 : Int) < (en : Int) <;> simp only [k1, k2, if_true, if_false] <;> omega
      rw [hE2]
      clear hE2
      generalize (if (5000 : Int) < (et.size : Int) then 5000 else (et.size : Int)) = mu
      generalize (if (5000 : Int) < (en : Int) then 5000 else (en : Int)) = mv
      have hBn := Lib.hid (below_step hb.out (below_drewN wr nq))
      clear hw x2 x3 hs
      by_cases hbig : 3000 < S2
      · go_wp2_with fail
        go_ret
        exact ⟨true, rfl, (fun e => by cases e), hBn.out⟩
      · go_wp2_with fail
        go_roundw
        case rel => exact ⟨q + 1, hlt, by go_num, by rw [hS2.out], by rw [hS2.out]; omega, hBn⟩
        case measure => simp [intOf]; omega
    · obtain rfl : q = len := by omega
      have hT : wgts L ≤ 3000 := by rw [← List.take_of_length_le (l := L) (i := q) (by rw [hl.out]; exact Nat.le_refl _)]; exact hs
      replace hT := Lib.hid hT
      go_wp2_with fail
      go_ret
      exact ⟨false, rfl, fun _ => some_of hT.out, hb.out⟩
end
end Go.Proofs.Ytfeeikajekemlaa

namespace Go.Proofs.Ytfeeikajekemlaa
section
open Go.RowKit
set_option linter.unusedVariables false
set_option linter.unusedSimpArgs false
set_option maxRecDepth 100000

def mayL (L : List Ob) : Bool := L.all mayB
theorem mayL_true {L : List Ob} (h : ∀ j, j < L.length → mayB (ob L j) = true) : mayL L = true := by
  unfold mayL
  rw [List.all_eq_true]
  intro o ho
  obtain ⟨j, hj, rfl⟩ := List.mem_iff_getElem.1 ho
  have := h j hj
  unfold ob at this
  rwa [List.getD_eq_getElem?_getD, List.getElem?_eq_getElem hj] at this
theorem mayL_at {L : List Ob} (h : mayL L = true) {j : Nat} (hj : j < L.length) : mayB (ob L j) = true := by
  unfold mayL at h
  exact List.all_eq_true.1 h _ (ob_mem hj)
theorem mayL_false {L : List Ob} {j : Nat} (hj : j < L.length) (h : mayB (ob L j) = false) : mayL L = false := by
  cases e : mayL L with
  | false => rfl
  | true => rw [mayL_at e hj] at h; cases h
theorem may_like {P : Nat → Prop} {w : World} {x : Oc} {o : Ob} (h : Like P w x o) : mayC x = mayB o := by
  have e : decide (x.n = 0) = decide (o.vals = []) := by
    rw [← h.len]
    cases o.vals <;> simp
  unfold mayC mayB
  rw [h.kind, h.of, h.text, e]
theorem part_like {P : Nat → Prop} {w : World} {x : Oc} {o : Ob} (h : Like P w x o) : partC x = part o := by
  unfold partC part
  rw [h.text, h.len]
theorem cost_like {P : Nat → Prop} {w : World} {x : Oc} {o : Ob} (h : Like P w x o) : costC x = cost o := by
  unfold costC cost
  rw [h.kind, h.text, h.len]

set_option maxHeartbeats 4000000 in
theorem mayAll_any (a : Option Addr) (len cap : Nat) (L : List Ob) (W : World) (P : Nat → Prop) (hL : RL P W a len cap L) (hS : Some_ L) :
    Calls Try.prog 39 #[.slice a len cap] W fun e w' => e = .returned (.bool (mayL L)) ∧ Below W.heap.size W w' := by
  obtain ⟨cs, lc, hl, hz, hr, hk⟩ := hL
  obtain ⟨bL, hbL⟩ : ∃ b, mayL L = b := ⟨_, rfl⟩
  rw [hbL]
  have hlen : len ≤ 3000 := by rw [← hl]; exact hS.len
  replace hbL := Lib.hid hbL
  replace hS := Lib.hid hS
  replace hr := Lib.hid hr
  replace hk := Lib.hid hk
  replace lc := Lib.hid lc
  replace hl := Lib.hid hl
  go_enter Try.func39, Try.ntmps39
  go_wp2_with fail
  go_loopw [7] (fun j wr => ∃ q : Nat, q ≤ len ∧ j = .int .i64 q ∧ Hid (∀ i, i < q → mayB (ob L i) = true) ∧ Hid (Below W.heap.size W wr)) (fun j _ => len - (intOf j).toNat)
  case atStart => exact ⟨0, Nat.zero_le _, rfl, Lib.hid fun i hi => by omega, Lib.hid (Below.refl _ _)⟩
  case round =>
    obtain ⟨q, hq, rfl, hm, hb⟩ := hrel
    by_cases hlt : q < len
    · obtain ⟨g, o, rfl, _, hat⟩ := (hr.out.kp (kp_below hb.out)) q (by rw [lc.out]; exact hlt)
      have k1 := hk.out q hlt
      have hml := may_like k1
      obtain ⟨⟨ek, ef, et, ea, en, ec⟩, hE⟩ : ∃ x, oc cs q = x := ⟨_, rfl⟩
      rw [hE] at hat k1 hml
      have ht : et.size ≤ 3000 := by have := hS.out.text q (by rw [hl.out]; exact hlt); rw [← k1.text] at this; exact this
      have hn : en ≤ 3000 := by have := hS.out.vals q (by rw [hl.out]; exact hlt); rw [k1.len] at this; exact this
      have HM := Lib.hid fun w' => mayBe_any ⟨ek, ef, et, ea, en, ec⟩ w' (by show en ≤ 4000000; omega) (by show et.size ≤ 4000000; omega)
      rw [hml] at HM
      obtain ⟨x0, x1, x2, x3⟩ := hat
      simp only at x0 x1 x2 x3
      obtain ⟨bm, hbm⟩ : ∃ b, mayB (ob L q) = b := ⟨_, rfl⟩
      rw [hbm] at HM
      replace hbm := Lib.hid hbm
      clear k1 hE hml ht hn
      cases bm
      case false =>
        go_wp2_with ((with_reducible refine (HM.out _).mono ?_); rintro e w2 ⟨rfl, hb2⟩)
        go_ret
        refine ⟨?_, below_step hb.out (below_step (by go_grown) hb2)⟩
        rw [← hbL.out, mayL_false (by rw [hl.out]; exact hlt) hbm.out]
        rfl
      case true =>
        go_wp2_with ((with_reducible refine (HM.out _).mono ?_); rintro e w2 ⟨rfl, hb2⟩)
        go_roundw
        case rel => exact ⟨q + 1, hlt, by go_num, Lib.hid fun i hi => by
          by_cases e : i = q
          · rw [e]; exact hbm.out
          · exact hm.out i (by omega), Lib.hid (below_step hb.out (below_step (by go_grown) hb2))⟩
        case measure => simp [intOf]; omega
    · obtain rfl : q = len := by omega
      go_wp2_with fail
      go_ret
      refine ⟨?_, hb.out⟩
      rw [← hbL.out, mayL_true fun j hj => hm.out j (by rw [hl.out] at hj; exact hj)]
      rfl

/-- The first q objects, laid. -/
def mT (L : List Ob) (q : Nat) : M := ⟨costs (L.take q), L.take q⟩
theorem mT_zero (L : List Ob) : mT L 0 = m0 := by simp [mT, m0, costs]
theorem mT_succ {L : List Ob} {q : Nat} (h : q < L.length) : mkM (mT L q) (ob L q) = mT L (q + 1) := by
  unfold mkM mT
  have e : L.take (q + 1) = L.take q ++ [ob L q] := by
    rw [List.take_add_one, List.getElem?_eq_getElem h]
    simp [ob, List.getD, h]
  rw [e, costs_app]
  simp [costs]
theorem mT_all {L : List Ob} {n : Nat} (h : L.length = n) : mT L n = ⟨costs L, L⟩ := by
  unfold mT
  rw [List.take_of_length_le (by omega)]
theorem Stp.below_ne {B k : Nat} {own own' : Owns} {w w' : World} (h : Stp B k own own' w w') (hF : ∀ b, b < B → (own b).1 ≠ k) : Below B w w' :=
  ⟨h.os, h.tape, h.output, h.size, fun b hb => h.block b hb (hF b hb)⟩
theorem costs_take_le' (L : List Ob) (q : Nat) : costs (L.take q) ≤ costs L := by
  induction L generalizing q with
  | nil => simp [costs]
  | cons o L ih =>
    cases q with
    | zero => simp [costs]
    | succ q => have := ih q; rw [List.take_succ_cons, costs, costs]; omega

set_option maxHeartbeats 4000000 in
theorem load_bad (cells : Int) (a : Option Addr) (len cap : Nat) (W : World) (hc : cells < 0 ∨ 65536 < cells) (HB : Hid (∀ w, Calls Try.prog 9 #[.int .i64 cells] w fun e w' => e = .returned (.tuple #[.pointer none, .int .i64 1]) ∧ w = w')) :
    Calls Try.prog 17 #[.int .i64 cells, .slice a len cap] W fun e w' => e = .returned (.tuple #[.pointer none, .int .i64 1]) ∧ Below W.heap.size W w' := by
  go_enter Try.func17, Try.ntmps17
  go_wp2_with ((with_reducible refine (HB.out _).mono ?_); rintro e w2 ⟨rfl, rfl⟩)
  go_ret2
  exact ⟨rfl, Below.refl _ _⟩

/-- What Load answers, the number of cells being one that may be. -/
def LoadP (room : Nat) (L : List Ob) (W : World) (own : Owns) (e : Ending) (w' : World) : Prop :=
  if mayL L = false then e = .returned (.tuple #[.pointer none, .int .i64 1]) ∧ Below W.heap.size W w'
  else if room < costs L then e = .returned (.tuple #[.pointer none, .int .i64 21]) ∧ Below W.heap.size W w'
  else e = .returned (.tuple #[.pointer (some ⟨W.heap.size, 0, none⟩), .int .i64 0]) ∧ MadeP W own 1 W.heap.size room ⟨costs L, L⟩ w'

set_option maxHeartbeats 4000000 in
theorem load_any (room : Nat) (hroom : room ≤ 65536) (a : Option Addr) (len cap : Nat) (L : List Ob) (W : World) (P : Nat → Prop) (hL : RL P W a len cap L) (hS : Some_ L) (own : Owns) (fz : Fz W own) (hown : ∀ b, (own b).1 ≠ 1) :
    Calls Try.prog 17 #[.int .i64 (room : Int), .slice a len cap] W (LoadP room L W own) := by
  have HM := Lib.hid fun w' (hb : Below W.heap.size W w') => mayAll_any a len cap L w' P (hL.kp (kp_below hb)) hS
  have HN := Lib.hid (new_ok room W (by omega) own 1 (by omega) fz)
  obtain ⟨cs, lc, hl, hz, hr, hk⟩ := hL
  have hlen : len ≤ 3000 := by rw [← hl]; exact hS.len
  cases hbL : mayL L
  case false =>
    rw [hbL] at HM
    have hQ : ∀ e w', (e = .returned (.tuple #[.pointer none, .int .i64 1]) ∧ Below W.heap.size W w') → LoadP room L W own e w' := fun e w' h => by unfold LoadP; rw [if_pos hbL]; exact h
    refine Calls.mono ?_ hQ
    replace hown := Lib.hid hown
    clear hr hk lc hl hS hQ
    go_enter Try.func17, Try.ntmps17
    go_wp2_with (first | ((with_reducible refine HN.out.mono ?_); rintro e w1 ⟨rfl, own1, h1, f1, s1, hb1⟩; have hs1 := Lib.hid (s1.below_ne fun b _ => hown.out b)) | ((with_reducible refine (HM.out _ hs1.out).mono ?_); rintro e w2 ⟨rfl, hb2⟩))
    go_ret2
    exact ⟨rfl, below_step hs1.out hb2⟩
  case true =>
    rw [hbL] at HM
    have hm := Lib.hid fun j (hj : j < len) => mayL_at hbL (by rw [hl]; exact hj)
    have hQ : Hid (∀ e w', (if room < costs L then e = .returned (.tuple #[.pointer none, .int .i64 21]) ∧ Below W.heap.size W w'
        else e = .returned (.tuple #[.pointer (some ⟨W.heap.size, 0, none⟩), .int .i64 0]) ∧ MadeP W own 1 W.heap.size room ⟨costs L, L⟩ w') → LoadP room L W own e w') := Lib.hid fun e w' h => by unfold LoadP; rw [if_neg (by rw [hbL]; simp)]; exact h
    have hST := Lib.hid fun q (hq : q < len) => mT_succ (L := L) (q := q) (by rw [hl]; exact hq)
    have hA := Lib.hid (mT_all hl)
    have hTl := Lib.hid fun q => costs_take_le' L q
    replace hown := Lib.hid hown
    replace hS := Lib.hid hS
    replace hr := Lib.hid hr
    replace hk := Lib.hid hk
    replace lc := Lib.hid lc
    replace hl := Lib.hid hl
    clear hbL hz
    go_enter Try.func17, Try.ntmps17
    go_wp2_with (first | ((with_reducible refine HN.out.mono ?_); rintro e w1 ⟨rfl, own1, h1, f1, s1, hb1⟩; have hs1 := Lib.hid (s1.below_ne fun b _ => hown.out b)) | ((with_reducible refine (HM.out _ hs1.out).mono ?_); rintro e w2 ⟨rfl, hb2⟩))
    have h2 : Hid (Hp w2 own1 1 W.heap.size room (mT L 0)) := Lib.hid (by rw [mT_zero]; exact h1.below hb2)
    have f2 : Hid (Fz w2 own1) := Lib.hid (f1.below hb2.size)
    have s2 : Hid (Stp W.heap.size 1 own own1 W w2) := Lib.hid (s1.trans (Stp.of_below (hb2.mono s1.size)))
    clear h1 f1 s1 hb1 hb2 hs1 HM HN
    go_loopw [24] (fun j wr => ∃ (q : Nat) (own' : Owns), q ≤ len ∧ j = .int .i64 q ∧ Hid (Hp wr own' 1 W.heap.size room (mT L q)) ∧ Hid (Fz wr own') ∧ Hid (Stp W.heap.size 1 own own' W wr)) (fun j _ => len - (intOf j).toNat)
    case atStart => exact ⟨0, _, Nat.zero_le _, rfl, h2, f2, s2⟩
    case round =>
      obtain ⟨q, own', hq, rfl, hH, hF, hs⟩ := hrel
      clear h2 f2 s2
      have hB := hs.out.below_ne fun b _ => hown.out b
      by_cases hlt : q < len
      · obtain ⟨g, o, rfl, _, hat⟩ := (hr.out.kp (kp_below hB)) q (by rw [lc.out]; exact hlt)
        have k1 := (hk.out q hlt).kp (kp_below hB)
        have hpl := part_like k1
        obtain ⟨⟨ek, ef, et, ea, en, ec⟩, hE⟩ : ∃ x, oc cs q = x := ⟨_, rfl⟩
        rw [hE] at hat k1 hpl
        have ht : et.size ≤ 3000 := by have := hS.out.text q (by rw [hl.out]; exact hlt); rw [← k1.text] at this; exact this
        have hn : en ≤ 3000 := by have := hS.out.vals q (by rw [hl.out]; exact hlt); rw [k1.len] at this; exact this
        have HP := Lib.hid fun w' => part_any ⟨ek, ef, et, ea, en, ec⟩ w' (by show et.size ≤ 100000; omega) (by show en ≤ 100000; omega)
        rw [hpl] at HP
        have HR := Lib.hid fun w' (hb : Below wr.heap.size wr w') => room_any (hH.out.below hb) (part (ob L q) : Nat)
        have hfit := addB_room hH.out.ok.fits (hm.out q hlt)
        rw [← hfit] at HR
        have HT := Lib.hid fun w' (hb : Below wr.heap.size wr w') => twin_any ⟨ek, ef, et, ea, en, ec⟩ (ob L q).vals w' P k1.len (fun e => (k1.nil e).1) (k1.row.kp (kp_below hb)) (by show en ≤ 1000000; omega)
        unfold TwinP at HT
        have hpp : (part (ob L q)) ≤ 4000 := by rw [← hpl]; unfold partC; show (et.size + 7) / 8 + en ≤ 4000; omega
        obtain ⟨pp, hpq⟩ : ∃ n, part (ob L q) = n := ⟨_, rfl⟩
        rw [hpq] at HP HR hpp
        have kk1 := k1.kind
        have kk2 := k1.of
        have kk3 := k1.text
        have hMS := hST.out q hlt
        have hmq := hm.out q hlt
        obtain ⟨x0, x1, x2, x3⟩ := hat
        simp only at x0 x1 x2 x3
        obtain ⟨ba, hba⟩ : ∃ b, addB room (mT L q) (ob L q) = b := ⟨_, rfl⟩
        rw [hba] at HR
        replace hba := Lib.hid hba
        replace hpq := Lib.hid hpq
        replace kk1 := Lib.hid kk1
        replace kk2 := Lib.hid kk2
        replace kk3 := Lib.hid kk3
        replace hMS := Lib.hid hMS
        replace hmq := Lib.hid hmq
        replace hB := Lib.hid hB
        clear k1 hE hpl hfit
        cases ba
        case false =>
          go_wp2_with (first | ((with_reducible refine (HP.out _).mono ?_); rintro e w3 ⟨rfl, hb3⟩; have HB3 := Lib.hid (below_step (by go_grown) hb3 : Below wr.heap.size wr w3); have hz3 : wr.heap.size < w3.heap.size := (by have := hb3.size; simp at this; omega); have R3 := (box_row wr ⟨ek, ef, et, ea, en, ec⟩).of_block (hb3.block wr.heap.size (by simp)); clear hb3; replace R3 := Lib.hid R3) | ((with_reducible refine (HR.out _ HB3.out).mono ?_); rintro e w4 ⟨rfl, hb4⟩; have HB4 := Lib.hid (below_step HB3.out hb4); have R4 := R3.out.of_block (hb4.block wr.heap.size (by omega)); clear hb4; have hz4 : wr.heap.size < w4.heap.size := R4.lt; have r0 : w4.cell? ⟨wr.heap.size, 0, none⟩ = some (.int .u8 ek) := R4.cell (i := 0) (by omega); have r1 : w4.cell? ⟨wr.heap.size, 1, none⟩ = some (.int .i64 ef) := R4.cell (i := 1) (by omega); have r2 : w4.cell? ⟨wr.heap.size, 2, none⟩ = some (.string et) := R4.cell (i := 2) (by omega); have r3 : w4.cell? ⟨wr.heap.size, 3, none⟩ = some (.slice ea en ec) := R4.cell (i := 3) (by omega); clear R4))
          go_ret2
          refine hQ.out _ _ ?_
          have h1 := hTl.out (q + 1)
          have h2 : addB room (mT L q) (ob L q) = false := hba.out
          have h3 : (mkM (mT L q) (ob L q)).cells = (mT L (q + 1)).cells := by rw [hMS.out]
          unfold addB at h2
          have h4 : ¬ (mT L q).cells + cost (ob L q) ≤ room := by simpa using h2
          have h5 : (mT L (q + 1)).cells = (mT L q).cells + cost (ob L q) := h3.symm
          have h6 : (mT L (q + 1)).cells = costs (L.take (q + 1)) := rfl
          rw [if_pos (by omega)]
          exact ⟨rfl, below_step hB.out HB4.out⟩
        case true =>
          go_wp2_with (first | ((with_reducible refine (HP.out _).mono ?_); rintro e w3 ⟨rfl, hb3⟩; have HB3 := Lib.hid (below_step (by go_grown) hb3 : Below wr.heap.size wr w3); have hz3 : wr.heap.size < w3.heap.size := (by have := hb3.size; simp at this; omega); have R3 := (box_row wr ⟨ek, ef, et, ea, en, ec⟩).of_block (hb3.block wr.heap.size (by simp)); clear hb3; replace R3 := Lib.hid R3) | ((with_reducible refine (HR.out _ HB3.out).mono ?_); rintro e w4 ⟨rfl, hb4⟩; have HB4 := Lib.hid (below_step HB3.out hb4); have R4 := R3.out.of_block (hb4.block wr.heap.size (by omega)); clear hb4; have hz4 : wr.heap.size < w4.heap.size := R4.lt; have r0 : w4.cell? ⟨wr.heap.size, 0, none⟩ = some (.int .u8 ek) := R4.cell (i := 0) (by omega); have r1 : w4.cell? ⟨wr.heap.size, 1, none⟩ = some (.int .i64 ef) := R4.cell (i := 1) (by omega); have r2 : w4.cell? ⟨wr.heap.size, 2, none⟩ = some (.string et) := R4.cell (i := 2) (by omega); have r3 : w4.cell? ⟨wr.heap.size, 3, none⟩ = some (.slice ea en ec) := R4.cell (i := 3) (by omega); clear R4) | ((with_reducible refine (HT.out _ HB4.out).mono ?_); rintro e w5 ⟨a', c', vb, rfl, hva, hvb, hb5⟩; have HL := Lib.hid (lay_any hH.out hF.out (below_step HB4.out hb5) ⟨ek, ef, et, a', en, c'⟩ (ob L q) vb hva (fun h => by have := hvb h; omega) kk1.out kk2.out kk3.out hba.out hmq.out (by show et.size ≤ 100000; omega) (by show en ≤ 100000; omega)); clear hva hvb hb5) | ((with_reducible refine HL.out.mono ?_); rintro e w6 ⟨rfl, hM⟩))
          obtain ⟨own6, h6, f6, s6⟩ := hM
          rw [hMS.out] at h6
          have hs6 := Lib.hid (hs.out.trans (s6.mono hs.out.size))
          replace h6 := Lib.hid h6
          replace f6 := Lib.hid f6
          clear s6
          go_roundw
          case rel => exact ⟨q + 1, own6, hlt, by go_num, h6, f6, hs6⟩
          case measure => simp [intOf]; omega
      · obtain rfl : q = len := by omega
        go_wp2_with fail
        go_ret2
        refine hQ.out _ _ ?_
        have hfit := hH.out.ok.fits
        rw [hA.out] at hfit
        rw [if_neg (by have : costs L ≤ room := hfit; omega)]
        refine ⟨rfl, own', ?_, hF.out, hs.out⟩
        rw [← hA.out]
        exact hH.out
end
end Go.Proofs.Ytfeeikajekemlaa

namespace Go.Proofs.Ytfeeikajekemlaa
section
open Go.RowKit
set_option linter.unusedVariables false
set_option linter.unusedSimpArgs false
set_option maxRecDepth 100000

/-- What the document's Load answers. -/
def RefP (f c : Nat) (W : World) (e : Ending) (w' : World) : Prop :=
  ∃ (r : Int) (a : Option Addr) (n k : Nat), e = .returned (.tuple #[.agg #[.int .i64 r, .int .i64 (c : Nat), .slice a n k], .int .i64 (f : Nat)]) ∧ Below W.heap.size W w'

set_option maxHeartbeats 4000000 in
theorem ref_bad (cells : Int) (a : Option Addr) (len cap : Nat) (W : World) (hc : cells < 0 ∨ 65536 < cells) :
    Calls Try.prog 18 #[.int .i64 cells, .slice a len cap] W (RefP 1 0 W) := by
  by_cases h0 : cells < 0
  · go_enter Try.func18, Try.ntmps18
    go_wp2_with fail
    refine bodyPost_ret (v := .tuple #[.agg #[.int .i64 0, .int .i64 0, .slice none 0 0], .int .i64 1]) (by simp [results, Try.results18, go_sem]) rfl ⟨0, none, 0, 0, rfl, by go_grown⟩
  · have h1 : 65536 < cells := by omega
    go_enter Try.func18, Try.ntmps18
    go_wp2_with fail
    refine bodyPost_ret (v := .tuple #[.agg #[.int .i64 0, .int .i64 0, .slice none 0 0], .int .i64 1]) (by simp [results, Try.results18, go_sem]) rfl ⟨0, none, 0, 0, rfl, by go_grown⟩

/-- The error's number, the number of cells being one that may be. -/
def refE (room : Nat) (L : List Ob) : Nat := if mayL L = false then 1 else if room < costs L then 21 else 0
def refC (room : Nat) (L : List Ob) : Nat := if mayL L = false then 0 else if room < costs L then 0 else costs L

set_option maxHeartbeats 8000000 in
theorem ref_any (room : Nat) (hroom : room ≤ 65536) (a : Option Addr) (len cap : Nat) (L : List Ob) (W : World) (P : Nat → Prop) (hL : RL P W a len cap L) (hS : Some_ L) :
    Calls Try.prog 18 #[.int .i64 (room : Int), .slice a len cap] W (RefP (refE room L) (refC room L) W) := by
  obtain ⟨cs, lc, hl, hz, hr, hk⟩ := hL
  have hlen : len ≤ 3000 := by rw [← hl]; exact hS.len
  have nr0 : ¬ ((room : Int) < 0) := by omega
  have nr1 : ¬ (65536 < (room : Int)) := by omega
  obtain ⟨W2, hW2⟩ : ∃ W2, W2 = (W.alloc (.cells #[.int .i64 0, .int .i64 0, .slice none 0 0] 31)).alloc (.cells #[.int .i64 room, .int .i64 0, .slice none 0 0] 31) := ⟨_, rfl⟩
  have hB2 : Below W.heap.size W W2 := by rw [hW2]; go_grown
  have hz2 : W2.heap.size = W.heap.size + 1 + 1 := by rw [hW2]; simp
  have R4 : W2.rowIs W.heap.size 31 3 (hF 0 0 (.slice none 0 0)) := by
    rw [hW2]
    refine World.rowIs.alloc ?_ _
    exact (h_box W 0 0 (.slice none 0 0)).congr fun j hj => by simp [hF]
  have R6 : W2.rowIs (W.heap.size + 1) 31 3 (hF room 0 (.slice none 0 0)) := by
    rw [hW2]
    have := (h_box (W.alloc (.cells #[.int .i64 0, .int .i64 0, .slice none 0 0] 31)) room 0 (.slice none 0 0)).congr (g := hF room 0 (.slice none 0 0)) fun j hj => by simp [hF]
    simpa using this
  obtain ⟨fE, hfE⟩ : ∃ f, refE room L = f := ⟨_, rfl⟩
  obtain ⟨fC, hfC⟩ : ∃ f, refC room L = f := ⟨_, rfl⟩
  rw [hfE, hfC]
  replace hfE := Lib.hid hfE
  replace hfC := Lib.hid hfC
  replace hW2 := Lib.hid hW2
  replace hB2 := Lib.hid hB2
  replace hz2 := Lib.hid hz2
  replace R4 := Lib.hid R4
  replace R6 := Lib.hid R6
  replace hS := Lib.hid hS
  replace hr := Lib.hid hr
  replace hk := Lib.hid hk
  replace lc := Lib.hid lc
  replace hl := Lib.hid hl
  go_enter Try.func18, Try.ntmps18
  go_wp2_with fail
  rw [← hW2.out]
  clear hW2
  go_loopw [20] (fun j wr => ∃ q : Nat, q ≤ len ∧ j = .int .i64 q ∧ Hid (∀ i, i < q → mayB (ob L i) = true) ∧ Hid (Below W2.heap.size W2 wr)) (fun j _ => len - (intOf j).toNat)
  case atStart => exact ⟨0, Nat.zero_le _, rfl, Lib.hid fun i hi => by omega, Lib.hid (Below.refl _ _)⟩
  case round =>
    obtain ⟨q, hq, rfl, hm, hb⟩ := hrel
    have hB := Lib.hid (hB2.out.trans (hb.out.mono (by rw [hz2.out]; omega)))
    by_cases hlt : q < len
    · obtain ⟨g, o, rfl, _, hat⟩ := (hr.out.kp (kp_below hB.out)) q (by rw [lc.out]; exact hlt)
      have k1 := hk.out q hlt
      have hml := may_like k1
      obtain ⟨⟨ek, ef, et, ea, en, ec⟩, hE⟩ : ∃ x, oc cs q = x := ⟨_, rfl⟩
      rw [hE] at hat k1 hml
      have ht : et.size ≤ 3000 := by have := hS.out.text q (by rw [hl.out]; exact hlt); rw [← k1.text] at this; exact this
      have hn : en ≤ 3000 := by have := hS.out.vals q (by rw [hl.out]; exact hlt); rw [k1.len] at this; exact this
      have HM := Lib.hid fun w' => may_any ⟨ek, ef, et, ea, en, ec⟩ w' (by show en ≤ 4000000; omega) (by show et.size ≤ 4000000; omega)
      rw [hml] at HM
      obtain ⟨x0, x1, x2, x3⟩ := hat
      simp only at x0 x1 x2 x3
      obtain ⟨bm, hbm⟩ : ∃ b, mayB (ob L q) = b := ⟨_, rfl⟩
      rw [hbm] at HM
      replace hbm := Lib.hid hbm
      clear k1 hE hml ht hn
      cases bm
      case false =>
        go_wp2_with ((with_reducible refine (HM.out _).mono ?_); rintro e w3 ⟨rfl, hb3⟩; have hB3 := Lib.hid (below_step hb.out hb3); have r4 := (R4.out.of_block (hB3.out.block _ (by rw [hz2.out]; omega))); have y0 : w3.cell? ⟨W.heap.size, 0, none⟩ = some (.int .i64 (0 : Nat)) := r4.cell (i := 0) (by omega); have y1 : w3.cell? ⟨W.heap.size, 1, none⟩ = some (.int .i64 (0 : Nat)) := r4.cell (i := 1) (by omega); have y2 : w3.cell? ⟨W.heap.size, 2, none⟩ = some (.slice none 0 0) := r4.cell (i := 2) (by omega); have yf : ∀ o, w3.frozen? ⟨W.heap.size, o, none⟩ = false := (fun o => r4.frozen o); have yl := r4.lt; clear r4)
        have hmL : mayL L = false := mayL_false (by rw [hl.out]; exact hlt) hbm.out
        have e1 : fE = 1 := by rw [← hfE.out]; unfold refE; rw [if_pos hmL]
        have e2 : fC = 0 := by rw [← hfC.out]; unfold refC; rw [if_pos hmL]
        subst e1
        subst e2
        refine bodyPost_ret (v := .tuple #[.agg #[.int .i64 0, .int .i64 0, .slice none 0 0], .int .i64 1]) (by simp [results, Try.results18, go_sem, y0, y1, y2]) rfl ⟨0, none, 0, 0, rfl, ?_⟩
        exact (((hB2.out.trans (hB3.out.mono (by rw [hz2.out]; omega))).setCell (by simp) _).setCell (by simp) _).setCell (by simp) _
      case true =>
        go_wp2_with ((with_reducible refine (HM.out _).mono ?_); rintro e w3 ⟨rfl, hb3⟩)
        go_roundw
        case rel => exact ⟨q + 1, hlt, by go_num, Lib.hid fun i hi => by
          by_cases e : i = q
          · rw [e]; exact hbm.out
          · exact hm.out i (by omega), Lib.hid (below_step hb.out hb3)⟩
        case measure => simp [intOf]; omega
    · obtain rfl : q = len := by omega
      have hmL : mayL L = true := mayL_true fun j hj => hm.out j (by rw [hl.out] at hj; exact hj)
      have hbb := hb.out
      have r4 := Lib.hid (R4.out.of_block (hbb.block _ (by rw [hz2.out]; omega)))
      have r6 := Lib.hid (R6.out.of_block (hbb.block _ (by rw [hz2.out]; omega)))
      have hST := Lib.hid fun z (hz : z < q) => mT_succ (L := L) (q := z) (by rw [hl.out]; exact hz)
      have hA : Hid (costs (L.take q) = costs L) := Lib.hid (by rw [List.take_of_length_le (by rw [hl.out]; exact Nat.le_refl _)])
      have hTl := Lib.hid fun z => costs_take_le' L z
      replace hmL := Lib.hid hmL
      clear hm R4 R6 hbb hb
      go_wp2_with fail
      go_loopw [33] (fun j wz => ∃ z : Nat, z ≤ q ∧ j = .int .i64 z ∧ costs (L.take z) ≤ room ∧ Hid (wz.rowIs W.heap.size 31 3 (hF 0 0 (.slice none 0 0))) ∧ Hid (wz.rowIs (W.heap.size + 1) 31 3 (hF room (costs (L.take z)) (.slice none 0 0))) ∧ Hid (Below W.heap.size W wz)) (fun j _ => q - (intOf j).toNat)
      case atStart => exact ⟨0, Nat.zero_le _, rfl, by simp [costs], r4, Lib.hid (by simpa [costs] using r6.out), hB⟩
      case round =>
        obtain ⟨z, hz', rfl, hcz, r4, r6, hB⟩ := hrel
        have y1 : wr.cell? ⟨W.heap.size + 1, 1, none⟩ = some (.int .i64 (costs (L.take z) : Nat)) := r6.out.cell (i := 1) (by omega)
        by_cases hlt2 : z < q
        · obtain ⟨g, o, rfl, _, hat⟩ := (hr.out.kp (kp_below hB.out)) z (by rw [lc.out]; exact hlt2)
          have k1 := hk.out z hlt2
          have hcl := cost_like k1
          obtain ⟨⟨ek, ef, et, ea, en, ec⟩, hE⟩ : ∃ x, oc cs z = x := ⟨_, rfl⟩
          rw [hE] at hat k1 hcl
          have ht : et.size ≤ 3000 := by have := hS.out.text z (by rw [hl.out]; exact hlt2); rw [← k1.text] at this; exact this
          have hn : en ≤ 3000 := by have := hS.out.vals z (by rw [hl.out]; exact hlt2); rw [k1.len] at this; exact this
          have HC := Lib.hid fun w' => cost_any2 ⟨ek, ef, et, ea, en, ec⟩ w' (by show et.size ≤ 1000000; omega) (by show en ≤ 1000000; omega)
          have hcb : costC ⟨ek, ef, et, ea, en, ec⟩ ≤ 200000 := cost_le (by show et.size ≤ 600000; omega) (by show en ≤ 65536; omega)
          rw [hcl] at HC hcb
          have hMS : costs (L.take z) + cost (ob L z) = costs (L.take (z + 1)) := congrArg M.cells (hST.out z hlt2)
          obtain ⟨cc, hcc⟩ : ∃ c, cost (ob L z) = c := ⟨_, rfl⟩
          rw [hcc] at HC hcb hMS
          obtain ⟨c0, hc0⟩ : ∃ c, costs (L.take z) = c := ⟨_, rfl⟩
          obtain ⟨c1, hc1⟩ : ∃ c, costs (L.take (z + 1)) = c := ⟨_, rfl⟩
          rw [hc0] at hcz y1 hMS
          have hr6 : Hid (wr.rowIs (W.heap.size + 1) 31 3 (hF room c0 (.slice none 0 0))) := Lib.hid (by rw [← hc0]; exact r6.out)
          rw [hc1] at hMS
          obtain ⟨x0, x1, x2, x3⟩ := hat
          simp only at x0 x1 x2 x3
          have l1 := r6.out.lt
          have l2 := block_lt_of_cell x0
          simp only at l2
          replace hcc := Lib.hid hcc
          replace hc0 := Lib.hid hc0
          replace hc1 := Lib.hid hc1
          clear k1 hE hcl ht hn r6
          go_wp2_with fail
          go_region_with ((with_reducible refine (HC.out (World.drew wr)).mono ?_); rintro e w3 ⟨rfl, hb3⟩; have hb3' := (below_step (by go_grown) hb3 : Below wr.heap.size wr w3); have y1' := cell_carry hb3' y1; have zf : ∀ o, w3.frozen? ⟨W.heap.size + 1, o, none⟩ = false := (fun o => (hr6.out.of_block (hb3'.block _ l1)).frozen o); replace hb3' := Lib.hid hb3')
          all_goals
            have hw : IntKind.i64.wrap ((c0 : Int) + (cc : Int)) = ((c1 : Nat) : Int) := by rw [IntWalk.i64_in _ (by omega)]; omega
            rw [hw]
            clear hw
            obtain ⟨W5, hW5⟩ : ∃ W5, W5 = w3.setCell ⟨W.heap.size + 1, 1, none⟩ (.int .i64 ((c1 : Nat) : Int)) := ⟨_, rfl⟩
            have R6n : W5.rowIs (W.heap.size + 1) 31 3 (hF room c1 (.slice none 0 0)) := by
              rw [hW5]
              refine ((hr6.out.of_block (hb3'.out.block _ l1)).set 1 (.int .i64 ((c1 : Nat) : Int))).congr fun j hj => ?_
              have : j = 0 ∨ j = 1 ∨ j = 2 := by omega
              rcases this with rfl | rfl | rfl <;> simp [hF]
            have R4n : W5.rowIs W.heap.size 31 3 (hF 0 0 (.slice none 0 0)) := by
              rw [hW5]
              exact (r4.out.of_block (hb3'.out.block _ r4.out.lt)).setOther (by simp) _
            have hBn : Below W.heap.size W W5 := by
              rw [hW5]
              exact (below_step hB.out hb3'.out).setCell (by simp) _
            rw [← hW5]
            have y1n : W5.cell? ⟨W.heap.size + 1, 1, none⟩ = some (.int .i64 (c1 : Nat)) := R6n.cell (i := 1) (by omega)
            clear hW5 hb3' y1 y1' zf x0 x1 x2 x3 l1 l2 hr6 r4 hB HC
            by_cases hbig : room < c1
            · have e1 : fE = 21 := by
                rw [← hfE.out]
                unfold refE
                have := hTl.out (z + 1)
                rw [if_neg (by rw [hmL.out]; simp), if_pos (by rw [hc1.out] at this; omega)]
              have e2 : fC = 0 := by
                rw [← hfC.out]
                unfold refC
                have := hTl.out (z + 1)
                rw [if_neg (by rw [hmL.out]; simp), if_pos (by rw [hc1.out] at this; omega)]
              subst e1
              subst e2
              have y0 : W5.cell? ⟨W.heap.size, 0, none⟩ = some (.int .i64 (0 : Nat)) := R4n.cell (i := 0) (by omega)
              have y1 : W5.cell? ⟨W.heap.size, 1, none⟩ = some (.int .i64 (0 : Nat)) := R4n.cell (i := 1) (by omega)
              have y2 : W5.cell? ⟨W.heap.size, 2, none⟩ = some (.slice none 0 0) := R4n.cell (i := 2) (by omega)
              have yf : ∀ o, W5.frozen? ⟨W.heap.size, o, none⟩ = false := (fun o => R4n.frozen o)
              have yl := R4n.lt
              replace hBn := Lib.hid hBn
              clear R4n R6n
              go_wp2_with fail
              refine bodyPost_ret (v := .tuple #[.agg #[.int .i64 0, .int .i64 0, .slice none 0 0], .int .i64 21]) (by simp [results, Try.results18, go_sem, y0, y1, y2]) rfl ⟨0, none, 0, 0, rfl, ?_⟩
              exact ((hBn.out.setCell (by simp) _).setCell (by simp) _).setCell (by simp) _
            · replace hBn := Lib.hid hBn
              replace R4n := Lib.hid R4n
              replace R6n := Lib.hid R6n
              go_wp2_with fail
              go_roundw
              case rel => exact ⟨z + 1, hlt2, by go_num, by rw [hc1.out]; omega, R4n, by rw [hc1.out]; exact R6n, hBn⟩
              case measure => simp [intOf]; omega
        · obtain rfl : z = q := by omega
          have e1 : fE = 0 := by
            rw [← hfE.out]
            unfold refE
            rw [if_neg (by rw [hmL.out]; simp), if_neg (by rw [← hA.out]; omega)]
          have e2 : fC = costs (L.take z) := by
            rw [← hfC.out]
            unfold refC
            rw [if_neg (by rw [hmL.out]; simp), if_neg (by rw [← hA.out]; omega), hA.out]
          subst e1
          subst e2
          have y2 : wr.cell? ⟨W.heap.size + 1, 2, none⟩ = some (.slice none 0 0) := r6.out.cell (i := 2) (by omega)
          have hle := hB.out.size
          have l6 := r6.out.lt
          go_wp2_with (refine wpList_appO rfl (.tmp 52) (.tmp 53) rfl wr.heap.size (.slice none 0 0) [] cs P a z cap rfl rfl hz lc.out (hr.out.kp (kp_below hB.out)) (World.ownsRow_nil _ _ _ _) (Nat.le_refl _) (by simp; omega) ?_; intro v' w' h1 h2; obtain ⟨a5, c5, rfl⟩ := own_form h1; have r6' := (r6.out.of_block (h2.block _ l6)); have r4' := (r4.out.of_block (h2.block _ r4.out.lt)); have hBn := Lib.hid (below_step hB.out h2); clear h1 h2 y2; have z0 : w'.cell? ⟨W.heap.size + 1, 0, none⟩ = some (.int .i64 room) := r6'.cell (i := 0) (by omega); have z1 : w'.cell? ⟨W.heap.size + 1, 1, none⟩ = some (.int .i64 (costs (L.take z) : Nat)) := r6'.cell (i := 1) (by omega); have z2 : w'.cell? ⟨W.heap.size + 1, 2, none⟩ = some (.slice none 0 0) := r6'.cell (i := 2) (by omega); have zf : ∀ o, w'.frozen? ⟨W.heap.size + 1, o, none⟩ = false := (fun o => r6'.frozen o); have y0 : w'.cell? ⟨W.heap.size, 0, none⟩ = some (.int .i64 (0 : Nat)) := r4'.cell (i := 0) (by omega); have y1 : w'.cell? ⟨W.heap.size, 1, none⟩ = some (.int .i64 (0 : Nat)) := r4'.cell (i := 1) (by omega); have y2 : w'.cell? ⟨W.heap.size, 2, none⟩ = some (.slice none 0 0) := r4'.cell (i := 2) (by omega); have yf : ∀ o, w'.frozen? ⟨W.heap.size, o, none⟩ = false := (fun o => r4'.frozen o); have lz := r6'.lt; clear r6' r4')
          refine bodyPost_ret (v := .tuple #[.agg #[.int .i64 room, .int .i64 (costs (L.take z) : Nat), .slice a5 cs.length c5], .int .i64 0]) (by simp [results, Try.results18, go_sem, y0, y1, y2, z0, z1, z2]) rfl ⟨room, a5, cs.length, c5, rfl, ?_⟩
          exact ((((hBn.out.setCell (by simp) _).setCell (by simp) _).setCell (by simp) _).setCell (by simp) _)
end
end Go.Proofs.Ytfeeikajekemlaa

namespace Go.Proofs.Ytfeeikajekemlaa
section
open Go.RowKit
set_option linter.unusedVariables false
set_option linter.unusedSimpArgs false
set_option maxRecDepth 100000

theorem own_kind {w : World} {B e s n g : Nat} {v : Value} {l : List Value} (h : w.ownsRow B e s v n l) (hg : v.ownBlock = some g) : ∃ cs f, w.heap[g]? = some (.cells cs e f) := by
  rcases h.2 with ⟨rfl, _⟩ | ⟨g', cap, cur, rfl, hb, hgg, _⟩
  · simp [Value.ownBlock] at hg
  · simp [Value.ownBlock] at hg
    subst hg
    exact ⟨_, _, hgg⟩
theorem own_apart {w : World} {B1 B2 n1 n2 g1 g2 : Nat} {v1 v2 : Value} {l1 : List Oc} {l2 : List Vl} (h1 : OwnO w B1 v1 l1) (h2 : OwnV w B2 v2 l2) (e1 : v1.ownBlock = some g1) (e2 : v2.ownBlock = some g2) : g1 ≠ g2 := fun e => by
  obtain ⟨cs, f, t⟩ := own_kind h1 e1
  obtain ⟨cs', f', t'⟩ := own_kind h2 e2
  rw [e, t'] at t
  simp at t

/-- As wpList_appO: all but the row's block stays. -/
theorem wpList_appO2 {ops : Array Oper} {rest : List Oper} {o : Oper} {a : Act} {Q : Exit → Act → World → Prop} {w : World} (hgd : o.guard = none) (s x : Operand)
    (ho : o.op = .call { callee := .builtin .append, args := #[s, x], argTypes := #[29, 29] }) (B : Nat) (v : Value) (l : List Oc) (m : Oc) (ad : Addr) (c : Nat) (hs : a.eval s = v)
    (hx : a.eval x = .slice (some ad) 1 c) (hm : RO (fun _ => True) w (some ad) [m]) (hown : OwnO w B v l) (hB : B ≤ w.heap.size) (hl : l.length ≤ 1000000)
    (h : ∀ v' w', OwnO w' B v' (l ++ [m]) → Oth (fun b => v.ownBlock = some b) w w' → wpList Try.prog ops Q rest (a.put o.dst v') w') : wpList Try.prog ops Q (o :: rest) a w := by
  obtain ⟨i0, hi0, hz0, hz1, hz2⟩ := info_parts Try.info45
  have hown' : w.ownsRow B 45 4 v l.length (fO l) := hown
  refine wpList_append_own _ hgd s x 29 ho B 45 i0 _ 4 56 Try.underlying29 hi0 hz0 hz1 hz2 rfl (by decide) v l.length (fO l) hs hown' ad 1 c (fO [m]) hx (by rw [fO_len]; rfl) (ro_cells hm) (one_fO [m]) ?_ ?_ hB ?_
  · unfold maxLen; omega
  · omega
  · intro v' w' h1 h2 _
    refine h v' w' ?_ ((Oth.refl _ w).grown h2 fun k hk => hk)
    unfold OwnO
    rw [List.length_append, fO_app]
    exact h1

theorem oc_app (l : List Oc) (x : Oc) (i : Nat) (hi : i ≤ l.length) : oc (l ++ [x]) i = if i = l.length then x else oc l i := by
  unfold oc
  rw [List.getD_eq_getElem?_getD, List.getD_eq_getElem?_getD]
  by_cases e : i = l.length
  · rw [if_pos e, e, List.getElem?_append_right (Nat.le_refl _)]; simp
  · rw [if_neg e, List.getElem?_append_left (by omega)]

/-- The first q objects of L, in a list and rows of their own from B on. -/
structure OwnL (w : World) (B q : Nat) (L : List Ob) (v : Value) (cs : List Oc) (vb : Nat → Nat) : Prop where
  len : cs.length = q
  row : OwnO w B v cs
  kind : ∀ i, i < q → (oc cs i).kind = (ob L i).kind
  of : ∀ i, i < q → (oc cs i).of = (ob L i).of
  text : ∀ i, i < q → (oc cs i).text = (ob L i).text
  vlen : ∀ i, i < q → (ob L i).vals.length = (oc cs i).n
  nil : ∀ i, i < q → (oc cs i).a = none → (oc cs i).n = 0 ∧ (oc cs i).c = 0
  val : ∀ i, i < q → (oc cs i).n ≠ 0 → (oc cs i).a = some ⟨vb i, 0, none⟩ ∧ OwnV w B (.slice (oc cs i).a (oc cs i).n (oc cs i).c) (ob L i).vals
  inc : ∀ i j, i < j → j < q → (oc cs i).n ≠ 0 → (oc cs j).n ≠ 0 → vb i < vb j
section
variable {w w' : World} {B q : Nat} {L : List Ob} {v v' : Value} {cs : List Oc} {vb : Nat → Nat}
theorem OwnL.vlt (h : OwnL w B q L v cs vb) {i : Nat} (hi : i < q) (hn : (oc cs i).n ≠ 0) : B ≤ vb i ∧ vb i < w.heap.size := by
  obtain ⟨ha, ho⟩ := h.val i hi hn
  have ho' : w.ownsRow B 35 4 (.slice (oc cs i).a (oc cs i).n (oc cs i).c) (ob L i).vals.length (fV (ob L i).vals) := ho
  exact ho'.lt (vb i) (by rw [ha]; rfl)
theorem OwnL.zero (hB : B ≤ w.heap.size) : OwnL w B 0 L (.slice none 0 0) [] vb :=
  ⟨rfl, World.ownsRow_nil _ _ _ _, fun i hi => by omega, fun i hi => by omega, fun i hi => by omega, fun i hi => by omega, fun i hi => by omega, fun i hi => by omega, fun i j h1 h2 => by omega⟩
theorem OwnL.below (h : OwnL w B q L v cs vb) (hb : Below w.heap.size w w') : OwnL w' B q L v cs vb :=
  ⟨h.len, own_carry h.row hb, h.kind, h.of, h.text, h.vlen, h.nil, fun i hi hn => ⟨(h.val i hi hn).1, own_carry (h.val i hi hn).2 hb⟩, h.inc⟩
theorem own_oth {S : Nat → Prop} {B e s n : Nat} {u : Value} {l : List Value} (h : w.ownsRow B e s u n l) (hO : Oth S w w') (hS : ∀ g, u.ownBlock = some g → ¬ S g) : w'.ownsRow B e s u n l := by
  refine ⟨h.1, ?_⟩
  rcases h.2 with hn | ⟨g, cap, cur, rfl, hb, hgg, rest⟩
  · exact .inl hn
  · exact .inr ⟨g, cap, cur, rfl, hb, by rw [hO.block g (Array.getElem?_eq_some_iff.1 hgg).1 (hS g rfl)]; exact hgg, rest⟩
theorem OwnL.add (h : OwnL w B q L v cs vb) {B2 : Nat} {x : Oc} (hx : OwnV w B2 (.slice x.a x.n x.c) (ob L q).vals) (hB2 : B ≤ B2) (hlow : ∀ i, i < q → (oc cs i).n ≠ 0 → vb i < B2)
    (hk : x.kind = (ob L q).kind) (hf : x.of = (ob L q).of) (ht : x.text = (ob L q).text) (hl : (ob L q).vals.length = x.n) (hr : OwnO w' B v' (cs ++ [x])) (hO : Oth (fun b => v.ownBlock = some b) w w') :
    ∃ vb', OwnL w' B (q + 1) L v' (cs ++ [x]) vb' := by
  have hlen := h.len
  have hx' : w.ownsRow B2 35 4 (.slice x.a x.n x.c) (ob L q).vals.length (fV (ob L q).vals) := hx
  obtain ⟨gx, hgx⟩ : ∃ g, x.n ≠ 0 → x.a = some ⟨g, 0, none⟩ := by
    rcases hx'.2 with ⟨e, hn⟩ | ⟨g, cap, cur, e, _⟩
    · exact ⟨0, fun hc => absurd (by rw [← hl]; exact hn) hc⟩
    · exact ⟨g, fun _ => by simpa using congrArg (fun u => match u with | Value.slice a _ _ => a | _ => none) e⟩
  have hgl : x.n ≠ 0 → B2 ≤ gx ∧ gx < w.heap.size := fun hn => hx'.lt gx (by rw [hgx hn]; rfl)
  have hoc : ∀ i, i < q + 1 → oc (cs ++ [x]) i = if i = q then x else oc cs i := fun i hi => by rw [oc_app _ _ _ (by omega), hlen]
  refine ⟨fun i => if i = q then gx else vb i, by simp [hlen], hr, fun i hi => ?_, fun i hi => ?_, fun i hi => ?_, fun i hi => ?_, fun i hi => ?_, fun i hi => ?_, fun i j hij hj => ?_⟩
  · rw [hoc i hi]
    by_cases e : i = q
    · subst e; rw [if_pos rfl]; exact hk
    · rw [if_neg e]; exact h.kind i (by omega)
  · rw [hoc i hi]
    by_cases e : i = q
    · subst e; rw [if_pos rfl]; exact hf
    · rw [if_neg e]; exact h.of i (by omega)
  · rw [hoc i hi]
    by_cases e : i = q
    · subst e; rw [if_pos rfl]; exact ht
    · rw [if_neg e]; exact h.text i (by omega)
  · rw [hoc i hi]
    by_cases e : i = q
    · subst e; rw [if_pos rfl]; exact hl
    · rw [if_neg e]; exact h.vlen i (by omega)
  · rw [hoc i hi]
    by_cases e : i = q
    · subst e
      rw [if_pos rfl]
      intro hn
      rcases hx'.2 with ⟨e, hz⟩ | ⟨g, cap, cur, e, _⟩
      · have e2 := congrArg (fun u => match u with | Value.slice _ n c => (n, c) | _ => (0, 0)) e
        simpa using e2
      · rw [hn] at e; simp at e
    · rw [if_neg e]; exact h.nil i (by omega)
  · rw [hoc i hi]
    by_cases e : i = q
    · subst e
      rw [if_pos rfl, if_pos rfl]
      intro hn
      exact ⟨hgx hn, own_mono (own_oth hx' hO fun g hg hs => own_apart (n1 := 0) (n2 := 0) h.row hx hs hg rfl) hB2⟩
    · rw [if_neg e, if_neg e]
      intro hn
      obtain ⟨h1, h2⟩ := h.val i (by omega) hn
      exact ⟨h1, own_oth h2 hO fun g hg hs => own_apart (n1 := 0) (n2 := 0) h.row h2 hs hg rfl⟩
  · rw [hoc i (by omega), hoc j hj, if_neg (show ¬ i = q by omega)]
    by_cases e : j = q
    · subst e
      rw [if_pos rfl, if_pos rfl, if_neg (show ¬ i = j by omega)]
      intro h1 h2
      have := hlow i hij h1
      have := hgl h2
      omega
    · rw [if_neg e, if_neg e, if_neg (show ¬ i = q by omega)]
      exact h.inc i j hij (by omega)
theorem OwnL.rl (h : OwnL w B q L v cs vb) (hL : L.length = q) : ∃ a c, v = .slice a q c ∧ RL (fun _ => True) w a q c L := by
  have hl := h.len
  obtain ⟨a, c, rfl, hz, hr⟩ := ownO_ro (P := fun _ => True) h.row fun _ _ => trivial
  rw [hl] at hz
  refine ⟨a, c, by rw [hl], cs, hl, hL, hz, hr, fun i hi => ⟨h.kind i hi, h.of i hi, h.text i hi, h.vlen i hi, h.nil i hi, ?_⟩⟩
  by_cases hn : (oc cs i).n = 0
  · intro j hj
    rw [h.vlen i hi, hn] at hj
    omega
  · obtain ⟨a', c', e, _, hrv⟩ := ownV_rv (P := fun _ => True) (h.val i hi hn).2 fun _ _ => trivial
    have e2 := congrArg (fun u => match u with | Value.slice a _ _ => a | _ => none) e
    simp only at e2
    rw [e2]
    exact hrv
end

/-- A list whose objects' values may be cleared. -/
structure Clr (w : World) (g n lo : Nat) (xs : Nat → Oc) (vb : Nat → Nat) : Prop where
  cell : ∀ i, i < n → w.cell? ⟨g, i * 4 + 3, none⟩ = some (.slice (xs i).a (xs i).n (xs i).c)
  val : ∀ i, i < n → (xs i).n ≠ 0 → (xs i).a = some ⟨vb i, 0, none⟩ ∧ vb i ≠ g ∧ lo ≤ vb i ∧ vb i < w.heap.size ∧ Wrt w (vb i) ((xs i).n * 4)
  inc : ∀ i j, i < j → j < n → (xs i).n ≠ 0 → (xs j).n ≠ 0 → vb i < vb j
/-- The blocks that are changed when the first q are cleared. -/
def clrd (xs : Nat → Oc) (vb : Nat → Nat) (q : Nat) (b : Nat) : Prop := ∃ i, i < q ∧ (xs i).n ≠ 0 ∧ b = vb i
theorem Clr.go {w wr : World} {g n lo q : Nat} {xs : Nat → Oc} {vb : Nat → Nat} (h : Clr w g n lo xs vb) (hO : Oth (clrd xs vb q) w wr) (hq : q < n) :
    wr.cell? ⟨g, q * 4 + 3, none⟩ = some (.slice (xs q).a (xs q).n (xs q).c) ∧ ∃ w', (∀ ty, (Builtin.clear_ #[36] ty #[.slice (xs q).a (xs q).n (xs q).c]).run Try.prog wr = .ok (.tuple #[]) w') ∧ Oth (clrd xs vb (q + 1)) w w' := by
  have hc := h.cell q hq
  have hg := block_lt_of_cell hc
  have hgg : wr.heap[g]? = w.heap[g]? := hO.block g hg fun ⟨i, hi, hn, e⟩ => (h.val i (by omega) hn).2.1 e.symm
  refine ⟨cell_block hgg hc, ?_⟩
  obtain ⟨w', h1, h2⟩ := clear_wrt (w := wr) (xs q).a (xs q).n (xs q).c (vb q) fun hn => by
    obtain ⟨e, _, _, hlt, hw⟩ := h.val q hq hn
    refine ⟨e, hw.of_block (hO.block _ hlt fun ⟨i, hi, hni, e⟩ => ?_)⟩
    have := h.inc i q hi hq hni hn
    omega
  have m1 : Oth (clrd xs vb (q + 1)) w wr := ⟨hO.os, hO.tape, hO.output, hO.size, fun b hb hs => hO.block b hb fun ⟨i, hi, hn, e⟩ => hs ⟨i, by omega, hn, e⟩⟩
  exact ⟨w', h1, m1.trans ⟨h2.os, h2.tape, h2.output, h2.size, fun b hb hs => h2.block b hb fun ⟨hn, e⟩ => hs ⟨q, by omega, hn, e⟩⟩⟩
theorem Clr.keep {w w' : World} {g n lo : Nat} {xs : Nat → Oc} {vb : Nat → Nat} (h : Clr w g n lo xs vb) (hlo : 0 < n → lo ≤ g) (hs : w.heap.size ≤ w'.heap.size) (hb : ∀ b, lo ≤ b → b < w.heap.size → w'.heap[b]? = w.heap[b]?) : Clr w' g n lo xs vb :=
  ⟨fun i hi => cell_block (hb g (hlo (by omega)) (block_lt_of_cell (h.cell i hi))) (h.cell i hi), fun i hi hn => by
    obtain ⟨h1, h2, h3, h4, h5⟩ := h.val i hi hn
    exact ⟨h1, h2, h3, by omega, h5.of_block (hb _ h3 h4)⟩, h.inc⟩
theorem OwnL.clr {w : World} {B q : Nat} {L : List Ob} {a : Option Addr} {k : Nat} {cs : List Oc} {vb : Nat → Nat} (h : OwnL w B q L (.slice a q k) cs vb) : ∃ g, (0 < q → a = some ⟨g, 0, none⟩ ∧ B ≤ g) ∧ Clr w g q B (oc cs) vb := by
  have hl := h.len
  have hrow : w.ownsRow B 45 4 (.slice a q k) cs.length (fO cs) := h.row
  by_cases h0 : q = 0
  · exact ⟨0, fun hc => by omega, fun i hi => by omega, fun i hi => by omega, fun i j h1 h2 => by omega⟩
  · obtain ⟨g, cap, e, hg1, hg2⟩ := hrow.form (by omega)
    have e1 : a = some ⟨g, 0, none⟩ := by simpa using congrArg (fun u => match u with | Value.slice a _ _ => a | _ => none) e
    have e2 : k = cap := by simpa using congrArg (fun u => match u with | Value.slice _ _ c => c | _ => 0) e
    subst e1
    subst e2
    rw [← hl] at hrow
    refine ⟨g, fun _ => ⟨rfl, hg1⟩, fun i hi => ?_, fun i hi hn => ?_, h.inc⟩
    · rw [hrow.cellAt (i * 4 + 3) (by omega), fO_get _ _ (by omega) 3 (by omega)]
      rfl
    · obtain ⟨e1, ho⟩ := h.val i hi hn
      have hlt := h.vlt hi hn
      refine ⟨e1, fun e => ?_, hlt.1, hlt.2, ?_⟩
      · exact own_apart (n1 := 0) (n2 := 0) h.row ho (g1 := g) (g2 := vb i) rfl (by rw [e1]; rfl) e.symm
      · rw [e1] at ho
        have ho' : w.ownsRow B 35 4 (.slice (some ⟨vb i, 0, none⟩) (oc cs i).n (oc cs i).c) (ob L i).vals.length (fV (ob L i).vals) := ho
        rw [h.vlen i hi] at ho'
        refine ⟨fun j hj => ?_, fun o => ho'.frozenAt o⟩
        rw [ho'.cellAt j hj, List.getElem?_eq_getElem (by rw [fV_len, h.vlen i hi]; exact hj)]
        rfl
theorem Objs.clr {w : World} {B g n : Nat} {L : List Ob} {xs : Nat → Oc} {vb : Nat → Nat} (h : Objs w B g n n L xs vb) : Clr w g n B xs vb := by
  refine ⟨fun i hi => (flO_at h.row hi).c3, fun i hi hn => ?_, fun i j h1 h2 => h.inc i j h1 h2⟩
  obtain ⟨h1, h2, h3⟩ := h.lo i hi hn
  rcases (h.vals i hi).2.2 with e | ⟨e, hr⟩
  · exact absurd e hn
  · exact ⟨e, by omega, h1, h3, fun j hj => by rw [hr.cell hj]; rfl, fun o => hr.frozen o⟩
theorem Hp.cleared {w w' : World} {own : Owns} {k p room q : Nat} {m : M} {xs : Nat → Oc} {vb : Nat → Nat} (h : Hp w own k p room m) (hO : Oth (clrd xs vb q) w w') (hS : ∀ i, i < q → (xs i).n ≠ 0 → (own (vb i)).1 ≠ k ∧ (own (vb i)).1 ≠ 0) : Hp w' own k p room m :=
  h.oth hO fun b ⟨i, hi, hn, e⟩ => by rw [e]; exact hS i hi hn
theorem below_cleared {B : Nat} {W w w' : World} {q : Nat} {xs : Nat → Oc} {vb : Nat → Nat} (h : Below B W w) (hle : B ≤ w.heap.size) (hO : Oth (clrd xs vb q) w w') (hS : ∀ i, i < q → (xs i).n ≠ 0 → B ≤ vb i) : Below B W w' :=
  h.trans ⟨hO.os, hO.tape, hO.output, hO.size, fun b hb => hO.block b (by omega) fun ⟨i, hi, hn, e⟩ => by have := hS i hi hn; omega⟩
end
end Go.Proofs.Ytfeeikajekemlaa

namespace Go.Proofs.Ytfeeikajekemlaa
section
open Go.RowKit
set_option linter.unusedVariables false
set_option linter.unusedSimpArgs false
set_option maxRecDepth 100000

/-- Both refuse, or both load. -/
theorem load_both (cells : Int) (a : Option Addr) (len cap : Nat) (L : List Ob) (W : World) (z : RL (fun _ => True) W a len cap L) (hS : Some_ L) (wr : World) (A : Option Addr) (c : Nat) (hR : RL (fun _ => True) wr A len c L) (own : Owns) (fz : Fz wr own) (hown : ∀ b, (own b).1 ≠ 1) :
    (∃ f : Nat, 0 < f ∧ f ≤ 21 ∧ Hid (Calls Try.prog 17 #[.int .i64 cells, .slice A len c] wr fun e w' => e = .returned (.tuple #[.pointer none, .int .i64 (f : Nat)]) ∧ Below wr.heap.size wr w') ∧ Hid (∀ w', Below W.heap.size W w' → Calls Try.prog 18 #[.int .i64 cells, .slice a len cap] w' (RefP f 0 w'))) ∨
    (∃ room : Nat, costs L ≤ 65536 ∧ Hid (Calls Try.prog 17 #[.int .i64 cells, .slice A len c] wr fun e w' => e = .returned (.tuple #[.pointer (some ⟨wr.heap.size, 0, none⟩), .int .i64 0]) ∧ MadeP wr own 1 wr.heap.size room ⟨costs L, L⟩ w') ∧ Hid (∀ w', Below W.heap.size W w' → Calls Try.prog 18 #[.int .i64 cells, .slice a len cap] w' (RefP 0 (costs L) w'))) := by
  by_cases hc : cells < 0 ∨ 65536 < cells
  · exact .inl ⟨1, by omega, by omega, Lib.hid (load_bad cells A len c wr hc (Lib.hid fun w => new_bad cells w hc)), Lib.hid fun w' hb => ref_bad cells a len cap w' hc⟩
  · obtain ⟨room, rfl⟩ : ∃ room : Nat, cells = (room : Int) := ⟨cells.toNat, by omega⟩
    have hroom : room ≤ 65536 := by omega
    have h1 := load_any room hroom A len c L wr _ hR hS own fz hown
    have h2 := fun w' (hb : Below W.heap.size W w') => ref_any room hroom a len cap L w' _ (z.kp (kp_below hb)) hS
    unfold LoadP at h1
    unfold refE refC at h2
    cases hm : mayL L with
    | false =>
      simp only [hm, if_true] at h1 h2
      exact .inl ⟨1, by omega, by omega, Lib.hid h1, Lib.hid h2⟩
    | true =>
      by_cases hf : room < costs L
      · simp only [hm, hf, if_true, if_false, Bool.true_eq_false] at h1 h2
        exact .inl ⟨21, by omega, by omega, Lib.hid h1, Lib.hid h2⟩
      · simp only [hm, hf, if_true, if_false, Bool.true_eq_false] at h1 h2
        exact .inr ⟨room, by omega, Lib.hid h1, Lib.hid h2⟩

/-- A round: an object more, its values in a row of their own. -/
theorem OwnL.round {W wr w3 W5 w6 : World} {q : Nat} {L : List Ob} {v v6 : Value} {cs : List Oc} {vb : Nat → Nat} {x : Oc} (h : OwnL wr W.heap.size q L v cs vb) (hB : Below W.heap.size W wr) (hb3 : Below wr.heap.size wr w3)
    (h3 : OwnV w3 (wr.heap.size + 1) (.slice x.a x.n x.c) (ob L q).vals) (hk : x.kind = (ob L q).kind) (hf : x.of = (ob L q).of) (ht : x.text = (ob L q).text) (hl : (ob L q).vals.length = x.n)
    (u : Value) (o : Obj) (hW5 : W5 = (w3.setCell ⟨wr.heap.size, 3, none⟩ u).alloc o) (h6 : OwnO w6 W.heap.size v6 (cs ++ [x])) (hO6 : Oth (fun b => v.ownBlock = some b) W5 w6) :
    (∃ vb', OwnL w6 W.heap.size (q + 1) L v6 (cs ++ [x]) vb') ∧ Below W.heap.size W w6 := by
  have hz := hB.size
  have hB5 : Below wr.heap.size wr W5 := by rw [hW5]; exact (hb3.setCell (Nat.le_refl _) _).alloc (by simp; exact hb3.size) _
  have h5 := h.below hB5
  have hx5 : OwnV W5 (wr.heap.size + 1) (.slice x.a x.n x.c) (ob L q).vals := by
    rw [hW5]
    exact own_oth h3 (((Oth.refl (fun b => b = wr.heap.size) w3).set (q := ⟨wr.heap.size, 3, none⟩) rfl u).alloc o) fun g hg hs => by
      have h3' : w3.ownsRow (wr.heap.size + 1) 35 4 (.slice x.a x.n x.c) (ob L q).vals.length (fV (ob L q).vals) := h3
      have := (h3'.lt g hg).1
      omega
  refine ⟨h5.add hx5 (by omega) (fun i hi hn => by have := (h.vlt hi hn).2; omega) hk hf ht hl h6 hO6, ?_⟩
  have hB5' := hB.trans (hB5.mono hz)
  have hrow : W5.ownsRow W.heap.size 45 4 v cs.length (fO cs) := h5.row
  exact hB5'.trans ⟨hO6.os, hO6.tape, hO6.output, hO6.size, fun b hb => hO6.block b (by have := hB5.size; omega) fun hs => by have := (hrow.lt b hs).1; omega⟩
end
end Go.Proofs.Ytfeeikajekemlaa

namespace Go.Proofs.Ytfeeikajekemlaa
section
open Go.RowKit Go.Sort
set_option linter.unusedVariables false
set_option linter.unusedSimpArgs false
set_option maxRecDepth 100000

set_option maxHeartbeats 16000000 in
theorem heapLoads_walk (W : World) (cells : Int) (a : Option Addr) (len cap : Nat) (L : List Ob) (z : RL (fun _ => True) W a len cap L) :
    Calls Try.prog 4 #[.int .i64 cells, .slice a len cap] W fun e w' => e = .returned (.bool true) ∧ Below W.heap.size W w' := by
  have HA := Lib.hid fun w' => awake_any w'
  have HG := Lib.hid (great_l a len cap L W _ z)
  have hL : L.length = len := by obtain ⟨_, _, h, _⟩ := z; exact h
  replace z := Lib.hid z
  replace hL := Lib.hid hL
  go_enter Try.func4, Try.ntmps4
  go_wp2_with fail
  refine HG.out.mono ?_
  rintro e w1 ⟨g, rfl, hg, hb1⟩
  clear HG
  cases g
  case true =>
    go_wp2_with ((with_reducible refine (HA.out _).mono ?_); rintro e w3 ⟨rfl, hb⟩)
    go_ret
    exact ⟨rfl, below_step hb1 hb⟩
  case false =>
    have hS := hg rfl
    have hlen : len ≤ 3000 := by rw [← hL.out]; exact hS.len
    replace hS := Lib.hid hS
    replace hb1 := Lib.hid hb1
    clear hg
    go_wp2_with fail
    go_loopw [5, 6] (fun s j wr => ∃ q A k cs vb, q ≤ len ∧ s = .slice A q k ∧ j = .int .i64 q ∧ Hid (OwnL wr W.heap.size q L (.slice A q k) cs vb) ∧ Hid (Below W.heap.size W wr)) (fun v j _ => len - (intOf j).toNat)
    case atStart => exact ⟨0, none, 0, [], fun _ => 0, Nat.zero_le _, rfl, rfl, Lib.hid (OwnL.zero hb1.out.size), hb1⟩
    case round =>
      obtain ⟨q, A, k, cs, vb, hq, rfl, rfl, hO, hB⟩ := hrel
      by_cases hlt : q < len
      · obtain ⟨cs0, lc, -, -, hr, hk⟩ := z.out
        obtain ⟨g, o, rfl, _, hat⟩ := (hr.kp (kp_below hB.out)) q (by omega)
        have k1 := (hk q hlt).kp (kp_below hB.out)
        obtain ⟨⟨ek, ef, et, ea, en, ec⟩, hE⟩ : ∃ x, oc cs0 q = x := ⟨_, rfl⟩
        rw [hE] at hat k1
        have hn : en ≤ 3000 := by have := hS.out.vals q (by rw [hL.out]; exact hlt); rw [k1.len] at this; exact this
        have kk1 := Lib.hid k1.kind
        have kk2 := Lib.hid k1.of
        have kk3 := Lib.hid k1.text
        have kk4 := Lib.hid k1.len
        have kk5 := Lib.hid k1.nil
        have kk6 := Lib.hid k1.row
        obtain ⟨x0, x1, x2, x3⟩ := hat
        simp only at x0 x1 x2 x3
        clear k1 hE hr hk lc
        obtain ⟨W2, hW2⟩ : ∃ W2, W2 = (wr.alloc (.cells #[.int .u8 ek, .int .i64 ef, .string et, .slice ea en ec] 45)).alloc (.cells #[] 35) := ⟨_, rfl⟩
        have hB2 : Below wr.heap.size wr W2 := by rw [hW2]; go_grown
        have hz2 : W2.heap.size = wr.heap.size + 1 + 1 := by rw [hW2]; simp
        have R2 : W2.rowIs wr.heap.size 45 4 (ocF ⟨ek, ef, et, ea, en, ec⟩) := by rw [hW2]; exact (box_row wr ⟨ek, ef, et, ea, en, ec⟩).alloc _
        have hE2 : OwnV W2 (wr.heap.size + 1) (.slice (some ⟨wr.heap.size + 1, 0, none⟩) 0 0) [] := by
          rw [hW2]
          have := ownV_empty (w := wr.alloc (.cells #[.int .u8 ek, .int .i64 ef, .string et, .slice ea en ec] 45)) (B := wr.heap.size + 1) (by simp)
          simpa using this
        have hle := hB.out.size
        have hcl := hO.out.len
        have hvs := hO.out.row
        have hB3 : Hid (∀ w3, Below (wr.heap.size + 1) W2 w3 → Below wr.heap.size wr w3) := Lib.hid fun w3 h => hB2.trans (h.mono (by omega))
        replace hW2 := Lib.hid hW2
        replace hB2 := Lib.hid hB2
        replace hz2 := Lib.hid hz2
        replace R2 := Lib.hid R2
        replace hE2 := Lib.hid hE2
        replace hcl := Lib.hid hcl
        replace hvs := Lib.hid hvs
        go_wp2_with (first | (rw [← hW2.out]; refine wpList_appV rfl (.tmp 28) (.tmp 30) rfl (wr.heap.size + 1) (.slice (some ⟨wr.heap.size + 1, 0, none⟩) 0 0) [] (ob L q).vals (fun _ => True) ea en ec rfl rfl kk5.out kk4.out (kk6.out.kp (kp_below hB2.out)) hE2.out (by rw [hz2.out]; omega) (by simp; omega) ?_; intro v3 w3 h3 hb3; rw [List.nil_append] at h3; obtain ⟨a3, c3, rfl⟩ := own_form h3; rw [kk4.out] at h3 ⊢; have hb3' := Lib.hid (hB3.out w3 hb3); have R3 := (R2.out.of_block (hb3.block wr.heap.size (by omega))); replace h3 := Lib.hid h3; clear hb3; have r0 : w3.cell? ⟨wr.heap.size, 0, none⟩ = some (.int .u8 ek) := R3.cell (i := 0) (by omega); have r1 : w3.cell? ⟨wr.heap.size, 1, none⟩ = some (.int .i64 ef) := R3.cell (i := 1) (by omega); have r2 : w3.cell? ⟨wr.heap.size, 2, none⟩ = some (.string et) := R3.cell (i := 2) (by omega); have r3 : w3.cell? ⟨wr.heap.size, 3, none⟩ = some (.slice ea en ec) := R3.cell (i := 3) (by omega); have rf : ∀ o, w3.frozen? ⟨wr.heap.size, o, none⟩ = false := (fun o => R3.frozen o); have lq := R3.lt; clear R3; have hro : Hid (RO (fun _ => True) ((w3.setCell ⟨wr.heap.size, 3, none⟩ (.slice a3 en c3)).alloc (.cells #[.int .u8 ek, .int .i64 ef, .string et, .slice a3 en c3] 45)) (some ⟨w3.heap.size, 0, none⟩) [⟨ek, ef, et, a3, en, c3⟩]) := Lib.hid (by have := ro_one (w := w3.setCell ⟨wr.heap.size, 3, none⟩ (.slice a3 en c3)) #[.int .u8 ek, .int .i64 ef, .string et, .slice a3 en c3] ⟨ek, ef, et, a3, en, c3⟩ rfl; simpa using this); have hB5 : Hid (Below wr.heap.size wr ((w3.setCell ⟨wr.heap.size, 3, none⟩ (.slice a3 en c3)).alloc (.cells #[.int .u8 ek, .int .i64 ef, .string et, .slice a3 en c3] 45))) := Lib.hid ((hb3'.out.setCell (Nat.le_refl _) _).alloc (by simp; exact hb3'.out.size) _)) | (refine wpList_appO2 rfl (.tmp 33) (.tmp 35) rfl W.heap.size (.slice A q k) cs ⟨ek, ef, et, a3, en, c3⟩ ⟨w3.heap.size, 0, none⟩ 1 rfl rfl hro.out (own_carry hvs.out hB5.out) (Nat.le_trans hle hB5.out.size) (by rw [hcl.out]; omega) ?_; intro v6 w6 h6 hO6; obtain ⟨A6, k6, rfl⟩ := own_form h6; have hl6 : (cs ++ [(⟨ek, ef, et, a3, en, c3⟩ : Oc)]).length = q + 1 := (by simp [hcl.out]); rw [hl6] at h6 ⊢; have hRd := Lib.hid (hO.out.round (x := ⟨ek, ef, et, a3, en, c3⟩) hB.out hb3'.out h3.out kk1.out kk2.out kk3.out kk4.out _ _ rfl h6 hO6); clear h6 hO6 hl6))
        go_roundw
        case rel =>
          obtain ⟨⟨vb', h'⟩, hb'⟩ := hRd.out
          exact ⟨q + 1, A6, k6, _, vb', hlt, rfl, by go_num, Lib.hid h', Lib.hid hb'⟩
        case measure => simp [intOf]; omega
      · obtain rfl : q = len := by omega
        obtain ⟨A', k', e, hRL⟩ := hO.out.rl hL.out
        cases e
        obtain ⟨g, hgA, hClr⟩ := hO.out.clr
        obtain ⟨own, hown⟩ : ∃ own : Owns, own = fun b => if W.heap.size ≤ b ∧ b < wr.heap.size then (20, 0) else (0, 0) := ⟨_, rfl⟩
        have fz : Fz wr own := fun b hb => by rw [hown]; exact if_neg (by omega)
        have hown1 : ∀ b, (own b).1 ≠ 1 := fun b => by rw [hown]; simp only; split <;> simp
        have hlab := Lib.hid fun b (h1 : W.heap.size ≤ b) (h2 : b < wr.heap.size) => show own b = (20, 0) by rw [hown]; exact if_pos ⟨h1, h2⟩
        have hboth := load_both cells a q cap L W z.out hS.out wr A k hRL own fz hown1
        have hgA' := Lib.hid hgA
        replace hClr := Lib.hid hClr
        replace hown1 := Lib.hid hown1
        clear hown fz hRL hO hgA
        rcases hboth with ⟨f, f0, f21, HLd, HRf⟩ | ⟨room, hcost, HLd, HRf⟩
        · have e9 : ((f : Int) != 0) = true := by rw [bne_iff_ne]; omega
          clear hClr hlab hgA'
          go_wp2_with (first | ((with_reducible refine HLd.out.mono ?_); rintro e w2 ⟨rfl, hb2⟩; have hB2 := Lib.hid (hB.out.trans (hb2.mono hB.out.size)); clear hb2) | ((with_reducible refine (HRf.out _ hB2.out).mono ?_); rintro e w3 ⟨r, a3, n3, k3, rfl, hb3⟩; have hB3 := Lib.hid (below_step hB2.out hb3); clear hb3))
          obtain ⟨W4, hW4⟩ : ∃ W4, W4 = w3.alloc (.cells #[.int .i64 r, .int .i64 0, .slice a3 n3 k3] 31) := ⟨_, rfl⟩
          rw [← hW4]
          have y1 : W4.cell? ⟨w3.heap.size, 1, none⟩ = some (.int .i64 0) := by rw [hW4]; exact (h_box w3 r 0 (.slice a3 n3 k3)).cell (i := 1) (by omega)
          have hB4 := Lib.hid (show Below W.heap.size W W4 by rw [hW4]; exact hB3.out.alloc hB3.out.size _)
          clear hW4 hB3 hB2 HLd HRf
          have z1 := fun D os => cell_regrown (w := W4) y1 D os
          have hc : ∀ D os, Calls Try.prog 13 #[.pointer none] (grow (redrawn W4 D) os) fun e w'' => e = .returned (.int .i64 0) ∧ ∃ p : Regrown, w'' = grow (redrawn W4 p.d) p.os := fun D os => Calls.regrown_of ((cells_nil _).mono fun e w'' h => ⟨h.1, by rw [← h.2]; exact Below.refl _ _⟩)
          clear y1
          refine wp_region_quiet_below (by kernel_rfl) (by kernel_rfl) ?_
          repeat (quiet_step (first | with_reducible exact hc _ _))
          refine wpQuiet_nil ?_
          rintro _ ⟨⟨dq, osq⟩, rfl⟩
          have hb5 := below_step hB4.out (below_regrown W4 dq osq)
          generalize grow (redrawn W4 dq) osq = w5 at *
          clear z1 hc
          go_wp2_with ((with_reducible refine (HA.out _).mono ?_); rintro e w7 ⟨rfl, hb7⟩)
          go_ret
          exact ⟨rfl, below_step hb5 hb7⟩
        · have hq3 : q ≤ 3000 := hlen
          go_wp2_with (first | ((with_reducible refine HLd.out.mono ?_); rintro e w2 ⟨rfl, own2, h2, f2, s2⟩; have hB2 := Lib.hid (hB.out.trans ((s2.below_ne fun b _ => hown1.out b).mono hB.out.size)); replace h2 := Lib.hid h2; replace f2 := Lib.hid f2; replace s2 := Lib.hid s2) | ((with_reducible refine (HRf.out _ hB2.out).mono ?_); rintro e w3 ⟨r, a3, n3, k3, rfl, hb3⟩; replace hb3 := Lib.hid hb3))
          obtain ⟨W4, hW4⟩ : ∃ W4, W4 = w3.alloc (.cells #[.int .i64 r, .int .i64 (costs L : Nat), .slice a3 n3 k3] 31) := ⟨_, rfl⟩
          rw [← hW4]
          have y1 : W4.cell? ⟨w3.heap.size, 1, none⟩ = some (.int .i64 (costs L : Nat)) := by rw [hW4]; exact (h_box w3 r (costs L : Nat) (.slice a3 n3 k3)).cell (i := 1) (by omega)
          have hB24 : Below w2.heap.size w2 W4 := by rw [hW4]; exact hb3.out.alloc hb3.out.size _
          have HC := Lib.hid fun w' (hb : Below W4.heap.size W4 w') => cells_any ((h2.out.below hB24).below hb)
          have h4 := Lib.hid (h2.out.below hB24)
          have hB4 := Lib.hid (below_step hB2.out hB24)
          replace hB24 := Lib.hid hB24
          clear hW4 hB2 HLd HRf
          simp only at HC
          obtain ⟨cL, hcL⟩ : ∃ c, costs L = c := ⟨_, rfl⟩
          rw [hcL] at HC y1 hcost ⊢
          replace hcL := Lib.hid hcL
          have z1 := fun D os => cell_regrown (w := W4) y1 D os
          have hc : ∀ D os, Calls Try.prog 13 #[.pointer (some ⟨wr.heap.size, 0, none⟩)] (grow (redrawn W4 D) os) fun e w'' => e = .returned (.int .i64 (cL : Nat)) ∧ ∃ p : Regrown, w'' = grow (redrawn W4 p.d) p.os := fun D os => Calls.regrown_of ((HC.out _ (below_regrown _ _ _)).mono fun e w'' h => ⟨h.1, by rw [← h.2]; exact Below.refl _ _⟩)
          clear y1
          refine wp_region_quiet_below (by kernel_rfl) (by kernel_rfl) ?_
          repeat (quiet_step (first | with_reducible exact hc _ _))
          refine wpQuiet_nil ?_
          rintro _ ⟨⟨dq, osq⟩, rfl⟩
          have hb5 := Lib.hid (below_regrown W4 dq osq)
          generalize grow (redrawn W4 dq) osq = w5 at *
          clear z1 hc
          have h5 := Lib.hid (h4.out.below hb5.out)
          have hB5 := Lib.hid (below_step hB4.out hb5.out)
          have hB25 := Lib.hid (below_step hB24.out hb5.out)
          have HAll := Lib.hid (all_any h5.out)
          unfold AllP at HAll
          simp only at HAll
          rw [hL.out] at HAll
          go_wp2_with (refine HAll.out.mono ?_; rintro e w6 ⟨xs, vbx, rfl, hObj, hb6⟩; replace hObj := Lib.hid hObj; replace hb6 := Lib.hid hb6)
          have hBr6 := (s2.out.below_ne fun b _ => hown1.out b).trans ((below_step hB25.out hb6.out).mono s2.out.size)
          have hB6 := Lib.hid (below_step hB5.out hb6.out)
          have hlt5 : wr.heap.size ≤ w5.heap.size := by have := s2.out.size; have := hB25.out.size; omega
          have hle := hB.out.size
          have hlt6 := hb6.out.size
          have hz6 := hBr6.size
          have hClr6 := Lib.hid (hClr.out.keep (w' := w6) (fun h0 => (hgA'.out h0).2) hz6 fun b _ hb => hBr6.block b hb)
          have hClrA := Lib.hid hObj.out.clr
          obtain ⟨own3, hown3⟩ : ∃ o : Owns, o = fun b => if w5.heap.size ≤ b ∧ b < w6.heap.size then (21, 0) else own2 b := ⟨_, rfl⟩
          have hp6 : Hp w6 own3 1 wr.heap.size room ⟨costs L, L⟩ := h5.out.keep hb6.out.size hb6.out.os hb6.out.tape hb6.out.output fun b hb _ => ⟨by rw [hown3]; exact if_neg (by omega), hb6.out.block b hb⟩
          have hl3 := Lib.hid fun b (h1 : w5.heap.size ≤ b) (h2 : b < w6.heap.size) => show own3 b = (21, 0) by rw [hown3]; exact if_pos ⟨h1, h2⟩
          have hl2 := Lib.hid fun b (h1 : W.heap.size ≤ b) (h2 : b < wr.heap.size) => show own3 b = (20, 0) by rw [hown3]; simp only; rw [if_neg (by omega), s2.out.ownE b h2]; exact hlab.out b h1 h2
          have hvlt := Lib.hid fun i (hi : i < q) (hn : (oc cs i).n ≠ 0) => (hClr.out.val i hi hn).2.2
          replace hp6 := Lib.hid hp6
          clear hown3 hBr6 h2 f2 s2 hb3 hB24 h4 hB4 HC hb5 h5 hB25 HAll hObj hb6 hown1 hlab hClr hB5 hcL hcost
          go_loopw [13] (fun j wz => ∃ i : Nat, i ≤ q ∧ j = .int .i64 i ∧ Hid (Oth (clrd (oc cs) vb i) w6 wz)) (fun j _ => q - (intOf j).toNat)
          case atStart => exact ⟨0, Nat.zero_le _, rfl, Lib.hid (Oth.refl _ _)⟩
          case round =>
            obtain ⟨i, hi, rfl, hO⟩ := hrel
            by_cases hil : i < q
            · obtain ⟨rfl, _⟩ := hgA'.out (by omega)
              obtain ⟨hcell, w', hcl, hO'⟩ := hClr6.out.go hO.out hil
              generalize (oc cs i).a = a5 at hcell hcl
              generalize (oc cs i).n = n5 at hcell hcl
              generalize (oc cs i).c = c5 at hcell hcl
              replace hO' := Lib.hid hO'
              go_wp2_with (simp only [hcl])
              go_roundw
              case rel => exact ⟨i + 1, hil, by go_num, hO'⟩
              case measure => simp [intOf]; omega
            · obtain rfl : i = q := by omega
              have hp7 := Lib.hid (hp6.out.cleared hO.out fun j hj hn => by rw [hl2.out (vb j) (hvlt.out j hj hn).1 (hvlt.out j hj hn).2.1]; exact ⟨by decide, by decide⟩)
              have hB7 := Lib.hid (below_cleared hB6.out (by omega) hO.out fun j hj hn => (hvlt.out j hj hn).1)
              have hClrB := Lib.hid (hClrA.out.keep (w' := wr) (fun _ => Nat.le_refl _) hO.out.size fun b h1 h2 => hO.out.block b h2 fun ⟨j, hj, hn, e⟩ => by have := (hvlt.out j hj hn).2.1; omega)
              have hvltA := Lib.hid fun j (hj : j < i) (hn : (xs j).n ≠ 0) => (hClrA.out.val j hj hn).2.2
              have hle7 := hO.out.size
              clear hp6 hB6 hClr6 hClrA hvlt hl2 hO hgA' hB
              go_wp2_with fail
              go_loopw [14] (fun j wz => ∃ y : Nat, y ≤ i ∧ j = .int .i64 y ∧ Hid (Oth (clrd xs vbx y) wr wz)) (fun j _ => i - (intOf j).toNat)
              case atStart => exact ⟨0, Nat.zero_le _, rfl, Lib.hid (Oth.refl _ _)⟩
              case round =>
                obtain ⟨y, hy, rfl, hO⟩ := hrel
                by_cases hyl : y < i
                · obtain ⟨hcell, w', hcl, hO'⟩ := hClrB.out.go hO.out hyl
                  generalize (xs y).a = a5 at hcell hcl
                  generalize (xs y).n = n5 at hcell hcl
                  generalize (xs y).c = c5 at hcell hcl
                  replace hO' := Lib.hid hO'
                  go_wp2_with (simp only [hcl])
                  go_roundw
                  case rel => exact ⟨y + 1, hyl, by go_num, hO'⟩
                  case measure => simp [intOf]; omega
                · obtain rfl : y = i := by omega
                  have hp8 := hp7.out.cleared hO.out fun j hj hn => by rw [hl3.out (vbx j) (hvltA.out j hj hn).1 (hvltA.out j hj hn).2.1]; exact ⟨by decide, by decide⟩
                  have hB8 := Lib.hid (below_cleared hB7.out (by omega) hO.out fun j hj hn => by have := (hvltA.out j hj hn).1; omega)
                  have HAll2 := Lib.hid (all_any hp8)
                  unfold AllP at HAll2
                  simp only at HAll2
                  rw [hL.out] at HAll2
                  clear hp8 hp7 hB7 hClrB hvltA hl3 hO
                  go_wp2_with (first | ((with_reducible refine HAll2.out.mono ?_); rintro e w9 ⟨xs2, vb2, rfl, hObj2, hb9⟩; have hB9 := Lib.hid (below_step hB8.out hb9); have HSm := Lib.hid (same_lists _ _ y y cap L w9 (by omega) (fun j hj => by have := hS.out.vals j (by rw [hL.out]; exact hj); omega) _ _ (hObj2.rl (Nat.le_refl _) hL.out) (z.out.kp (kp_below hB9.out))); clear hObj2 hb9) | ((with_reducible refine HSm.out.mono ?_); rintro e w10 ⟨rfl, hb10⟩; have hB10 := Lib.hid (below_step hB9.out hb10); clear hb10) | ((with_reducible refine (HA.out _).mono ?_); rintro e w11 ⟨rfl, hb11⟩))
                  go_ret
                  exact ⟨rfl, below_step hB10.out hb11⟩
end
end Go.Proofs.Ytfeeikajekemlaa
