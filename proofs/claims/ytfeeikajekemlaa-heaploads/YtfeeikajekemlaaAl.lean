/-
  Contract of heap's All. Conditions: as said.
-/
import Derived.Test.YtfeeikajekemlaaWf
import Derived.Test.YtfeeikajekemlaaWb
import Derived.Test.YtfeeikajekemlaaWh
namespace Go.Proofs.Ytfeeikajekemlaa
open Go.RowKit
set_option linter.unusedVariables false
set_option linter.unusedSimpArgs false
set_option maxRecDepth 100000

def flO (F : Nat → Oc) (j : Nat) : Value := (ocCells (F (j / 4))).getD (j % 4) (.bool false)
theorem flO_at {w : World} {g n : Nat} {F : Nat → Oc} (h : w.rowIs g 45 (n * 4) (flO F)) {i : Nat} (hi : i < n) : AtO w g (i * 4) (F i) := by
  have key : ∀ r, r < 4 → w.cell? ⟨g, i * 4 + r, none⟩ = some ((ocCells (F i)).getD r (.bool false)) := fun r hr => by
    have := h.cell (i := i * 4 + r) (by omega)
    rw [this, flO, show (i * 4 + r) / 4 = i by omega, show (i * 4 + r) % 4 = r by omega]
  exact ⟨key 0 (by omega), key 1 (by omega), key 2 (by omega), key 3 (by omega)⟩
theorem flO_set {w : World} {g n : Nat} {F : Nat → Oc} (h : w.rowIs g 45 (n * 4) (flO F)) (i : Nat) (x : Oc) (G : Nat → Oc) (hG : ∀ q, q < n → G q = if q = i then x else F q) :
    ((((w.setCell ⟨g, i * 4, none⟩ (.int .u8 x.kind)).setCell ⟨g, i * 4 + 1, none⟩ (.int .i64 x.of)).setCell ⟨g, i * 4 + 2, none⟩ (.string x.text)).setCell ⟨g, i * 4 + 3, none⟩ (.slice x.a x.n x.c)).rowIs g 45 (n * 4) (flO G) := by
  refine ((((h.set _ _).set _ _).set _ _).set _ _).congr fun j hj => ?_
  have hd : j / 4 < n := by omega
  unfold flO
  rw [hG _ hd]
  by_cases e : j / 4 = i
  · rw [if_pos e]
    have hr : j % 4 < 4 := Nat.mod_lt _ (by omega)
    have hj2 : j = i * 4 + j % 4 := by omega
    generalize j % 4 = r at *
    subst hj2
    match r, hr with
    | 0, _ => simp [ocCells]
    | 1, _ => simp [ocCells]
    | 2, _ => simp [ocCells]
    | 3, _ => simp [ocCells]
  · rw [if_neg e, if_neg (by omega), if_neg (by omega), if_neg (by omega), if_neg (by omega)]
theorem run_make_objs (m : Nat) (hm : m ≤ 1000000) (w : World) : (Instr.makeSlice 29 (.int .i64 (m : Int)) (.int .i64 (m : Int))).run Try.prog w = .ok (.slice (some ⟨w.heap.size, 0, none⟩) m m) (w.alloc (.cells (madeCells #[.int .u8 0, .int .i64 0, .string { data := #[] }, .slice none 0 0] (m * 4)) 45)) := by
  obtain ⟨i0, hi0, hz0, hz1, hz2⟩ := info_parts Try.info45
  have := run_make (P := Try.prog) w 29 45 i0 _ Try.underlying29 hi0 hz0 .i64 .i64 m m (by omega) (Int.le_refl _) (by rw [hz2]; omega) (by omega)
  rw [hz1] at this
  simpa [Value.cells] using this
theorem made_objs (w : World) (n : Nat) : (w.alloc (.cells (madeCells #[.int .u8 0, .int .i64 0, .string { data := #[] }, .slice none 0 0] (n * 4)) 45)).rowIs w.heap.size 45 (n * 4) (flO fun _ => oc0) := by
  have := World.rowIs_alloc w (madeCells #[.int .u8 0, .int .i64 0, .string { data := #[] }, .slice none 0 0] (n * 4)) 45 (flO fun _ => oc0) (fun i hi => by
    rw [size_madeCells] at hi
    have e : flO (fun _ => oc0) i = (#[.int .u8 0, .int .i64 0, .string { data := #[] }, .slice none 0 0] : Array Value)[i % 4]! := by
      unfold flO
      have hj : i % 4 < 4 := Nat.mod_lt _ (by omega)
      generalize i % 4 = r at *
      match r, hj with
      | 0, _ => rfl
      | 1, _ => rfl
      | 2, _ => rfl
      | 3, _ => rfl
    rw [e]
    simp [madeCells, hi])
  rwa [size_madeCells] at this

/-- Objects in a row of their own, each with values of its own. -/
structure Objs (w : World) (B g n q : Nat) (L : List Ob) (xs : Nat → Oc) (vb : Nat → Nat) : Prop where
  row : w.rowIs g 45 (n * 4) (flO xs)
  none_ : ∀ i, q ≤ i → xs i = oc0
  kind : ∀ i, i < q → (xs i).kind = (ob L i).kind
  of : ∀ i, i < q → (xs i).of = (ob L i).of
  text : ∀ i, i < q → (xs i).text = (ob L i).text
  vals : ∀ i, i < q → VA w (xs i) (vb i) (ob L i).vals
  lo : ∀ i, i < q → (xs i).n ≠ 0 → B ≤ vb i ∧ g < vb i ∧ vb i < w.heap.size
  inc : ∀ i j, i < j → j < q → (xs i).n ≠ 0 → (xs j).n ≠ 0 → vb i < vb j
theorem Objs.rl {w : World} {B g n : Nat} {L : List Ob} {xs : Nat → Oc} {vb : Nat → Nat} (h : Objs w B g n n L xs vb) (hg : B ≤ g) (hn : L.length = n) : RL (fun b => B ≤ b) w (some ⟨g, 0, none⟩) n n L := by
  refine ⟨(List.range n).map xs, by simp, hn, (fun e => by cases e), fun i hi => ?_, fun i hi => ?_⟩
  · have hi' : i < n := by simpa using hi
    refine ⟨g, 0, rfl, hg, ?_⟩
    have e : oc ((List.range n).map xs) i = xs i := by simp [oc, List.getD, hi']
    rw [e, Nat.zero_add]
    exact flO_at h.row hi'
  · have e : oc ((List.range n).map xs) i = xs i := by simp [oc, List.getD, hi]
    rw [e]
    exact ⟨h.kind i hi, h.of i hi, h.text i hi, (h.vals i hi).1, (h.vals i hi).2.1, va_rv (h.vals i hi) fun hn => (h.lo i hi hn).1⟩

def AllP (w : World) (n : Nat) (L : List Ob) (e : Ending) (w' : World) : Prop := ∃ xs vb, e = .returned (.slice (some ⟨w.heap.size, 0, none⟩) n n) ∧ Objs w' w.heap.size w.heap.size n n L xs vb ∧ Below w.heap.size w w'

theorem objs_step {wr w2 w3 : World} {B g n q : Nat} {L : List Ob} {xs : Nat → Oc} {vb : Nat → Nat} {x : Oc} {vbx : Nat} (h : Objs wr B g n q L xs vb) (hq : q < n) (hB : B ≤ wr.heap.size) (hg : g < wr.heap.size) (hb : Below wr.heap.size wr w2) (hk : x.kind = (ob L q).kind) (hf : x.of = (ob L q).of) (ht : x.text = (ob L q).text) (hx : VA w2 x vbx (ob L q).vals) (hv : x.n ≠ 0 → wr.heap.size ≤ vbx)
    (h3 : w3 = ((((w2.setCell ⟨g, q * 4, none⟩ (.int .u8 x.kind)).setCell ⟨g, q * 4 + 1, none⟩ (.int .i64 x.of)).setCell ⟨g, q * 4 + 2, none⟩ (.string x.text)).setCell ⟨g, q * 4 + 3, none⟩ (.slice x.a x.n x.c))) :
    Objs w3 B g n (q + 1) L (fun i => if i = q then x else xs i) (fun i => if i = q then vbx else vb i) := by
  have hE : ∀ b, b ≠ g → w3.heap[b]? = w2.heap[b]? := fun b hb => by
    rw [h3]
    exact (set_other (q := ⟨g, q * 4 + 3, none⟩) hb).trans ((set_other (q := ⟨g, q * 4 + 2, none⟩) hb).trans ((set_other (q := ⟨g, q * 4 + 1, none⟩) hb).trans (set_other (q := ⟨g, q * 4, none⟩) hb)))
  have hs : w3.heap.size = w2.heap.size := by rw [h3]; simp
  have hsz := hb.size
  have hlx : x.n ≠ 0 → vbx < w2.heap.size := fun hn => by
    rcases hx.2.2 with h1 | ⟨_, h2⟩
    · exact absurd h1 hn
    · exact h2.lt
  refine ⟨?_, fun i hi => by rw [if_neg (by omega)]; exact h.none_ i (by omega), fun i hi => ?_, fun i hi => ?_, fun i hi => ?_, fun i hi => ?_, fun i hi hn => ?_, fun i j hij hj hni hnj => ?_⟩
  · rw [h3]
    exact flO_set (h.row.of_block (hb.block g hg)) q x _ fun i _ => rfl
  · by_cases e : i = q
    · subst e; simp only [if_true]; exact hk
    · simp only [if_neg e]; exact h.kind i (by omega)
  · by_cases e : i = q
    · subst e; simp only [if_true]; exact hf
    · simp only [if_neg e]; exact h.of i (by omega)
  · by_cases e : i = q
    · subst e; simp only [if_true]; exact ht
    · simp only [if_neg e]; exact h.text i (by omega)
  · by_cases e : i = q
    · subst e; simp only [if_true]
      exact hx.of_block fun hn => hE _ (by have := hv hn; omega)
    · simp only [if_neg e]
      exact (h.vals i (by omega)).of_block fun hn => by
        obtain ⟨h1, h2, h4⟩ := h.lo i (by omega) hn
        rw [hE _ (by omega)]; exact hb.block _ h4
  · by_cases e : i = q
    · subst e; simp only [if_true] at hn ⊢
      have := hv hn
      have := hlx hn
      omega
    · simp only [if_neg e] at hn ⊢
      obtain ⟨h1, h2, h4⟩ := h.lo i (by omega) hn
      omega
  · by_cases e : j = q
    · subst e
      have ei : i ≠ j := by omega
      simp only [if_true, if_neg ei] at hni hnj ⊢
      have := hv hnj
      have := (h.lo i (by omega) hni).2.2
      omega
    · have ei : i ≠ q := by omega
      simp only [if_neg e, if_neg ei] at hni hnj ⊢
      exact h.inc i j hij (by omega) hni hnj

theorem vals_le {room : Nat} {m : M} (h : OkM room m) (hr : room ≤ 65536) (i : Nat) (hi : i < m.L.length) : (ob m.L i).vals.length ≤ 65536 ∧ (ob m.L i).text.size ≤ 600000 := by
  have h1 := h.fits
  have h3 := part_cost (h.may _ (ob_mem hi))
  have h4 : cost (ob m.L i) ≤ costs m.L := by
    have : ∀ (L : List Ob) (j : Nat), j < L.length → cost (ob L j) ≤ costs L := by
      intro L
      induction L with
      | nil => intro j hj; simp at hj
      | cons a L ih =>
        intro j hj
        cases j with
        | zero => simp [ob, costs]
        | succ j =>
          have := ih j (by simpa using hj)
          have e : ob (a :: L) (j + 1) = ob L j := by simp [ob]
          rw [e]; simp [costs]; omega
    exact this m.L i hi
  have h5 := h.sum
  unfold part at h3
  omega

set_option maxHeartbeats 4000000 in
theorem all_any {w : World} {own : Owns} {k p room : Nat} {m : M} (h : Hp w own k p room m) : Calls Try.prog 15 #[.pointer (some ⟨p, 0, none⟩)] w (AllP w m.L.length m.L) := by
  obtain ⟨vo, va, bl, vb0, al, xs0, h⟩ := h
  have hlen := h.len
  obtain ⟨A, cA, hvo⟩ := own_form h.obs
  have c2 : w.cell? ⟨p, 2, none⟩ = some (.slice A m.L.length cA) := by rw [← hvo]; exact h.hd.cell (by omega)
  have hpl := h.hd.lt
  have hobj := Lib.hid fun i (hi : i < m.L.length) => h.obj hi
  have hat := Lib.hid fun i (hi : i < m.L.length) => h.at_ i hi
  have hvl := Lib.hid fun i (hi : i < m.L.length) => vals_le h.ok h.rm i hi
  replace hvo := Lib.hid hvo
  clear h
  obtain ⟨n, hn⟩ : ∃ n, m.L.length = n := ⟨_, rfl⟩
  rw [hn] at hlen c2 hobj hat hvl hvo ⊢
  clear hn
  have hmk := run_make_objs n (by omega)
  go_enter Try.func15, Try.ntmps15
  go_wp2_with fail
  obtain ⟨W, hW⟩ : ∃ W, W = w.alloc (.cells (madeCells #[.int .u8 0, .int .i64 0, .string { data := #[] }, .slice none 0 0] (n * 4)) 45) := ⟨_, rfl⟩
  have hO0 : Objs W w.heap.size w.heap.size n 0 m.L (fun _ => oc0) (fun _ => 0) := ⟨by rw [hW]; exact made_objs w n, fun _ _ => rfl, fun i hi => by omega, fun i hi => by omega, fun i hi => by omega, fun i hi => by omega, fun i hi => by omega, fun i j _ hj => by omega⟩
  have hBW : Below w.heap.size w W := by rw [hW]; go_grown
  have hzW : W.heap.size = w.heap.size + 1 := by rw [hW]; simp
  rw [← hW]
  replace hO0 := Lib.hid hO0
  replace hBW := Lib.hid hBW
  replace hzW := Lib.hid hzW
  clear hW hmk
  go_loopw [19] (fun j wr => ∃ q : Nat, q ≤ n ∧ j = .int .i64 q ∧ Below w.heap.size w wr ∧ w.heap.size < wr.heap.size ∧ ∃ xs vb, Objs wr w.heap.size w.heap.size n q m.L xs vb) (fun j _ => n - (intOf j).toNat)
  case atStart => exact ⟨0, Nat.zero_le _, rfl, hBW.out, by have := hzW.out; omega, _, _, hO0.out⟩
  case round =>
    obtain ⟨q, hq, rfl, hbl, hgl, xs, vb, hO⟩ := hrel
    by_cases hlt : q < n
    · obtain ⟨g1, cB, hv2, g0, hob⟩ := hobj.out q hlt
      rw [hvo.out] at hv2
      obtain ⟨rfl, rfl⟩ : A = some ⟨g1, 0, none⟩ ∧ cA = cB := by injection hv2 with a b c; exact ⟨a, c⟩
      have hA := hat.out q hlt
      have hV := hvl.out q hlt
      have hvn := hA.vals.1
      obtain ⟨x, hx⟩ : ∃ x, xs0 q = x := ⟨_, rfl⟩
      rw [hx] at hob hA hvn
      obtain ⟨kx, fx, tx, ax, nx, cx⟩ := x
      simp only at hvn
      have b0 := cell_carry hbl hob.c0
      have b1 := cell_carry hbl hob.c1
      have b2 := cell_carry hbl hob.c2
      have b3 := cell_carry hbl hob.c3
      simp only [Nat.zero_add] at b0 b1 b2 b3
      replace g0 := cell_carry hbl g0
      have c2' := cell_carry hbl c2
      have HT := Lib.hid (twin_any ⟨kx, fx, tx, ax, nx, cx⟩ (ob m.L q).vals wr (fun _ => True) hvn (fun e => (hA.vals.2.1 e).1) ((va_rv hA.vals fun _ => trivial).kp (kp_below hbl)) (by show nx ≤ 1000000; omega))
      obtain ⟨r0, r1, r2, r3⟩ := flO_at hO.row hlt
      rw [hO.none_ q (Nat.le_refl _)] at r0 r1 r2 r3
      simp only [oc0] at r0 r1 r2 r3
      have rf := hO.row.frozen
      have hkx := Lib.hid (And.intro hA.kind (And.intro hA.of hA.text))
      have hO' := Lib.hid hO
      have hbl' := Lib.hid hbl
      clear hV hvn hx hA hob hv2 hO hbl
      go_wp2_with ((with_reducible refine HT.out.mono ?_); rintro e w2 ⟨a', c', vbx, rfl, hva, hvb, hb2⟩; have hHO := hO'.out; replace r0 := cell_carry hb2 r0; replace r1 := cell_carry hb2 r1; replace r2 := cell_carry hb2 r2; replace r3 := cell_carry hb2 r3; replace rf := (fun o => ((bcell hb2).2 _ o hgl).trans (rf o) : ∀ o, w2.frozen? ⟨w.heap.size, o, none⟩ = false); replace hva := Lib.hid hva; replace hvb := Lib.hid hvb; have hb2' := Lib.hid hb2; have hgl2 : w.heap.size < w2.heap.size := (by have := hb2.size; omega); clear hb2 hHO b0 b1 b2 b3 g0 c2')
      go_roundw
      case rel =>
        refine ⟨q + 1, hlt, by go_num, ?_, ?_, _, _, objs_step (x := ⟨kx, fx, tx, a', nx, c'⟩) (vbx := vbx) hO'.out hlt (by omega) hgl hb2'.out hkx.out.1 hkx.out.2.1 hkx.out.2.2 hva.out hvb.out rfl⟩
        · exact (((((hbl'.out.trans (hb2'.out.mono hbl'.out.size))).setCell (Nat.le_refl _) _).setCell (Nat.le_refl _) _).setCell (Nat.le_refl _) _).setCell (Nat.le_refl _) _
        · simp; omega
      case measure => simp [intOf]; omega
    · obtain rfl : q = n := by omega
      replace hbl := Lib.hid hbl
      replace hO := Lib.hid hO
      go_wp2_with fail
      go_ret
      exact ⟨xs, vb, rfl, hO.out, hbl.out⟩

end Go.Proofs.Ytfeeikajekemlaa
