/-
  does, whatever the operation is. Conditions: texts of at most 1000 bytes, at most 300 fields. A row of operations is carried; what a list of objects costs, element by element; the same number of objects costs the same. Conditions: none. Contract of great. Conditions: none. What a nil heap answers; a new heap. Conditions: as said. Contract of awake: the document's example. Conditions: none. The document's Same over lists of objects that are the same. Conditions: at most 1000000 of them. What an object of the program costs, whatever a heap holds. Conditions: texts and rows of at most 1000000. Loops that do operations: what is known of a heap and of the document's in its box. Conditions: as said.
-/
import Derived.Test.YtfeeikajekemlaaD0
import Derived.Test.YtfeeikajekemlaaD1
import Derived.Test.YtfeeikajekemlaaD2
import Derived.Test.YtfeeikajekemlaaD3
import Derived.Test.YtfeeikajekemlaaD4
import Derived.Test.YtfeeikajekemlaaD5
import Derived.Test.YtfeeikajekemlaaOpn
import Derived.Test.YtfeeikajekemlaaWc
import Derived.Test.YtfeeikajekemlaaWk
import Derived.Test.YtfeeikajekemlaaWj
import Derived.Test.YtfeeikajekemlaaWl
import Derived.Test.YtfeeikajekemlaaSm
import Derived.Test.YtfeeikajekemlaaAl
import Derived.Test.YtfeeikajekemlaaWa
namespace Go.Proofs.Ytfeeikajekemlaa
section
open Go.RowKit
set_option linter.unusedVariables false
set_option linter.unusedSimpArgs false

/-- How many elements a list is to have. -/
def clampN (n : Int) : Int := if n < -1 then -1 else if 1099511627776 < n then 1099511627776 else n
/-- The heap behind an operation. -/
def stepM (room : Nat) (m : M) (o : Op) : M :=
  if o.kind = 0 then (strA room m o.text).m else if o.kind = 1 then (listA room m o.of (clampN o.n) o.x).m else if o.kind = 2 then (recA room m o.of o.vals).m else if o.kind = 3 then putM m o.v o.n o.x else m
theorem rl_len {P : Nat → Prop} {w : World} {a : Option Addr} {n c : Nat} {L : List Ob} (h : RL P w a n c L) : L.length = n := by
  obtain ⟨_, _, h, _⟩ := h; exact h
theorem len_le {w : World} {own : Owns} {k p room : Nat} {m : M} (h : Hp w own k p room m) : m.L.length ≤ 65536 := by
  have h1 := costs_len m.L
  have h2 := h.ok.sum
  have h3 := h.ok.fits
  have h4 := h.rm
  omega

theorem does_any {w : World} {own : Owns} {k p room : Nat} {m : M} {a : Option Addr} {N d : Nat} (h : Hp w own k p room m) (fz : Fz w own) (hL : RL (Free own) w a N d m.L) (o : Op) (b : Option Addr) (n c : Nat) (hl : o.vals.length = n) (hz : b = none → n = 0 ∧ c = 0) (hr : RV (Free own) w b o.vals) (hs : o.text.size ≤ 1000) (hn : n ≤ 300) :
    Calls Try.prog 12 #[.pointer (some ⟨p, 0, none⟩), .agg #[.int .i64 room, .int .i64 (m.cells : Nat), .slice a N d], opV o b n c] w (DoesP w own k p room (stepM room m o)) := by
  have hlen := len_le h
  have hN := rl_len hL
  obtain ⟨kd, f, i, s, ⟨kv, nv, rv, iv⟩, ⟨kx, nx, rx, ix⟩, vs⟩ := o
  simp only at hl hr hs
  unfold stepM
  simp only [opV]
  by_cases h0 : kd = 0
  · subst h0
    exact does_str h fz hL f i s kv nv rv iv kx nx rx ix b n c vs hl hz hr hs hn
  rw [if_neg h0]
  by_cases h1 : kd = 1
  · subst h1
    rw [if_pos rfl]
    unfold clampN
    by_cases c1 : i < -1
    · rw [if_pos c1]
      exact does_list_a h fz hL f i s kv nv rv iv kx nx rx ix b n c vs hl hz hr hs hn c1
    · rw [if_neg c1]
      by_cases c2 : 1099511627776 < i
      · rw [if_pos c2]
        exact does_list_b h fz hL f i s kv nv rv iv kx nx rx ix b n c vs hl hz hr hs hn c2
      · rw [if_neg c2]
        exact does_list_c h fz hL f i s kv nv rv iv kx nx rx ix b n c vs hl hz hr hs hn c1 c2
  rw [if_neg h1]
  by_cases h2 : kd = 2
  · subst h2
    rw [if_pos rfl]
    exact does_rec h fz hL f i s kv nv rv iv kx nx rx ix b n c vs hl hz hr hs hn
  rw [if_neg h2]
  by_cases h3 : kd = 3
  · subst h3
    rw [if_pos rfl]
    exact does_put h fz hL f i s kv nv rv iv kx nx rx ix b n c vs hl hz hr hs hn (fun q hq => by have := vals_le h.ok h.rm q hq; omega)
  rw [if_neg h3]
  cases hnm : nameB m.L ⟨kv, nv, rv, iv⟩ with
  | false => exact does_look_f h fz hL kd f i s kv nv rv iv kx nx rx ix b n c vs hl hz hr hs hn h0 h1 h2 h3 (by omega) hnm
  | true =>
    have hp := name_parts hnm
    exact does_look_t h fz hL kd f i s kv nv rv iv kx nx rx ix b n c vs hl hz hr hs hn h0 h1 h2 h3 (by omega) (at_ ⟨kv, nv, rv, iv⟩) (by have := hp.2.2.2.1; simp only at this; omega) hnm
end
end Go.Proofs.Ytfeeikajekemlaa

namespace Go.Proofs.Ytfeeikajekemlaa
section
open Go.RowKit
set_option linter.unusedVariables false
set_option linter.unusedSimpArgs false

theorem rp_carry {w w' : World} {a : Option Addr} {l : List Op} (h : RP w a l op0) (hb : Below w.heap.size w w') : RP w' a l op0 := fun i hi => by
  obtain ⟨b, o, ad, n, c, h1, h2, h3, h4, h5⟩ := h i hi
  exact ⟨b, o, ad, n, c, h1, h2.carry hb, h3, h4, h5.kp (kp_below hb)⟩
theorem lt_al (w : World) (o : Obj) : w.heap.size < (World.drew (w.alloc o)).heap.size := by simp

theorem addA_len {room : Nat} {m : M} {o : Ob} (h : (addA room m o).m.L.length = m.L.length) : (addA room m o).m = m := by
  cases hb : addB room m o with
  | true => rw [addA_yes hb] at h; simp [mkM] at h
  | false => rw [addA_no hb]
theorem step_cells {room : Nat} {m : M} {o : Op} (h : (stepM room m o).L.length = m.L.length) : (stepM room m o).cells = m.cells := by
  unfold stepM at *
  split at h
  · rename_i h0
    rw [if_pos h0]
    unfold strA at *
    split at h
    · rename_i h1; rw [if_pos h1]
    · rename_i h1; rw [if_neg h1, addA_len h]
  · rename_i h0
    rw [if_neg h0]
    split at h
    · rename_i h1
      rw [if_pos h1]
      unfold listA at *
      split at h
      · rename_i h2; rw [if_pos h2]
      · rename_i h2; rw [if_neg h2, addA_len h]
    · rename_i h1
      rw [if_neg h1]
      split at h
      · rename_i h2
        rw [if_pos h2]
        unfold recA at *
        split at h
        · rename_i h3; rw [if_pos h3]
        · rename_i h3; rw [if_neg h3, addA_len h]
      · rename_i h2
        rw [if_neg h2]
        split
        · unfold putM; split <;> rfl
        · rfl
theorem costs_take (L : List Ob) : ∀ q, q < L.length → costs (L.take (q + 1)) = costs (L.take q) + cost (ob L q) := by
  induction L with
  | nil => intro q h; simp at h
  | cons o L ih =>
    intro q h
    cases q with
    | zero => simp [costs, ob]
    | succ q =>
      have := ih q (by simpa using h)
      rw [List.take_succ_cons, List.take_succ_cons, costs, costs, this]
      have e : ob (o :: L) (q + 1) = ob L q := by simp [ob]
      rw [e]; omega
end
end Go.Proofs.Ytfeeikajekemlaa

namespace Go.Proofs.Ytfeeikajekemlaa
section
open Go.RowKit
set_option linter.unusedVariables false
set_option linter.unusedSimpArgs false
set_option maxRecDepth 100000

def badB (o : Op) : Bool := decide (1000 < o.text.size) || decide (300 < o.vals.length) || (decide (o.kind = 1) && decide (1000 < o.n) && decide (o.n ≤ 65536))
def opAt (l : List Op) (i : Nat) : Op := l.getD i op0
/-- No operation is more than is gone through. -/
def Calm (l : List Op) : Prop := l.length ≤ 60 ∧ ∀ i, i < l.length → badB (opAt l i) = false

def GreatP (l : List Op) (w : World) (e : Ending) (w' : World) : Prop := ∃ g : Bool, e = .returned (.bool g) ∧ (g = false → Calm l) ∧ w = w'

set_option maxHeartbeats 4000000 in
theorem great_any (a : Option Addr) (len cap : Nat) (l : List Op) (hl : l.length = len) (w : World) (h : RP w a l op0) :
    Calls Try.prog 11 #[.slice a len cap] w (GreatP l w) := by
  by_cases h60 : 60 < len
  · go_enter Try.func11, Try.ntmps11
    go_wp2_with fail
    go_ret
    exact ⟨true, rfl, (fun e => by cases e), rfl⟩
  · replace h := Lib.hid h
    replace hl := Lib.hid hl
    go_enter Try.func11, Try.ntmps11
    go_wp2_with fail
    go_loop [3] (fun i => ∃ q : Nat, q ≤ len ∧ i = .int .i64 q ∧ Hid (∀ j, j < q → badB (opAt l j) = false)) (fun i => len - (intOf i).toNat)
    case atStart => exact ⟨0, Nat.zero_le _, rfl, Lib.hid fun j hj => by omega⟩
    case round =>
      obtain ⟨q, hq, rfl, hB⟩ := hrel
      by_cases hlt : q < len
      · obtain ⟨b, o, ad, n, c, rfl, hat, hn, hz, hr⟩ := h.out q (by rw [hl.out]; exact hlt)
        obtain ⟨⟨kd, f, i, s, v, x, vs⟩, hO⟩ : ∃ y, l.getD q op0 = y := ⟨_, rfl⟩
        rw [hO] at hat hn
        have c0 : w.cell? ⟨b, o + q * 13, none⟩ = some (.int .i64 kd) := hat.all 0 (by omega)
        have c2 : w.cell? ⟨b, o + q * 13 + 2, none⟩ = some (.int .i64 i) := hat.all 2 (by omega)
        have c3 : w.cell? ⟨b, o + q * 13 + 3, none⟩ = some (.string s) := hat.all 3 (by omega)
        have c12 : w.cell? ⟨b, o + q * 13 + 12, none⟩ = some (.slice ad n c) := hat.all 12 (by omega)
        simp only at hn
        have hbad : Hid (badB (opAt l q) = (decide (1000 < s.size) || decide (300 < n) || (decide (kd = 1) && decide (1000 < i) && decide (i ≤ 65536)))) := Lib.hid (by unfold opAt; rw [hO, ← hn]; rfl)
        clear hat hn hz hr hO
        by_cases k1 : 1000 < s.size
        · go_wp2_with fail
          go_ret
          exact ⟨true, rfl, (fun e => by cases e), rfl⟩
        · by_cases k2 : 300 < n
          · go_wp2_with fail
            go_ret
            exact ⟨true, rfl, (fun e => by cases e), rfl⟩
          · by_cases k3 : kd = 1
            · by_cases k4 : 1000 < i
              · by_cases k5 : i ≤ 65536
                · have e1 : (kd == 1) = true := by rw [beq_iff_eq]; exact k3
                  clear k3
                  go_wp2_with fail
                  go_ret
                  exact ⟨true, rfl, (fun e => by cases e), rfl⟩
                · have e1 : (kd == 1) = true := by rw [beq_iff_eq]; exact k3
                  have hg : Hid (badB (opAt l q) = false) := Lib.hid (by rw [hbad.out]; simp [k1, k2, k5])
                  clear k3
                  go_wp2_with fail
                  go_round
                  case rel => exact ⟨q + 1, hlt, by go_num, Lib.hid fun j hj => by
                    by_cases e : j = q
                    · rw [e]; exact hg.out
                    · exact hB.out j (by omega)⟩
                  case measure => simp [intOf]; omega
              · have e1 : (kd == 1) = true := by rw [beq_iff_eq]; exact k3
                have hg : Hid (badB (opAt l q) = false) := Lib.hid (by rw [hbad.out]; simp [k1, k2, k4])
                clear k3
                go_wp2_with fail
                go_round
                case rel => exact ⟨q + 1, hlt, by go_num, Lib.hid fun j hj => by
                  by_cases e : j = q
                  · rw [e]; exact hg.out
                  · exact hB.out j (by omega)⟩
                case measure => simp [intOf]; omega
            · have e1 : (kd == 1) = false := by rw [beq_eq_false_iff_ne]; exact k3
              have hg : Hid (badB (opAt l q) = false) := Lib.hid (by rw [hbad.out]; simp [k1, k2, k3])
              clear k3
              go_wp2_with fail
              go_round
              case rel => exact ⟨q + 1, hlt, by go_num, Lib.hid fun j hj => by
                by_cases e : j = q
                · rw [e]; exact hg.out
                · exact hB.out j (by omega)⟩
              case measure => simp [intOf]; omega
      · obtain rfl : q = len := by omega
        go_wp2_with fail
        go_ret
        exact ⟨false, rfl, fun _ => ⟨by rw [hl.out]; omega, fun i hi => hB.out i (by rw [hl.out] at hi; exact hi)⟩, rfl⟩
end
end Go.Proofs.Ytfeeikajekemlaa

namespace Go.Proofs.Ytfeeikajekemlaa
section
open Go.RowKit
set_option linter.unusedVariables false
set_option linter.unusedSimpArgs false
set_option maxRecDepth 100000

set_option maxHeartbeats 4000000 in
theorem str_nil (s : ByteArray) (hs : s.size ≤ 100000) (w : World) : Calls Try.prog 23 #[.pointer none, .string s] w fun e w' => e = .returned (.tuple #[vlV v0, .bool false]) ∧ Below w.heap.size w w' := by
  have H1 : Hid (∀ w' : World, Calls Try.prog 41 #[.agg #[.int .u8 3, .int .i64 0, .string s, .slice none 0 0]] w' fun e w'' => e = .returned (.int .i64 (partC ⟨3, 0, s, none, 0, 0⟩ : Nat)) ∧ Below w'.heap.size w' w'') := Lib.hid fun w' => part_any ⟨3, 0, s, none, 0, 0⟩ w' hs (Nat.zero_le _)
  generalize partC ⟨3, 0, s, none, 0, 0⟩ = P at H1
  go_enter Try.func23, Try.ntmps23
  go_wp2_with (first | ((with_reducible refine (H1.out _).mono ?_); rintro e w2 ⟨rfl, hb2⟩; have HB2 := Lib.hid (below_step (by go_grown) hb2 : Below w.heap.size w w2); have hz2 : w.heap.size < w2.heap.size := (by have := hb2.size; simp at this; omega); have R2 := Lib.hid (((zero_box w).alloc _).of_block (hb2.block w.heap.size (by simp; omega))); clear hb2) | ((with_reducible refine (room_nil _ _).mono ?_); rintro e w3 ⟨rfl, hb3⟩; have HB3 := Lib.hid (below_step HB2.out hb3); have R3 := R2.out.of_block (hb3.block w.heap.size (by omega)); clear hb3; have r0 : w3.cell? ⟨w.heap.size, 0, none⟩ = some (.int .u8 0) := R3.cell (i := 0) (by omega); have r1 : w3.cell? ⟨w.heap.size, 1, none⟩ = some (.int .i64 0) := R3.cell (i := 1) (by omega); have r2 : w3.cell? ⟨w.heap.size, 2, none⟩ = some (.int .i64 0) := R3.cell (i := 2) (by omega); have r3 : w3.cell? ⟨w.heap.size, 3, none⟩ = some (.int .i64 0) := R3.cell (i := 3) (by omega); have rf : ∀ o, w3.frozen? ⟨w.heap.size, o, none⟩ = false := (fun o => R3.frozen o); clear R3))
  refine bodyPost_ret (v := .tuple #[vlV v0, .bool false]) (by simp [results, Try.results23, go_sem, r0, r1, r2, r3, v0]) rfl ⟨rfl, ?_⟩
  exact (((HB3.out.setCell (by simp) _).setCell (by simp) _).setCell (by simp) _).setCell (by simp) _

set_option maxHeartbeats 4000000 in
theorem list_nil (f : Int) (kz : Nat) (nz rz iz : Int) (hf : ¬ f < 0) (w : World) : Calls Try.prog 24 #[.pointer none, .int .i64 f, .int .i64 0, .agg #[.int .u8 kz, .int .i64 nz, .int .i64 rz, .int .i64 iz]] w fun e w' => e = .returned (.tuple #[vlV v0, .bool false]) ∧ Below w.heap.size w w' := by
  go_enter Try.func24, Try.ntmps24
  go_wp2_with ((with_reducible refine (room_nil _ _).mono ?_); rintro e w2 ⟨rfl, hb2⟩; have HB2 := Lib.hid (below_step (by go_grown) hb2 : Below w.heap.size w w2); have hz2 : w.heap.size + 1 < w2.heap.size := (by have := hb2.size; simp at this; omega); have R2 := (zero_box1 w _).of_block (hb2.block (w.heap.size + 1) (by simp)); clear hb2; have r0 : w2.cell? ⟨w.heap.size + 1, 0, none⟩ = some (.int .u8 0) := R2.cell (i := 0) (by omega); have r1 : w2.cell? ⟨w.heap.size + 1, 1, none⟩ = some (.int .i64 0) := R2.cell (i := 1) (by omega); have r2 : w2.cell? ⟨w.heap.size + 1, 2, none⟩ = some (.int .i64 0) := R2.cell (i := 2) (by omega); have r3 : w2.cell? ⟨w.heap.size + 1, 3, none⟩ = some (.int .i64 0) := R2.cell (i := 3) (by omega); have rf : ∀ o, w2.frozen? ⟨w.heap.size + 1, o, none⟩ = false := (fun o => R2.frozen o); clear R2)
  refine bodyPost_ret (v := .tuple #[vlV v0, .bool false]) (by simp [results, Try.results24, go_sem, hz2, r0, r1, r2, r3, v0]) rfl ⟨rfl, ?_⟩
  first | exact (((HB2.out.setCell (by simp) _).setCell (by simp) _).setCell (by simp) _).setCell (by simp) _ | exact ((((HB2.out.alloc HB2.out.size _).setCell (by simp) _).setCell (by simp) _).setCell (by simp) _).setCell (by simp) _

set_option maxHeartbeats 4000000 in
theorem rec_nil (f : Int) (a : Option Addr) (n c : Nat) (hf : ¬ f < 0) (w : World) : Calls Try.prog 25 #[.pointer none, .int .i64 f, .slice a n c] w fun e w' => e = .returned (.tuple #[vlV v0, .bool false]) ∧ Below w.heap.size w w' := by
  go_enter Try.func25, Try.ntmps25
  go_wp2_with ((with_reducible refine (room_nil _ _).mono ?_); rintro e w2 ⟨rfl, hb2⟩; have HB2 := Lib.hid (below_step (by go_grown) hb2 : Below w.heap.size w w2); have hz2 : w.heap.size < w2.heap.size := (by have := hb2.size; simp at this; omega); have R2 := (zero_box w).of_block (hb2.block (w.heap.size) (by simp)); clear hb2; have r0 : w2.cell? ⟨w.heap.size, 0, none⟩ = some (.int .u8 0) := R2.cell (i := 0) (by omega); have r1 : w2.cell? ⟨w.heap.size, 1, none⟩ = some (.int .i64 0) := R2.cell (i := 1) (by omega); have r2 : w2.cell? ⟨w.heap.size, 2, none⟩ = some (.int .i64 0) := R2.cell (i := 2) (by omega); have r3 : w2.cell? ⟨w.heap.size, 3, none⟩ = some (.int .i64 0) := R2.cell (i := 3) (by omega); have rf : ∀ o, w2.frozen? ⟨w.heap.size, o, none⟩ = false := (fun o => R2.frozen o); clear R2)
  refine bodyPost_ret (v := .tuple #[vlV v0, .bool false]) (by simp [results, Try.results25, go_sem, hz2, r0, r1, r2, r3, v0]) rfl ⟨rfl, ?_⟩
  first | exact (((HB2.out.setCell (by simp) _).setCell (by simp) _).setCell (by simp) _).setCell (by simp) _ | exact ((((HB2.out.alloc HB2.out.size _).setCell (by simp) _).setCell (by simp) _).setCell (by simp) _).setCell (by simp) _

set_option maxHeartbeats 4000000 in
theorem text_nil (kd : Nat) (n re im : Int) (w : World) : Calls Try.prog 26 #[.pointer none, .agg #[.int .u8 kd, .int .i64 n, .int .i64 re, .int .i64 im]] w fun e w' => e = .returned (.tuple #[.string { data := #[] }, .bool false]) ∧ Below w.heap.size w w' := by
  have HM : Hid (∀ w' : World, Calls Try.prog 44 #[.pointer none, .agg #[.int .u8 kd, .int .i64 n, .int .i64 re, .int .i64 im]] w' fun e w'' => e = .returned (.tuple #[.agg #[.int .u8 0, .int .i64 0, .string { data := #[] }, .slice none 0 0], .bool false]) ∧ Below w'.heap.size w' w'') := Lib.hid fun w' => meant_nil ⟨kd, n, re, im⟩ w'
  go_enter Try.func26, Try.ntmps26
  go_wp2_with ((with_reducible refine (HM.out _).mono ?_); rintro e w2 ⟨rfl, hb⟩; have hB : Below w.heap.size w w2 := below_step (by go_grown) hb; clear hb)
  go_quiet (fail)
  go_wp2_with fail
  go_ret2
  exact ⟨rfl, (hB.alloc hB.size _).trans ((below_drewN _ _).mono (by simp; have := hB.size; omega))⟩

set_option maxHeartbeats 4000000 in
theorem size_nil (kd : Nat) (n re im : Int) (w : World) : Calls Try.prog 27 #[.pointer none, .agg #[.int .u8 kd, .int .i64 n, .int .i64 re, .int .i64 im]] w fun e w' => e = .returned (.tuple #[.int .i64 0, .int .u8 3]) ∧ Below w.heap.size w w' := by
  have HM : Hid (∀ w' : World, Calls Try.prog 44 #[.pointer none, .agg #[.int .u8 kd, .int .i64 n, .int .i64 re, .int .i64 im]] w' fun e w'' => e = .returned (.tuple #[.agg #[.int .u8 0, .int .i64 0, .string { data := #[] }, .slice none 0 0], .bool false]) ∧ Below w'.heap.size w' w'') := Lib.hid fun w' => meant_nil ⟨kd, n, re, im⟩ w'
  go_enter Try.func27, Try.ntmps27
  go_wp2_with ((with_reducible refine (HM.out _).mono ?_); rintro e w2 ⟨rfl, hb⟩; have hB : Below w.heap.size w w2 := below_step (by go_grown) hb; clear hb)
  go_ret2
  exact ⟨rfl, hB.alloc hB.size _⟩

set_option maxHeartbeats 4000000 in
theorem get_nil (kd : Nat) (n re im : Int) (i : Int) (w : World) : Calls Try.prog 20 #[.pointer none, .agg #[.int .u8 kd, .int .i64 n, .int .i64 re, .int .i64 im], .int .i64 i] w fun e w' => e = .returned (.tuple #[vlV v0, .int .u8 3]) ∧ Below w.heap.size w w' := by
  have HM : Hid (∀ w' : World, Calls Try.prog 44 #[.pointer none, .agg #[.int .u8 kd, .int .i64 n, .int .i64 re, .int .i64 im]] w' fun e w'' => e = .returned (.tuple #[.agg #[.int .u8 0, .int .i64 0, .string { data := #[] }, .slice none 0 0], .bool false]) ∧ Below w'.heap.size w' w'') := Lib.hid fun w' => meant_nil ⟨kd, n, re, im⟩ w'
  go_enter Try.func20, Try.ntmps20
  go_wp2_with ((with_reducible refine (HM.out _).mono ?_); rintro e w2 ⟨rfl, hb⟩; have hB : Below w.heap.size w w2 := below_step (by go_grown) hb; have hz2 : w.heap.size + 1 < w2.heap.size := (by have := hb.size; simp at this; omega); have R2 := (zero_box1 w _).of_block (hb.block (w.heap.size + 1) (by simp)); clear hb; have r0 : w2.cell? ⟨w.heap.size + 1, 0, none⟩ = some (.int .u8 0) := R2.cell (i := 0) (by omega); have r1 : w2.cell? ⟨w.heap.size + 1, 1, none⟩ = some (.int .i64 0) := R2.cell (i := 1) (by omega); have r2 : w2.cell? ⟨w.heap.size + 1, 2, none⟩ = some (.int .i64 0) := R2.cell (i := 2) (by omega); have r3 : w2.cell? ⟨w.heap.size + 1, 3, none⟩ = some (.int .i64 0) := R2.cell (i := 3) (by omega); have rf : ∀ o, w2.frozen? ⟨w.heap.size + 1, o, none⟩ = false := (fun o => R2.frozen o); clear R2)
  refine bodyPost_ret (v := .tuple #[vlV v0, .int .u8 3]) (by simp [results, Try.results20, go_sem, hz2, r0, r1, r2, r3, v0]) rfl ⟨rfl, ?_⟩
  first | exact ((((hB.alloc hB.size _).setCell (by simp) _).setCell (by simp) _).setCell (by simp) _).setCell (by simp) _ | exact ((((hB.setCell (by simp) _).setCell (by simp) _).setCell (by simp) _).setCell (by simp) _).alloc (by simp; omega) _

set_option maxHeartbeats 4000000 in
theorem put_nil (kd : Nat) (n re im : Int) (i : Int) (kx : Nat) (nx rx ix : Int) (w : World) : Calls Try.prog 19 #[.pointer none, .agg #[.int .u8 kd, .int .i64 n, .int .i64 re, .int .i64 im], .int .i64 i, .agg #[.int .u8 kx, .int .i64 nx, .int .i64 rx, .int .i64 ix]] w fun e w' => e = .returned (.int .u8 3) ∧ Below w.heap.size w w' := by
  have HM : Hid (∀ w' : World, Calls Try.prog 44 #[.pointer none, .agg #[.int .u8 kd, .int .i64 n, .int .i64 re, .int .i64 im]] w' fun e w'' => e = .returned (.tuple #[.agg #[.int .u8 0, .int .i64 0, .string { data := #[] }, .slice none 0 0], .bool false]) ∧ Below w'.heap.size w' w'') := Lib.hid fun w' => meant_nil ⟨kd, n, re, im⟩ w'
  go_enter Try.func19, Try.ntmps19
  go_wp2_with ((with_reducible refine (HM.out _).mono ?_); rintro e w2 ⟨rfl, hb⟩; have hB : Below w.heap.size w w2 := below_step (by go_grown) hb; clear hb)
  go_ret
  exact ⟨rfl, hB.alloc hB.size _⟩

theorem cells_nil (w : World) : Calls Try.prog 13 #[.pointer none] w fun e w' => e = .returned (.int .i64 0) ∧ w = w' := by
  go_enter Try.func13, Try.ntmps13
  go_wp2_with fail
  go_ret
  exact ⟨rfl, rfl⟩

theorem all_nil (w : World) : Calls Try.prog 15 #[.pointer none] w fun e w' => e = .returned (.slice none 0 0) ∧ w = w' := by
  go_enter Try.func15, Try.ntmps15
  go_wp2_with fail
  go_ret
  exact ⟨rfl, rfl⟩

theorem copy_nil (w : World) : Calls Try.prog 22 #[.pointer none] w fun e w' => e = .returned (.pointer none) ∧ w = w' := by
  go_enter Try.func22, Try.ntmps22
  go_wp2_with fail
  go_ret
  exact ⟨rfl, rfl⟩

/-- A new heap. -/
theorem new_bad (cells : Int) (w : World) (h : cells < 0 ∨ 65536 < cells) : Calls Try.prog 9 #[.int .i64 cells] w fun e w' => e = .returned (.tuple #[.pointer none, .int .i64 1]) ∧ w = w' := by
  by_cases h0 : cells < 0
  · go_enter Try.func9, Try.ntmps9
    go_wp2_with fail
    go_ret2
    exact ⟨rfl, rfl⟩
  · have h1 : 65536 < cells := by omega
    go_enter Try.func9, Try.ntmps9
    go_wp2_with fail
    go_ret2
    exact ⟨rfl, rfl⟩
theorem new_ok (room : Nat) (w : World) (h : room ≤ 65536) (own : Owns) (k : Nat) (hk : k ≠ 0) (fz : Fz w own) : Calls Try.prog 9 #[.int .i64 (room : Int)] w fun e w' => e = .returned (.tuple #[.pointer (some ⟨w.heap.size, 0, none⟩), .int .i64 0]) ∧ ∃ own', Hp w' own' k w.heap.size room m0 ∧ Fz w' own' ∧ Stp w.heap.size k own own' w w' ∧ Below w.heap.size w w' := by
  go_enter Try.func9, Try.ntmps9
  go_wp2_with fail
  go_ret2
  refine ⟨rfl, fun b => if b = w.heap.size then (k, 0) else own b, ⟨.slice none 0 0, .slice none 0 0, fun _ => 0, fun _ => 0, fun _ => true, fun _ => oc0, hk, ok0 room, h, ?_, by simp, World.ownsRow_nil _ _ _ _, fun g hg => by simp [Value.ownBlock] at hg, World.ownsRow_nil _ _ _ _, fun g hg => by simp [Value.ownBlock] at hg, fun i hi => by simp [m0] at hi⟩, ?_, ?_, by go_grown⟩
  · exact World.rowIs_alloc w #[.int .i64 room, .int .i64 0, .slice none 0 0, .slice none 0 0] 69 (hpF room m0.cells (.slice none 0 0) (.slice none 0 0)) (fun i hi => by
      have : i < 4 := hi
      match i, this with
      | 0, _ => rfl
      | 1, _ => rfl
      | 2, _ => rfl
      | 3, _ => rfl)
  · intro b hb
    have hb2 : w.heap.size + 1 ≤ b := by simpa using hb
    simp only
    rw [if_neg (by omega)]
    exact fz b (by omega)
  · refine ⟨rfl, rfl, rfl, by simp, fun b hb => if_neg (by omega), fun b hb _ => heap_alloc_old _ _ hb⟩
end
end Go.Proofs.Ytfeeikajekemlaa

namespace Go.Proofs.Ytfeeikajekemlaa
section
open Go.RowKit
set_option linter.unusedVariables false
set_option linter.unusedSimpArgs false
set_option maxRecDepth 100000

def nine : ByteArray := { data := #[110, 105, 110, 101, 98, 121, 116, 101, 115] }
def own00 : Owns := fun _ => (0, 0)
theorem fz00 (w : World) : Fz w own00 := fun _ _ => rfl
theorem nine_size : nine.size = 9 := rfl
def m9 : M := mkM m0 (strO nine)
theorem m9_cells : m9.cells = 3 := rfl
theorem m9_add : addB 3 m0 (strO nine) = true := by decide
theorem m9_full (z : Vl) : addB 3 m9 (listO 1 0 z) = false := by
  unfold addB
  rw [m9_cells]
  simp [cost, listO]
theorem m9_val : mkV m0 (strO nine) = ⟨3, 1, 0, 0⟩ := rfl
theorem m9_name (re im : Int) : nameB m9.L ⟨3, 1, re, im⟩ = true := by simp [nameB, m9, mkM, m0, ob, strO]
theorem m9_means (re im : Int) : meansB m9.L ⟨3, 1, re, im⟩ = true := by unfold meansB; rw [m9_name]; simp
theorem m9_meant (re im : Int) : meant m9.L ⟨3, 1, re, im⟩ = strO nine := by
  unfold meant; rw [if_neg (by simp), if_pos (m9_name re im)]; rfl

set_option maxHeartbeats 4000000 in
theorem awake_any (w : World) : Calls Try.prog 10 #[] w fun e w' => e = .returned (.bool true) ∧ Below w.heap.size w w' := by
  have HN : Hid (Calls Try.prog 9 #[.int .i64 3] w fun e w' => e = .returned (.tuple #[.pointer (some ⟨w.heap.size, 0, none⟩), .int .i64 0]) ∧ ∃ own', Hp w' own' 1 w.heap.size 3 m0 ∧ Fz w' own' ∧ Stp w.heap.size 1 own00 own' w w' ∧ Below w.heap.size w w') := Lib.hid (new_ok 3 w (by decide) own00 1 (by decide) (fz00 w))
  go_enter Try.func10, Try.ntmps10
  go_wp2_with (first | ((with_reducible refine HN.out.mono ?_); rintro e w1 ⟨rfl, own1, h1, f1, s1, hb1⟩; have HS : Hid (Calls Try.prog 23 #[.pointer (some ⟨w.heap.size, 0, none⟩), .string { data := #[110, 105, 110, 101, 98, 121, 116, 101, 115] }] w1 fun e w' => e = .returned (.tuple #[.agg #[.int .u8 3, .int .i64 1, .int .i64 0, .int .i64 0], .bool true]) ∧ MadeP w1 own1 1 w.heap.size 3 m9 w') := Lib.hid (str_ok h1 f1 nine (by decide) (by decide) m9_add); have hS1 := Lib.hid s1; clear h1 f1 s1 hb1) | ((with_reducible refine HS.out.mono ?_); rintro e w2 ⟨rfl, hM⟩; obtain ⟨own2, h2, f2, s2⟩ := hM; have hB2 := Lib.hid ((hS1.out.trans (s2.mono hS1.out.size)).below (Nat.le_refl _) (by decide) (fun b _ => rfl)); have HL : Hid (∀ w' : World, Below w2.heap.size w2 w' → Calls Try.prog 24 #[.pointer (some ⟨w.heap.size, 0, none⟩), .int .i64 1, .int .i64 0, .agg #[.int .u8 1, .int .i64 0, .int .i64 0, .int .i64 0]] w' fun e w'' => e = .returned (.tuple #[.agg #[.int .u8 0, .int .i64 0, .int .i64 0, .int .i64 0], .bool false]) ∧ Below w'.heap.size w' w'') := Lib.hid (fun w' hb => list_full (h2.below hb) (f2.below hb.size) 1 0 ⟨1, 0, 0, 0⟩ (by decide) (m9_full _)); have HZ : Hid (∀ w' : World, Below w2.heap.size w2 w' → Calls Try.prog 27 #[.pointer (some ⟨w.heap.size, 0, none⟩), .agg #[.int .u8 3, .int .i64 1, .int .i64 0, .int .i64 0]] w' fun e w'' => e = .returned (.tuple #[.int .i64 9, .int .u8 0]) ∧ Below w'.heap.size w' w'') := Lib.hid (fun w' hb => by have q := size_any (h2.below hb) ⟨3, 1, 0, 0⟩ (by rw [m9_meant]; decide) (by rw [m9_meant]; decide); rw [m9_means, m9_meant] at q; exact q); have HC : Hid (∀ w' : World, Below w2.heap.size w2 w' → Calls Try.prog 13 #[.pointer (some ⟨w.heap.size, 0, none⟩)] w' fun e w'' => e = .returned (.int .i64 3) ∧ w' = w'') := Lib.hid (fun w' hb => cells_any (h2.below hb)); clear h2 f2 s2) | ((with_reducible refine (HL.out _ (by go_grown)).mono ?_); rintro e w3 ⟨rfl, hb3⟩; have hz3 := Lib.hid hb3; have g3 : Below w2.heap.size w2 w3 := (below_step (by go_grown) hb3); have v3 : w3.cell? ⟨w2.heap.size, 0, none⟩ = some (.int .u8 3) := (by rw [(bcell hb3).1 _ _ (by simp)]; simp [go_sem]); have v4 : w3.cell? ⟨w2.heap.size, 1, none⟩ = some (.int .i64 1) := (by rw [(bcell hb3).1 _ _ (by simp)]; simp [go_sem]); have v5 : w3.cell? ⟨w2.heap.size, 2, none⟩ = some (.int .i64 0) := (by rw [(bcell hb3).1 _ _ (by simp)]; simp [go_sem]); have v6 : w3.cell? ⟨w2.heap.size, 3, none⟩ = some (.int .i64 0) := (by rw [(bcell hb3).1 _ _ (by simp)]; simp [go_sem]); have v7 : w2.heap.size < w3.heap.size := (by have := hb3.size; simp at this; omega); clear hb3) | ((with_reducible refine (HZ.out _ (by exact g3.alloc g3.size _)).mono ?_); rintro e w4 ⟨rfl, hb4⟩; have g4 : Below w2.heap.size w2 w4 := (g3.alloc g3.size _).trans (hb4.mono (by simp; have := g3.size; omega)); clear hb4) | ((with_reducible refine (HC.out _ g4).mono ?_); rintro e w5 ⟨rfl, rfl⟩))
  go_ret
  exact ⟨rfl, hB2.out.trans (g4.mono hB2.out.size)⟩
end
end Go.Proofs.Ytfeeikajekemlaa

namespace Go.Proofs.Ytfeeikajekemlaa
section
open Go.RowKit Go.Sort
set_option linter.unusedVariables false
set_option linter.unusedSimpArgs false
set_option maxRecDepth 100000

set_option maxHeartbeats 8000000 in
theorem same_lists (a b : Option Addr) (n c d : Nat) (L : List Ob) (w : World) (hn : n ≤ 1000000) (hv : ∀ i, i < n → (ob L i).vals.length ≤ 1000000) (P Q : Nat → Prop) (ha : RL P w a n c L) (hb : RL Q w b n d L) :
    Calls Try.prog 14 #[.slice a n c, .slice b n d] w fun e w' => e = .returned (.bool true) ∧ Below w.heap.size w w' := by
  obtain ⟨as_, la, hL, -, ra, ka⟩ := ha
  obtain ⟨bs, lb, -, -, rb, kb⟩ := hb
  replace ra := Lib.hid ra
  replace rb := Lib.hid rb
  replace ka := Lib.hid ka
  replace kb := Lib.hid kb
  replace la := Lib.hid la
  replace lb := Lib.hid lb
  replace hv := Lib.hid hv
  clear hL
  go_enter Try.func14, Try.ntmps14
  go_wp2_with fail
  go_loopw [13] (fun j wr => ∃ q : Nat, q ≤ n ∧ j = .int .i64 q ∧ Below w.heap.size w wr) (fun j _ => n - (intOf j).toNat)
  case atStart => exact ⟨0, Nat.zero_le _, rfl, Below.refl _ _⟩
  case round =>
    obtain ⟨q, hq, rfl, hbl⟩ := hrel
    by_cases hlt : q < n
    · obtain ⟨ga, oa, rfl, _, hat⟩ := (ra.out.kp (kp_below hbl)) q (by rw [la.out]; exact hlt)
      obtain ⟨gb, obb, rfl, _, hbt⟩ := (rb.out.kp (kp_below hbl)) q (by rw [lb.out]; exact hlt)
      have k1 := (ka.out q hlt).kp (kp_below hbl)
      have k2 := (kb.out q hlt).kp (kp_below hbl)
      have hvq := hv.out q hlt
      obtain ⟨⟨ek, ef, et, ea, en, ec⟩, hE⟩ : ∃ x, oc as_ q = x := ⟨_, rfl⟩
      obtain ⟨⟨fk, ff, ft, fa, fn, fc⟩, hF⟩ : ∃ x, oc bs q = x := ⟨_, rfl⟩
      rw [hE] at hat k1
      rw [hF] at hbt k2
      obtain ⟨k10, k11, k12, k13, -, k15⟩ := k1
      obtain ⟨k20, k21, k22, k23, -, k25⟩ := k2
      simp only at k10 k11 k12 k13 k15 k20 k21 k22 k23 k25
      obtain ⟨x0, x1, x2, x3⟩ := hat
      obtain ⟨y0, y1, y2, y3⟩ := hbt
      simp only at x0 x1 x2 x3 y0 y1 y2 y3
      obtain rfl : ek = fk := by rw [k10, k20]
      obtain rfl : ef = ff := by rw [k11, k21]
      obtain rfl : et = ft := by rw [k12, k22]
      obtain rfl : en = fn := by omega
      have HS := Lib.hid fun w' (h : Below wr.heap.size wr w') => same_values ea fa en ec fc (ob L q).vals w' (Lib.hid k13) (by omega) P Q (Lib.hid (k15.kp (kp_below h))) (Lib.hid (k25.kp (kp_below h)))
      have z0 := fun D os => cell_regrown (w := wr) x0 D os
      have z1 := fun D os => cell_regrown (w := wr) x1 D os
      have z2 := fun D os => cell_regrown (w := wr) x2 D os
      have z3 := fun D os => cell_regrown (w := wr) x3 D os
      have v0 := fun D os => cell_regrown (w := wr) y0 D os
      have v1 := fun D os => cell_regrown (w := wr) y1 D os
      have v2 := fun D os => cell_regrown (w := wr) y2 D os
      have v3 := fun D os => cell_regrown (w := wr) y3 D os
      have hc : ∀ D os, Calls Try.prog 37 #[.slice ea en ec, .slice fa en fc] (grow (redrawn wr D) os) fun e w'' => e = .returned (.bool true) ∧ ∃ p : Regrown, w'' = grow (redrawn wr p.d) p.os := fun D os => Calls.regrown_of (HS.out _ (below_regrown _ _ _))
      replace hbl := Lib.hid hbl
      clear hE hF k10 k11 k12 k13 k15 k20 k21 k22 k23 k25 hvq
      go_wp2_with fail
      clear x0 x1 x2 x3 y0 y1 y2 y3
      refine wp_region_quiet_below (by kernel_rfl) (by kernel_rfl) ?_
      repeat (quiet_step (first | with_reducible exact hc _ _))
      refine wpQuiet_nil ?_
      rintro _ ⟨⟨dq, osq⟩, rfl⟩
      have hb := below_regrown wr dq osq
      generalize grow (redrawn wr dq) osq = w3 at *
      have hb3 := Lib.hid (below_step hbl.out hb)
      clear z0 z1 z2 z3 v0 v1 v2 v3 hc hb
      go_wp2_with fail
      go_roundw
      case rel => exact ⟨q + 1, hlt, by go_num, hb3.out⟩
      case measure => simp [intOf]; omega
    · obtain rfl : q = n := by omega
      replace hbl := Lib.hid hbl
      go_wp2_with fail
      go_ret
      exact ⟨rfl, hbl.out⟩
end
end Go.Proofs.Ytfeeikajekemlaa

namespace Go.Proofs.Ytfeeikajekemlaa
section
open Go.RowKit
set_option linter.unusedVariables false
set_option linter.unusedSimpArgs false
set_option maxRecDepth 100000

set_option maxHeartbeats 4000000 in
theorem cost_any2 (x : Oc) (w : World) (ht : x.text.size ≤ 1000000) (hn : x.n ≤ 1000000) : Calls Try.prog 21 #[ocV x] w fun e w' => e = .returned (.int .i64 (costC x : Nat)) ∧ Below w.heap.size w w' := by
  obtain ⟨k, f, t, a, n, c⟩ := x
  simp only at ht hn
  by_cases h3 : k = 3
  · subst h3
    by_cases h8 : t.size % 8 = 0
    · have e : ((t.size : Int) % 8 == 0) = true := by rw [beq_iff_eq]; omega
      go_enter Try.func21, Try.ntmps21
      go_wp2_with fail
      all_goals
        go_ret
        exact ⟨ret_int (by simp only [costC]; simp; omega), by go_grown⟩
    · go_enter Try.func21, Try.ntmps21
      go_wp2_with fail
      all_goals
        go_ret
        exact ⟨ret_int (by simp only [costC]; simp; omega), by go_grown⟩
  · have e3 : ((k : Int) == 3) = false := by rw [beq_eq_false_iff_ne]; omega
    go_enter Try.func21, Try.ntmps21
    go_wp2_with fail
    go_ret
    exact ⟨ret_int (by simp only [costC]; rw [if_neg h3]; omega), by go_grown⟩

theorem costC_ob {w : World} {x : Oc} {o : Ob} {vb : Nat} (hk : x.kind = o.kind) (ht : x.text = o.text) (hv : VA w x vb o.vals) : costC x = cost o := by
  unfold costC cost
  rw [hk, ht, hv.1]
theorem cost_le {x : Oc} (ht : x.text.size ≤ 600000) (hn : x.n ≤ 65536) : costC x ≤ 200000 := by
  unfold costC
  split <;> omega
theorem costs_take_le (L : List Ob) (q : Nat) : costs (L.take q) ≤ costs L := by
  induction L generalizing q with
  | nil => simp [costs]
  | cons o L ih =>
    cases q with
    | zero => simp [costs]
    | succ q => have := ih q; rw [List.take_succ_cons, costs, costs]; omega
end
end Go.Proofs.Ytfeeikajekemlaa

namespace Go.Proofs.Ytfeeikajekemlaa
section
open Go.RowKit
set_option linter.unusedVariables false
set_option linter.unusedSimpArgs false

theorem Hp.oth {w w' : World} {own : Owns} {k p room : Nat} {m : M} {S : Nat → Prop} (h : Hp w own k p room m) (hO : Oth S w w') (hS : ∀ b, S b → (own b).1 ≠ k ∧ (own b).1 ≠ 0) : Hp w' own k p room m :=
  h.keep hO.size hO.os hO.tape hO.output fun b hb ho => ⟨rfl, hO.block b hb fun e => by have := hS b e; omega⟩
theorem Fz.oth {w w' : World} {own : Owns} {S : Nat → Prop} (h : Fz w own) (hO : Oth S w w') : Fz w' own := h.below hO.size
theorem RL.oth {w w' : World} {own : Owns} {a : Option Addr} {n c : Nat} {L : List Ob} {S : Nat → Prop} (h : RL (Free own) w a n c L) (hO : Oth S w w') (hS : ∀ b, S b → (own b).1 ≠ 0) : RL (Free own) w' a n c L :=
  h.kp fun b hb hp => ⟨hp, hO.block b hb fun e => hS b e hp⟩

/-- What is as it was, what isn't there yet. -/
structure Cx (B0 : Nat) (w0 w : World) (own : Owns) : Prop where
  le : B0 ≤ w.heap.size
  bel : Below B0 w0 w
  free : ∀ b, b < B0 → Free own b
  fz : Fz w own
section
variable {B0 k : Nat} {w0 w w' : World} {own own' : Owns} {S : Nat → Prop}
theorem Cx.step (h : Cx B0 w0 w own) (s : Stp w.heap.size k own own' w w') (f : Fz w' own') (hk : k ≠ 0) : Cx B0 w0 w' own' :=
  ⟨Nat.le_trans h.le s.size, h.bel.trans (s.below h.le hk h.free), fun b hb => by unfold Free; rw [s.ownE b (Nat.lt_of_lt_of_le hb h.le)]; exact h.free b hb, f⟩
theorem Cx.oth (h : Cx B0 w0 w own) (hO : Oth S w w') (hS : ∀ b, S b → (own b).1 ≠ 0) : Cx B0 w0 w' own :=
  ⟨Nat.le_trans h.le hO.size, h.bel.trans ⟨hO.os, hO.tape, hO.output, hO.size, fun b hb => hO.block b (Nat.lt_of_lt_of_le hb h.le) fun e => hS b e (h.free b hb)⟩, h.free, h.fz.oth hO⟩
theorem Cx.grown (h : Cx B0 w0 w own) (hb : Below w.heap.size w w') : Cx B0 w0 w' own := h.oth (Oth.below (S := fun _ => False) hb) (fun b hb => hb.elim)
theorem Cx.rv (h : Cx B0 w0 w own) (hB : B0 = w0.heap.size) {a : Option Addr} {l : List Vl} (r : RV (fun _ => True) w0 a l) : RV (Free own) w a l := r.kp fun b hb _ => ⟨h.free b (by omega), h.bel.block b (by omega)⟩
theorem Cx.rp (h : Cx B0 w0 w own) (hB : B0 = w0.heap.size) {a : Option Addr} {l : List Op} (r : RP w0 a l op0) : RP w a l op0 := rp_carry r (by rw [← hB]; exact h.bel)
end

/-- Cells of the document's heap. -/
def hF (room cells : Nat) (v : Value) (j : Nat) : Value := if j = 0 then .int .i64 room else if j = 1 then .int .i64 cells else v
/-- A heap of the program, the box at t, the document's list of objects. -/
structure Tb (w : World) (own : Owns) (k p room t : Nat) (F : Nat → Value) (m : M) (a : Option Addr) (n c : Nat) : Prop where
  hp : Hp w own k p room m
  box : w.rowIs t 31 3 F
  lab : own t = (k + 9, 0)
  rl : RL (Free own) w a n c m.L
/-- .. and the box holds that list. -/
abbrev Lp (w : World) (own : Owns) (k p room t : Nat) (m : M) (a : Option Addr) (n c : Nat) : Prop := Tb w own k p room t (hF room m.cells (.slice a n c)) m a n c
section
variable {w w' : World} {own own' : Owns} {k p room t : Nat} {F : Nat → Value} {m : M} {a : Option Addr} {n c : Nat} {S : Nat → Prop}
theorem Tb.below (h : Tb w own k p room t F m a n c) (hb : Below w.heap.size w w') : Tb w' own k p room t F m a n c :=
  ⟨h.hp.below hb, h.box.of_block (hb.block _ h.box.lt), h.lab, h.rl.kp (kp_below hb)⟩
theorem Tb.other {j : Nat} (h : Tb w own k p room t F m a n c) (s : Stp w.heap.size j own own' w w') (hj : k ≠ j) (h0 : j ≠ 0) (h9 : k + 9 ≠ j) : Tb w' own' k p room t F m a n c :=
  ⟨h.hp.other s hj h0, h.box.of_block (s.block _ h.box.lt (by rw [h.lab]; exact h9)), by rw [s.ownE _ h.box.lt]; exact h.lab, h.rl.kp (s.kp rfl h0)⟩
theorem Tb.oth (h : Tb w own k p room t F m a n c) (hO : Oth S w w') (hS : ∀ b, S b → (own b).1 ≠ k ∧ (own b).1 ≠ 0 ∧ b ≠ t) : Tb w' own k p room t F m a n c :=
  ⟨h.hp.oth hO fun b hb => ⟨(hS b hb).1, (hS b hb).2.1⟩, h.box.of_block (hO.block _ h.box.lt fun e => (hS t e).2.2 rfl), h.lab, h.rl.oth hO fun b hb => (hS b hb).2.1⟩
theorem oth3 (w : World) (q : Nat) (u0 u1 u2 : Value) : Oth (fun b => b = q) w (((w.setCell ⟨q, 0, none⟩ u0).setCell ⟨q, 1, none⟩ u1).setCell ⟨q, 2, none⟩ u2) :=
  (((Oth.refl (fun b => b = q) w).set (q := ⟨q, 0, none⟩) rfl u0).set (q := ⟨q, 1, none⟩) rfl u1).set (q := ⟨q, 2, none⟩) rfl u2
theorem row3 {q : Nat} (h : w.rowIs q 31 3 F) (room cells : Nat) (v : Value) :
    (((w.setCell ⟨q, 0, none⟩ (.int .i64 room)).setCell ⟨q, 1, none⟩ (.int .i64 cells)).setCell ⟨q, 2, none⟩ v).rowIs q 31 3 (hF room cells v) := by
  refine (((h.set _ _).set _ _).set _ _).congr fun j hj => ?_
  have : j = 0 ∨ j = 1 ∨ j = 2 := by omega
  rcases this with rfl | rfl | rfl <;> simp [hF]
/-- The document's next heap is stored. -/
theorem Tb.store (h : Tb w own k p room t F m a n c) : Lp (((w.setCell ⟨t, 0, none⟩ (.int .i64 room)).setCell ⟨t, 1, none⟩ (.int .i64 (m.cells : Nat))).setCell ⟨t, 2, none⟩ (.slice a n c)) own k p room t m a n c := by
  have hO := oth3 w t (.int .i64 room) (.int .i64 (m.cells : Nat)) (.slice a n c)
  refine ⟨h.hp.oth hO fun b hb => ?_, row3 h.box _ _ _, h.lab, h.rl.oth hO fun b hb => ?_⟩
  · rw [hb, h.lab]; exact ⟨by simp, by simp⟩
  · rw [hb, h.lab]; simp
theorem Cx.store {B0 : Nat} {w0 : World} (h : Cx B0 w0 w own) (hl : own t = (k + 9, 0)) (u0 u1 u2 : Value) : Cx B0 w0 (((w.setCell ⟨t, 0, none⟩ u0).setCell ⟨t, 1, none⟩ u1).setCell ⟨t, 2, none⟩ u2) own :=
  h.oth (oth3 w t u0 u1 u2) fun b hb => by rw [hb, hl]; simp
theorem Lp.c0 (h : Lp w own k p room t m a n c) : w.cell? ⟨t, 0, none⟩ = some (.int .i64 room) := h.box.cell (i := 0) (by omega)
theorem Lp.c1 (h : Lp w own k p room t m a n c) : w.cell? ⟨t, 1, none⟩ = some (.int .i64 (m.cells : Nat)) := h.box.cell (i := 1) (by omega)
theorem Lp.c2 (h : Lp w own k p room t m a n c) : w.cell? ⟨t, 2, none⟩ = some (.slice a n c) := h.box.cell (i := 2) (by omega)
end

/-- The loop begins. -/
theorem lp_start {W w1 : World} {own1 : Owns} {k p room : Nat} (h1 : Hp w1 own1 k p room m0) (f1 : Fz w1 own1) (s1 : Stp W.heap.size k own00 own1 W w1) :
    Lp (w1.alloc (.cells #[.int .i64 room, .int .i64 0, .slice none 0 0] 31)) (ownQ w1.heap.size k own1) k p room w1.heap.size m0 none 0 0 ∧ Cx W.heap.size W (w1.alloc (.cells #[.int .i64 room, .int .i64 0, .slice none 0 0] 31)) (ownQ w1.heap.size k own1) := by
  have hb : Below w1.heap.size w1 (w1.alloc (.cells #[.int .i64 room, .int .i64 0, .slice none 0 0] 31)) := below_alloc _ _
  have hx := hp_box h1 f1 hb (Nat.le_refl _) (by simp)
  have hss := s1.size
  refine ⟨⟨hx.1, ?_, ownQ_q _ _ _, ⟨[], rfl, rfl, fun _ => ⟨rfl, rfl⟩, fun i hi => by simp at hi, fun i hi => by omega⟩⟩, ?_⟩
  · exact (h_box w1 room 0 (.slice none 0 0)).congr fun j hj => by
      have : j = 0 ∨ j = 1 ∨ j = 2 := by omega
      rcases this with rfl | rfl | rfl <;> simp [hF, m0]
  · refine ⟨by simp; omega, (s1.below (Nat.le_refl _) h1.k0 fun b _ => rfl).trans (hb.mono hss), fun b hb' => ?_, hx.2⟩
    unfold Free
    rw [ownQ_ne (by omega), s1.ownE b hb']; rfl

/-- What does leaves: the box of the document's next heap isn't there yet. -/
def DoesB (B0 : Nat) (w0 wr : World) (own : Owns) (k p room t : Nat) (F : Nat → Value) (m' : M) (e : Ending) (w2 : World) : Prop :=
  ∃ own' a n c, e = .returned (.tuple #[.bool true, .agg #[.int .i64 room, .int .i64 (m'.cells : Nat), .slice a n c]]) ∧ Cx B0 w0 w2 own' ∧ Stp wr.heap.size k own own' wr w2 ∧ Tb w2 own' k p room t F m' a n c
/-- .. or it is there, of number q. -/
def DoesA (B0 : Nat) (w0 wr : World) (own : Owns) (k p room t q : Nat) (F : Nat → Value) (m' : M) (e : Ending) (w2 : World) : Prop :=
  ∃ own' a n c, e = .returned (.tuple #[.bool true, .agg #[.int .i64 room, .int .i64 (m'.cells : Nat), .slice a n c]]) ∧ Cx B0 w0 w2 own' ∧ Stp wr.heap.size k own own' wr w2 ∧ Tb w2 own' k p room t F m' a n c ∧ own' q = (k + 9, 0) ∧ w2.rowIs q 31 3 (hF 0 0 (.slice none 0 0))

section
variable {B0 : Nat} {w0 wr w' : World} {own : Owns} {k p room t : Nat} {m : M} {a : Option Addr} {n c : Nat}
theorem does_b (h : Lp wr own k p room t m a n c) (hC : Cx B0 w0 wr own) (o : Op) (b : Option Addr) (l d : Nat) (hl : o.vals.length = l) (hz : b = none → l = 0 ∧ d = 0) (hr : RV (Free own) wr b o.vals) (hs : o.text.size ≤ 1000) (hn : l ≤ 300) (hb : Below wr.heap.size wr w') :
    Calls Try.prog 12 #[.pointer (some ⟨p, 0, none⟩), .agg #[.int .i64 room, .int .i64 (m.cells : Nat), .slice a n c], opV o b l d] w' (DoesB B0 w0 wr own k p room t (hF room m.cells (.slice a n c)) (stepM room m o)) := by
  refine (does_any (h.hp.below hb) (hC.fz.below hb.size) (h.rl.kp (kp_below hb)) o b l d hl hz (hr.kp (kp_below hb)) hs hn).mono ?_
  rintro e w2 ⟨own', a', n', c', rfl, h2, f2, s2, r2⟩
  have hk := h.hp.k0
  have s := (Stp.of_below hb (k := k) (own := own)).trans (s2.mono hb.size)
  have hlt := h.box.lt
  refine ⟨own', a', n', c', rfl, hC.step s f2 hk, s, h2, h.box.of_block (s.block _ hlt (by rw [h.lab]; simp)), by rw [s.ownE _ hlt]; exact h.lab, r2⟩
theorem does_a (h : Lp wr own k p room t m a n c) (hC : Cx B0 w0 wr own) (o : Op) (b : Option Addr) (l d : Nat) (hl : o.vals.length = l) (hz : b = none → l = 0 ∧ d = 0) (hr : RV (Free own) wr b o.vals) (hs : o.text.size ≤ 1000) (hn : l ≤ 300) (hb : Below wr.heap.size wr w') (hq : wr.heap.size < w'.heap.size) (hq0 : w'.rowIs wr.heap.size 31 3 (hF 0 0 (.slice none 0 0))) :
    Calls Try.prog 12 #[.pointer (some ⟨p, 0, none⟩), .agg #[.int .i64 room, .int .i64 (m.cells : Nat), .slice a n c], opV o b l d] w' (DoesA B0 w0 wr own k p room t wr.heap.size (hF room m.cells (.slice a n c)) (stepM room m o)) := by
  have hx := hp_box h.hp hC.fz hb (Nat.le_refl _) hq
  have kq : Kp (Free own) (Free (ownQ wr.heap.size k own)) wr w' := fun b hb' hp => ⟨by unfold Free; rw [ownQ_ne (by omega)]; exact hp, hb.block b hb'⟩
  refine (does_any hx.1 hx.2 (h.rl.kp kq) o b l d hl hz (hr.kp kq) hs hn).mono ?_
  rintro e w2 ⟨own', a', n', c', rfl, h2, f2, s2, r2⟩
  have hk := h.hp.k0
  have hss := s2.size
  have s : Stp wr.heap.size k own own' wr w2 := ⟨s2.os.trans hb.os, s2.tape.trans hb.tape, s2.output.trans hb.output, by omega, fun b hb' => by rw [s2.ownE b (by omega), ownQ_ne (by omega)],
    fun b hb' hbk => (s2.block b (by omega) (by rw [ownQ_ne (by omega)]; exact hbk)).trans (hb.block b hb')⟩
  have hlt := h.box.lt
  exact ⟨own', a', n', c', rfl, hC.step s f2 hk, s, ⟨h2, h.box.of_block (s.block _ hlt (by rw [h.lab]; simp)), by rw [s.ownE _ hlt]; exact h.lab, r2⟩, by rw [s2.ownE _ hq, ownQ_q], hq0.of_block (s2.block _ hq (by rw [ownQ_q]; simp))⟩
end
theorem calm_at {l : List Op} (h : Calm l) {i : Nat} (hi : i < l.length) : (l.getD i op0).text.size ≤ 1000 ∧ (l.getD i op0).vals.length ≤ 300 := by
  have := h.2 i hi
  unfold badB opAt at this
  simp only [Bool.or_eq_false_iff, decide_eq_false_iff_not] at this
  omega

/-- The next heap is in a box that was there. -/
theorem md_a {B0 : Nat} {w0 w2 : World} {own2 : Owns} {k p room t q : Nat} {F G : Nat → Value} {m : M} {a : Option Addr} {n c : Nat} (hT : Tb w2 own2 k p room t F m a n c) (hC : Cx B0 w0 w2 own2) (hq : own2 q = (k + 9, 0)) (hQ : w2.rowIs q 31 3 G) (hne : q ≠ t) :
    Tb (((w2.setCell ⟨q, 0, none⟩ (.int .i64 room)).setCell ⟨q, 1, none⟩ (.int .i64 (m.cells : Nat))).setCell ⟨q, 2, none⟩ (.slice a n c)) own2 k p room t F m a n c ∧ Cx B0 w0 (((w2.setCell ⟨q, 0, none⟩ (.int .i64 room)).setCell ⟨q, 1, none⟩ (.int .i64 (m.cells : Nat))).setCell ⟨q, 2, none⟩ (.slice a n c)) own2 ∧
      (((w2.setCell ⟨q, 0, none⟩ (.int .i64 room)).setCell ⟨q, 1, none⟩ (.int .i64 (m.cells : Nat))).setCell ⟨q, 2, none⟩ (.slice a n c)).rowIs q 31 3 (hF room m.cells (.slice a n c)) := by
  refine ⟨hT.oth (oth3 w2 q _ _ _) fun b hb => ?_, hC.store hq _ _ _, row3 hQ _ _ _⟩
  rw [hb, hq]
  exact ⟨by simp, by simp, hne⟩
/-- .. or in one that is made. -/
theorem md_b {B0 : Nat} {w0 w2 : World} {own2 : Owns} {k p room t : Nat} {F : Nat → Value} {m : M} {a : Option Addr} {n c : Nat} (hT : Tb w2 own2 k p room t F m a n c) (hC : Cx B0 w0 w2 own2) :
    Tb (w2.alloc (.cells #[.int .i64 room, .int .i64 (m.cells : Nat), .slice a n c] 31)) own2 k p room t F m a n c ∧ Cx B0 w0 (w2.alloc (.cells #[.int .i64 room, .int .i64 (m.cells : Nat), .slice a n c] 31)) own2 ∧
      (w2.alloc (.cells #[.int .i64 room, .int .i64 (m.cells : Nat), .slice a n c] 31)).rowIs w2.heap.size 31 3 (hF room m.cells (.slice a n c)) :=
  ⟨hT.below (below_alloc _ _), hC.grown (below_alloc _ _), (h_box w2 room (m.cells : Nat) (.slice a n c)).congr fun j hj => by simp only [hF]⟩

/-- All objects, and they are the document's. -/
theorem all_lp {wr w' : World} {own : Owns} {k p room t : Nat} {F : Nat → Value} {m : M} {a : Option Addr} {n c : Nat} (h : Tb wr own k p room t F m a n c) (hb : Below wr.heap.size wr w') (hs : w'.heap.size = wr.heap.size) :
    Calls Try.prog 15 #[.pointer (some ⟨p, 0, none⟩)] w' fun e w2 => e = .returned (.slice (some ⟨wr.heap.size, 0, none⟩) n n) ∧ Below wr.heap.size wr w2 ∧
      (∀ w3, Below w2.heap.size w2 w3 → Calls Try.prog 14 #[.slice (some ⟨wr.heap.size, 0, none⟩) n n, .slice a n c] w3 fun e w4 => e = .returned (.bool true) ∧ Below w3.heap.size w3 w4) := by
  have hlen := len_le h.hp
  have hn := rl_len h.rl
  refine (all_any (h.hp.below hb)).mono ?_
  rintro e w2 ⟨xs, vb, rfl, hO, hb2⟩
  rw [hs] at hO hb2 ⊢
  rw [hn] at hO ⊢
  have hB2 : Below wr.heap.size wr w2 := hb.trans hb2
  refine ⟨rfl, hB2, fun w3 hb3 => ?_⟩
  refine same_lists _ _ n n c m.L w3 (by omega) (fun i hi => ?_) _ _ ((hO.rl (Nat.le_refl _) hn).kp (kp_below hb3)) (h.rl.kp (kp_below (below_step hB2 hb3)))
  have := vals_le h.hp.ok h.hp.rm i (by omega)
  omega
end
end Go.Proofs.Ytfeeikajekemlaa
