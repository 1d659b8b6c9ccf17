/-
  Contract of parse.countOf, and what a part of a reader's nodes is. Conditions: as said.
-/
import Derived.Test.YtbknflaooemigaaRee
namespace Go.Proofs.Ytbknflaooemigaa
open Go.RowKit Go.Sort
set_option linter.unusedVariables false
set_option linter.unusedSimpArgs false

/-- Nodes that lie in memory one behind the other. -/
def NRow (w : World) (a : Option Addr) (l : List Nd) : Prop := ∀ i, i < l.length → ∃ g o, a = some ⟨g, o, none⟩ ∧ At w g (o + i * 6) (nd l i)
theorem NRow.carry {w w' : World} {a : Option Addr} {l : List Nd} (h : NRow w a l) (hb : Below w.heap.size w w') : NRow w' a l := fun i hi => by
  obtain ⟨g, o, h1, h2⟩ := h i hi
  exact ⟨g, o, h1, h2.carry hb⟩

theorem own_at {w : World} {B g cap n : Nat} {D : List Nd} (h : OwnN w B (.slice (some ⟨g, 0, none⟩) n cap) D) {i : Nat} {t : Nd} (hi : D[i]? = some t) : At w g (i * 6) t := by
  have hlt : i < D.length := (List.getElem?_eq_some_iff.1 hi).1
  have hc : ∀ j u, j < 6 → (ndCells t)[j]? = some u → w.cell? ⟨g, i * 6 + j, none⟩ = some u := fun j u hj hu => by
    have := World.ownsRow.cells h (g := g) rfl (i * 6 + j) u (by
      have hD : D = D.take i ++ t :: D.drop (i + 1) := by
        rw [List.getElem?_eq_getElem hlt] at hi
        rw [← Option.some.inj hi]
        simp
      rw [hD, ndFlat_app, List.getElem?_append_right (by rw [ndFlat_len, List.length_take]; omega), ndFlat_len, List.length_take, show i * 6 + j - min i D.length * 6 = j by rw [Nat.min_eq_left (by omega)]; omega]
      unfold ndFlat
      rw [List.flatMap_cons, List.getElem?_append_left (by simp [ndCells]; omega)]
      exact hu)
    rwa [plain_add] at this
  exact ⟨by simpa using hc 0 _ (by decide) rfl, hc 1 _ (by decide) rfl, hc 2 _ (by decide) rfl, hc 3 _ (by decide) rfl, hc 4 _ (by decide) rfl, hc 5 _ (by decide) rfl⟩

theorem Try.elem23 : Try.prog.elem 23 = 32 := by kernel_rfl
theorem Try.size32 (w : World) : (sizeOf 32).run Try.prog w = .ok 6 w := by kernel_rfl

theorem cut_row {w : World} {b tb to tc : Nat} {T : List Tok} {at_ : Nat} {d : Int} {v : Value} {D : List Nd} {F : Fo} (h : Rd w b tb to tc T at_ d v (D ++ F.post)) (dn : Nat) (hdn : D.length = dn) :
    ∃ a m cap a' cap', v = .slice a m cap ∧ (∀ w, (Instr.slice 23 (.slice a m cap) (some (.int .i64 dn)) none none).run Try.prog w = .ok (.slice a' F.cnt cap') w) ∧ NRow w a' F.post ∧ (dn : Int) ≤ m := by
  have ho := h.own
  have hlen : (D ++ F.post).length = dn + F.cnt := by rw [List.length_append, post_len, hdn]
  rcases ho.2 with ⟨hv, h0⟩ | ⟨g, cap, cur, hv, hg, hh, hc1, hc2, hr⟩
  · refine ⟨none, 0, 0, none, 0, hv, fun w => ?_, fun i hi => ?_, by omega⟩
    · rw [run_slice_l w 23 none 0 0 Try.underlying23 .i64 dn (by omega) (by omega), Try.elem23, Try.size32]
      have : F.cnt = 0 := by omega
      simp [sliced, Result.andThen, this]
    · rw [post_len] at hi; omega
  · rw [hlen] at hv hc1
    refine ⟨some ⟨g, 0, none⟩, dn + F.cnt, cap, if cap = dn then some ⟨g, 0, none⟩ else some ⟨g, dn * 6, none⟩, cap - dn, hv, fun w => ?_, fun i hi => ?_, by omega⟩
    · rw [run_slice_l w 23 _ _ cap Try.underlying23 .i64 dn (by omega) (by omega), Try.elem23, Try.size32]
      simp only [Result.andThen, sliced]
      by_cases hcd : cap = dn
      · simp [hcd]
      · simp [hcd, Addr.add]
        try omega
    · rw [post_len] at hi
      have hcd : ¬ cap = dn := by omega
      refine ⟨g, dn * 6, by rw [if_neg hcd], ?_⟩
      rw [hv] at ho
      have := own_at ho (i := dn + i) (t := nd F.post i) (by
        rw [List.getElem?_append_right (by omega), hdn, show dn + i - dn = i by omega]
        unfold nd
        simp [List.getD, post_len, hi])
      rwa [Nat.add_mul] at this

set_option maxHeartbeats 1000000 in
theorem count_any {w : World} {a : Option Addr} {n cap : Nat} {l : List Nd} (hn : Hid (l.length = n)) (hl : n ≤ 600000) (hr : Hid (NRow w a l)) (k : Nat) :
    Calls Try.prog 49 #[.slice a n cap, .int .u8 k] w fun e w' => e = .returned (.int .i64 (cntK k l : Nat)) ∧ Below w.heap.size w w' := by
  go_enter Try.func49, Try.ntmps49
  go_wp2_with fail
  go_loopw [5, 10] (fun c j wr => ∃ i : Nat, i ≤ n ∧ j = .int .i64 i ∧ c = .int .i64 (cntK k (l.take i) : Nat) ∧ Below w.heap.size w wr) (fun _ j _ => n - (intOf j).toNat)
  case atStart => exact ⟨0, Nat.zero_le _, rfl, by simp [cntK], Below.refl _ _⟩
  case round =>
    obtain ⟨i, hi, rfl, rfl, hb⟩ := hrel
    have hcle : cntK k (l.take i) ≤ i := by
      unfold cntK
      refine Nat.le_trans (List.length_filter_le _ _) ?_
      rw [List.length_take]; omega
    by_cases hlt : i < n
    · obtain ⟨g, o, rfl, hat⟩ := (hr.out.carry hb) i (by rw [hn.out]; exact hlt)
      obtain ⟨t0, t1, t2, t3, t4, t5⟩ := hat
      have hgl := block_lt_of_cell t0
      have htk : l.take (i + 1) = l.take i ++ [nd l i] := by
        rw [List.take_succ_eq_append_getElem (by rw [hn.out]; exact hlt)]
        unfold nd
        simp [List.getD, hn.out, hlt]
      obtain ⟨⟨kd, ln, cl, sz, nm, tx⟩, hnd⟩ : ∃ t, nd l i = t := ⟨_, rfl⟩
      rw [hnd] at htk t0 t1 t2 t3 t4 t5
      obtain ⟨c, hc⟩ : ∃ c, cntK k (l.take i) = c := ⟨_, rfl⟩
      rw [hc] at hcle
      rw [hc]
      simp only at t0 t1 t2 t3 t4 t5
      by_cases hkk : kd = k
      · have e1 : ((kd : Int) == (k : Int)) = true := by rw [hkk]; simp
        have HC : Hid (cntK k (l.take (i + 1)) = c + 1) := Lib.hid (by rw [htk]; unfold cntK at hc ⊢; rw [List.filter_append, List.length_append, hc]; simp [hkk])
        replace hb := Lib.hid hb
        clear htk hc hkk hnd
        go_wp2_with fail
        go_roundw
        case rel => exact ⟨i + 1, hlt, by go_num, by rw [HC.out]; go_num, below_step hb.out (by go_grown)⟩
        case measure => simp [intOf]; omega
      · have e1 : ((kd : Int) == (k : Int)) = false := by rw [beq_eq_false_iff_ne]; omega
        have HC : Hid (cntK k (l.take (i + 1)) = c) := Lib.hid (by rw [htk]; unfold cntK at hc ⊢; rw [List.filter_append, List.length_append, hc]; simp [hkk])
        replace hb := Lib.hid hb
        clear htk hc hkk hnd
        go_wp2_with fail
        go_roundw
        case rel => exact ⟨i + 1, hlt, by go_num, by rw [HC.out], below_step hb.out (by go_grown)⟩
        case measure => simp [intOf]; omega
    · obtain rfl : i = n := by omega
      have hq : cntK k (l.take i) = cntK k l := by rw [← hn.out, List.take_length]
      rw [hq] at hcle
      rw [hq]
      replace hb := Lib.hid hb
      go_wp2_with fail
      go_ret
      exact ⟨rfl, hb.out⟩

end Go.Proofs.Ytbknflaooemigaa
