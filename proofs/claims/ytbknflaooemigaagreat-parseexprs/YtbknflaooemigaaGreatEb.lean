/-
 The document's Expression answers as its plain function says; its done answers as said. Conditions: tokens that lie in memory.
-/
import Derived.Test.YtbknflaooemigaaGreatDw
import Derived.Test.YtbknflaooemigaaGreatDx
import Derived.Test.YtbknflaooemigaaGreatDy
namespace Go.Proofs.YtbknflaooemigaaGreat
open Go.RowKit Go.Sort
set_option linter.unusedVariables false

set_option maxHeartbeats 2000000 in
theorem top_w {T : List Tok} {N : Nat} {U : S → Rs} (hU : Hid (Dos T N 26 #[] U)) : Dos T N 14 #[.int .i64 7] U := by
 intro w tb to n tc s h hf
 obtain ⟨I, d, c, l, k⟩ := s
 obtain ⟨⟨y, ⟨I2, d2, c2, l2, k2⟩⟩, hy⟩ : ∃ q, U ⟨I, d, c, l, k⟩ = q := ⟨_, rfl⟩
 have HU : Hid (∀ w', Below w.heap.size w w' → Calls Tryz.prog 26 #[pQ tb to n tc I d c l k] w' (RetQ w' y y.length (pQ tb to n tc I2 d2 c2 l2 k2))) := Lib.hid (fun w' hb => by
  have := hU.out (tc := tc) (s := ⟨I, d, c, l, k⟩) (h.carry hb) hf
  rw [hy] at this
  exact this)
 show Calls Tryz.prog 14 #[pQ tb to n tc I d c l k, .int .i64 7] w (RetP w tb to n tc (U ⟨I, d, c, l, k⟩))
 rw [hy]
 clear hy h hU
 go_enter Tryz.func14, Tryz.ntmps14
 go_wp2_with fail
 refine (HU.out _ (two_made w (.slice (some ⟨tb, to, none⟩) n tc) I d c l k).2.2).mono ?_
 rintro e w1 ⟨g, cap, rfl, HX, log, hb⟩
 have hbb : Below w.heap.size w w1 := below_step (two_made w (.slice (some ⟨tb, to, none⟩) n tc) I d c l k).2.2 hb
 have hP := (two_made w (.slice (some ⟨tb, to, none⟩) n tc) I d c l k).1.carry hb
 have hR := (two_made w (.slice (some ⟨tb, to, none⟩) n tc) I d c l k).2.1.carry hb
 replace HX := Lib.hid HX
 simp only [World.size_alloc] at log
 clear hb
 have lhP := hP.lt
 have lhR := hR.lt
 obtain ⟨hRc0, hRc1, hRc2, hRc3, hRc4, hRc5, hRf⟩ := id hR
 all_goals (go_wp2_with (first | (rw [put_eq]; refine put_gen hR ?_; clear hR hRc0 hRc1 hRc2 hRc3 hRc4 hRc5 hRf; intro V hR hO; replace hbb := hO.below hbb (by omega); replace HX := Lib.hid (HX.out.oth hO (by omega)); obtain ⟨hRc0, hRc1, hRc2, hRc3, hRc4, hRc5, hRf⟩ := id hR)); refine bodyPost_ret (v := .tuple #[.slice (some ⟨g, 0, none⟩) (y.length) cap, pQ tb to n tc I2 d2 c2 l2 k2]) (by simp [results, Tryz.results14, go_sem, hRc0, hRc1, hRc2, hRc3, hRc4, hRc5]) rfl ⟨g, cap, rfl, HX.out, by omega, hbb⟩)

theorem lev_all {T : List Tok} {N : Nat} {u : S → Rs} (hE : Ends T) (hB : Bd T N u) (hU : Dos T N 26 #[] u) (j : Nat) (hj : j ≤ 6) : Dos T N 14 #[.int .i64 ((7 - j : Nat) : Int)] (levS T N u j) := by
 induction j with
 | zero => exact top_w (Lib.hid hU)
 | succ j ih =>
  have i2 := ih (by omega)
  rw [show ((7 - j : Nat) : Int) = ((6 - j : Nat) : Int) + 1 by omega] at i2
  have z := level_w (lv := 6 - j) (by omega) (by omega) (Lib.hid hE) (Lib.hid (bnd_lev hE hB N j)) (Lib.hid i2)
  rw [show 7 - (j + 1) = 6 - j by omega]
  have e : levS T N u (j + 1) = fun s => contS (6 - j = 3 ∨ 6 - j = 4) T (levS T N u j) (sg (6 - j)) N (levS T N u j s).1 (levS T N u j s).2 := by
   funext s; rw [levS]; rfl
  rw [e]
  exact z
theorem eu_all {T : List Tok} (hE : Ends T) (n : Nat) : Dos T n 14 #[.int .i64 1] (euS T n).1 ∧ Dos T n 26 #[] (euS T n).2 := by
 induction n with
 | zero => exact ⟨fun w tb to n tc s h hf => by have := hf.2.1; omega, fun w tb to n tc s h hf => by have := hf.2.1; omega⟩
 | succ n ih =>
  obtain ⟨b1, b2⟩ := bnd_eu hE n
  obtain ⟨p1, p2⟩ := pos_eu hE n
  have hA := atom_w hE b1 p1 ih.1
  have hQ := post_w (Lib.hid hE) (Lib.hid b1) (Lib.hid hA) (Lib.hid ih.1)
  have hU := unary_w (Lib.hid hE) (Lib.hid b2) (Lib.hid ih.2) (Lib.hid hQ)
  exact ⟨lev_all hE (bnd_eu hE (n + 1)).2 hU 6 (Nat.le_refl _), hU⟩

end Go.Proofs.YtbknflaooemigaaGreat
