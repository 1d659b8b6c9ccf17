/-
 The document's done answers as said. Conditions: tokens that lie in memory.
-/
import Derived.Test.YtbknflaooemigaaGreatDk
namespace Go.Proofs.YtbknflaooemigaaGreat
open Go.RowKit Go.Sort
set_option linter.unusedVariables false

/-- A fault in a box of its own. -/
structure Fx (w : World) (b : Nat) (x y z : Int) : Prop where
 c0 : w.cell? ⟨b, 0, none⟩ = some (.int .i64 x)
 c1 : w.cell? ⟨b, 1, none⟩ = some (.int .i64 y)
 c2 : w.cell? ⟨b, 2, none⟩ = some (.int .i64 z)
 fz : ∀ o, w.frozen? ⟨b, o, none⟩ = false
theorem Fx.made (w : World) (x y z : Int) : Fx (w.alloc (.cells #[.int .i64 x, .int .i64 y, .int .i64 z] 26)) w.heap.size x y z :=
 ⟨by simp [go_sem], by simp [go_sem], by simp [go_sem], fun o => by simp [go_sem]⟩
theorem Fx.carry {w w' : World} {b : Nat} {x y z : Int} (h : Fx w b x y z) (hb : Below w.heap.size w w') : Fx w' b x y z :=
 ⟨cell_carry hb h.c0, cell_carry hb h.c1, cell_carry hb h.c2, fun o => froz_carry hb h.c0 (h.fz o)⟩
theorem Fx.oth {b g : Nat} {w w' : World} {x y z : Int} (h : Fx w g x y z) (ho : Oth b w w') (hg : g ≠ b) : Fx w' g x y z :=
 ⟨(ho.cell hg).trans h.c0, (ho.cell hg).trans h.c1, (ho.cell hg).trans h.c2, fun o => (ho.froz hg).trans (h.fz o)⟩
theorem Fx.lt {w : World} {b : Nat} {x y z : Int} (h : Fx w b x y z) : b < w.heap.size := block_lt_of_cell h.c0
theorem done_made (w : World) (sl : Value) (I d c l k : Int) : Bx ((w.alloc (.cells #[sl, .int .i64 I, .int .i64 d, .int .i64 c, .int .i64 l, .int .i64 k] 43)).alloc (.cells #[.int .i64 0, .int .i64 0, .int .i64 0] 26)) w.heap.size sl I d c l k ∧
  Fx ((w.alloc (.cells #[sl, .int .i64 I, .int .i64 d, .int .i64 c, .int .i64 l, .int .i64 k] 43)).alloc (.cells #[.int .i64 0, .int .i64 0, .int .i64 0] 26)) (w.heap.size + 1) 0 0 0 ∧
  Below w.heap.size w ((w.alloc (.cells #[sl, .int .i64 I, .int .i64 d, .int .i64 c, .int .i64 l, .int .i64 k] 43)).alloc (.cells #[.int .i64 0, .int .i64 0, .int .i64 0] 26)) :=
 ⟨(Bx.made w sl I d c l k).carry (below_alloc _ _), by have z := Fx.made (w.alloc (.cells #[sl, .int .i64 I, .int .i64 d, .int .i64 c, .int .i64 l, .int .i64 k] 43)) 0 0 0; rw [World.size_alloc] at z; exact z, by go_grown⟩

/-- A fault is laid into a box. -/
def PutF (w : World) (b : Nat) (x y z : Int) : World := ((w.setCell ⟨b, 0, none⟩ (.int .i64 x)).setCell ⟨b, 1, none⟩ (.int .i64 y)).setCell ⟨b, 2, none⟩ (.int .i64 z)
theorem putF_eq (w : World) (b : Nat) (x y z : Int) : ((w.setCell ⟨b, 0, none⟩ (.int .i64 x)).setCell ⟨b, 1, none⟩ (.int .i64 y)).setCell ⟨b, 2, none⟩ (.int .i64 z) = PutF w b x y z := rfl
theorem fx_set {w : World} {b : Nat} {x y z : Int} (h : Fx w b x y z) (v : Int) : Fx (w.setCell ⟨b, 0, none⟩ (.int .i64 v)) b v y z ∧ Fx (w.setCell ⟨b, 1, none⟩ (.int .i64 v)) b x v z ∧ Fx (w.setCell ⟨b, 2, none⟩ (.int .i64 v)) b x y v := by
 obtain ⟨c0, c1, c2, f⟩ := h
 refine ⟨⟨?_, ?_, ?_, ?_⟩, ⟨?_, ?_, ?_, ?_⟩, ⟨?_, ?_, ?_, ?_⟩⟩ <;> simp [go_sem, c0, c1, c2, f]
theorem putF_ex {w : World} {b : Nat} {x0 y0 z0 : Int} (h : Fx w b x0 y0 z0) (x y z : Int) : ∃ W, Hid (PutF w b x y z = W) ∧ Fx W b x y z ∧ Oth b w W :=
 ⟨_, Lib.hid rfl, (fx_set (fx_set (fx_set h x).1 y).2.1 z).2.2, ((Oth.set w b 0 _).trans (Oth.set _ b 1 _)).trans (Oth.set _ b 2 _)⟩

set_option maxHeartbeats 2000000 in
theorem done_ok {w : World} {tb to n tc : Nat} {T : List Tok} {I : Nat} {d c l k : Int} (h : Ev w tb to n T I) (hc : c = 0) (hk : (nowS T ⟨I, d, c, l, k⟩).kind = 8) (g m cap : Nat) :
  Calls Tryz.prog 15 #[.slice (some ⟨g, 0, none⟩) m cap, pQ tb to n tc I d c l k] w (Ret w (.tuple #[.slice (some ⟨g, 0, none⟩) m cap, .agg #[.int .i64 0, .int .i64 0, .int .i64 0]])) := by
 obtain ⟨⟨kd, ln, cl, nm, tx⟩, ht⟩ : ∃ t, nowS T ⟨I, d, c, l, k⟩ = t := ⟨_, rfl⟩
 rw [ht] at hk
 simp only at hk
 have hlt := h.lt
 have hln := h.ln
 have htn := h.en.tn
 have HN := Lib.hid (fun w' (hb : Below w.heap.size w w') => now_p (tc := tc) (s := ⟨I, d, c, l, k⟩) (h.carry hb) ht)
 obtain ⟨X, hX0⟩ : ∃ X, bs tx = X := ⟨_, rfl⟩
 rw [hX0] at HN
 have f0 := tokF0 kd ln cl nm X
 have HB := Lib.hid (fun w' (hb : Below w.heap.size w w') => bad_p (w := w') (tb := tb) (to := to) (n := n) (tc := tc) (s := ⟨I, d, c, l, k⟩) false (by simpa using hc))
 have e8 : ((kd : Int) != 8) = false := by rw [hk]; rfl
 clear hk hc
 clear h ht hX0
 go_enter Tryz.func15, Tryz.ntmps15
 go_wp2_with fail
 refine (HN.out _ (done_made w (.slice (some ⟨tb, to, none⟩) n tc) I d c l k).2.2).mono ?_
 rintro e w1 ⟨rfl, hb⟩
 have hbb : Below w.heap.size w w1 := below_step (done_made w (.slice (some ⟨tb, to, none⟩) n tc) I d c l k).2.2 hb
 have hP := (done_made w (.slice (some ⟨tb, to, none⟩) n tc) I d c l k).1.carry hb
 have hF := (done_made w (.slice (some ⟨tb, to, none⟩) n tc) I d c l k).2.1.carry hb
 have hz1 := hb.size
 simp only [World.size_alloc] at hz1
 clear hb
 have lhP := hP.lt
 have lhF := hF.lt
 obtain ⟨hPc0, hPc1, hPc2, hPc3, hPc4, hPc5, hPf⟩ := id hP
 obtain ⟨hFc0, hFc1, hFc2, hFf⟩ := id hF
 go_wp2_with fail
 refine (HB.out _ hbb).mono ?_
 rintro e w2 ⟨rfl, hb⟩
 clear hPc0 hPc1 hPc2 hPc3 hPc4 hPc5 hPf hFc0 hFc1 hFc2 hFf
 replace hP := hP.carry hb
 replace hF := hF.carry hb
 replace hbb := below_step hbb hb
 have hz2 := hb.size
 clear hb
 have lhP := hP.lt
 have lhF := hF.lt
 obtain ⟨hPc0, hPc1, hPc2, hPc3, hPc4, hPc5, hPf⟩ := id hP
 obtain ⟨hFc0, hFc1, hFc2, hFf⟩ := id hF
 go_wp2_with fail
 obtain ⟨V, hV, nF, hO⟩ := putF_ex hF 0 0 0
 rw [putF_eq, hV.out]
 replace hbb := hO.below hbb (by omega)
 clear hO hFc0 hFc1 hFc2 hFf
 obtain ⟨hFc0, hFc1, hFc2, hFf⟩ := id nF
 refine bodyPost_ret (v := .tuple #[.slice (some ⟨g, 0, none⟩) m cap, .agg #[.int .i64 0, .int .i64 0, .int .i64 0]]) (by simp [results, Tryz.results15, go_sem, hFc0, hFc1, hFc2]) rfl ⟨rfl, hbb⟩

set_option maxHeartbeats 2000000 in
theorem done_end {w : World} {tb to n tc : Nat} {T : List Tok} {I : Nat} {d c l k : Int} (h : Ev w tb to n T I) (hc : c ≠ 0) (hk : (nowS T ⟨I, d, c, l, k⟩).kind = 8) (g m cap : Nat) :
  Calls Tryz.prog 15 #[.slice (some ⟨g, 0, none⟩) m cap, pQ tb to n tc I d c l k] w (fun e w' => ∃ g1, e = .returned (.tuple #[.slice (some ⟨g1, 0, none⟩) 0 0, .agg #[.int .i64 c, .int .i64 l, .int .i64 k]]) ∧ Lies (ndFlat []) g1 w' ∧ w.heap.size ≤ g1 ∧ Below w.heap.size w w') := by
 obtain ⟨⟨kd, ln, cl, nm, tx⟩, ht⟩ : ∃ t, nowS T ⟨I, d, c, l, k⟩ = t := ⟨_, rfl⟩
 rw [ht] at hk
 simp only at hk
 have hlt := h.lt
 have hln := h.ln
 have htn := h.en.tn
 have HN := Lib.hid (fun w' (hb : Below w.heap.size w w') => now_p (tc := tc) (s := ⟨I, d, c, l, k⟩) (h.carry hb) ht)
 obtain ⟨X, hX0⟩ : ∃ X, bs tx = X := ⟨_, rfl⟩
 rw [hX0] at HN
 have f0 := tokF0 kd ln cl nm X
 have HB := Lib.hid (fun w' (hb : Below w.heap.size w w') => bad_p (w := w') (tb := tb) (to := to) (n := n) (tc := tc) (s := ⟨I, d, c, l, k⟩) true (by simpa using hc))
 have e8 : ((kd : Int) != 8) = false := by rw [hk]; rfl
 clear hk hc
 clear h ht hX0
 go_enter Tryz.func15, Tryz.ntmps15
 go_wp2_with fail
 refine (HN.out _ (done_made w (.slice (some ⟨tb, to, none⟩) n tc) I d c l k).2.2).mono ?_
 rintro e w1 ⟨rfl, hb⟩
 have hbb : Below w.heap.size w w1 := below_step (done_made w (.slice (some ⟨tb, to, none⟩) n tc) I d c l k).2.2 hb
 have hP := (done_made w (.slice (some ⟨tb, to, none⟩) n tc) I d c l k).1.carry hb
 have hF := (done_made w (.slice (some ⟨tb, to, none⟩) n tc) I d c l k).2.1.carry hb
 have hz1 := hb.size
 simp only [World.size_alloc] at hz1
 clear hb
 have lhP := hP.lt
 have lhF := hF.lt
 obtain ⟨hPc0, hPc1, hPc2, hPc3, hPc4, hPc5, hPf⟩ := id hP
 obtain ⟨hFc0, hFc1, hFc2, hFf⟩ := id hF
 go_wp2_with fail
 refine (HB.out _ hbb).mono ?_
 rintro e w2 ⟨rfl, hb⟩
 clear hPc0 hPc1 hPc2 hPc3 hPc4 hPc5 hPf hFc0 hFc1 hFc2 hFf
 replace hP := hP.carry hb
 replace hF := hF.carry hb
 replace hbb := below_step hbb hb
 have hz2 := hb.size
 clear hb
 have lhP := hP.lt
 have lhF := hF.lt
 obtain ⟨hPc0, hPc1, hPc2, hPc3, hPc4, hPc5, hPf⟩ := id hP
 obtain ⟨hFc0, hFc1, hFc2, hFf⟩ := id hF
 go_wp2_with fail
 go_region
 obtain ⟨V, hV, nF, hO⟩ := putF_ex hF c l k
 have hsV := hO.size
 rw [putF_eq, hV.out]
 replace hbb := hO.below hbb (by omega)
 clear hO hFc0 hFc1 hFc2 hFf
 obtain ⟨Vn, hVn⟩ : ∃ Vn, Vn = (V.alloc (.cells #[] 32)).drew := ⟨_, rfl⟩
 rw [← hVn]
 have hbV : Below V.heap.size V Vn := by rw [hVn]; go_grown
 have hzV : Vn.heap.size = V.heap.size + 1 := by rw [hVn]; simp
 replace nF := nF.carry hbV
 replace hbb := below_step hbb hbV
 clear hbV hVn
 obtain ⟨hFc0, hFc1, hFc2, hFf⟩ := id nF
 go_wp2_with fail
 refine bodyPost_ret (v := .tuple #[.slice (some ⟨w2.heap.size, 0, none⟩) 0 0, .agg #[.int .i64 c, .int .i64 l, .int .i64 k]]) (by simp [results, Tryz.results15, go_sem, hFc0, hFc1, hFc2]) rfl ⟨w2.heap.size, rfl, lies_nil (by omega), by omega, hbb⟩

set_option maxHeartbeats 2000000 in
theorem done_more {w : World} {tb to n tc : Nat} {T : List Tok} {I : Nat} {d c l k : Int} (h : Ev w tb to n T I) {s1 : S} (hs1 : failS T ⟨I, d, c, l, k⟩ 5 = s1) (hk : (nowS T ⟨I, d, c, l, k⟩).kind ≠ 8) (g m cap : Nat) :
  Calls Tryz.prog 15 #[.slice (some ⟨g, 0, none⟩) m cap, pQ tb to n tc I d c l k] w (fun e w' => ∃ g1, e = .returned (.tuple #[.slice (some ⟨g1, 0, none⟩) 0 0, .agg #[.int .i64 s1.c, .int .i64 s1.l, .int .i64 s1.k]]) ∧ Lies (ndFlat []) g1 w' ∧ w.heap.size ≤ g1 ∧ Below w.heap.size w w') := by
 obtain ⟨⟨kd, ln, cl, nm, tx⟩, ht⟩ : ∃ t, nowS T ⟨I, d, c, l, k⟩ = t := ⟨_, rfl⟩
 rw [ht] at hk
 simp only at hk
 have hlt := h.lt
 have hln := h.ln
 have htn := h.en.tn
 have HN := Lib.hid (fun w' (hb : Below w.heap.size w w') => now_p (tc := tc) (s := ⟨I, d, c, l, k⟩) (h.carry hb) ht)
 obtain ⟨X, hX0⟩ : ∃ X, bs tx = X := ⟨_, rfl⟩
 rw [hX0] at HN
 have f0 := tokF0 kd ln cl nm X
 obtain ⟨I1, d1, c1, l1, k1⟩ := s1
 have hI1 : I1 = I := by have := failS_I T ⟨I, d, c, l, k⟩ 5; rw [hs1] at this; exact this
 have hc1 : c1 ≠ 0 := by
  unfold failS at hs1
  split at hs1
  ·cases hs1; decide
  ·rename_i h0; cases hs1; exact h0
 have HFl := Lib.hid (fun w' (hb : Below w.heap.size w w') => fail_p (tc := tc) (s := ⟨I, d, c, l, k⟩) (h.carry hb) 5 _ hs1)
 have HB := Lib.hid (fun w' (hb : Below w.heap.size w w') => bad_p (w := w') (tb := tb) (to := to) (n := n) (tc := tc) (s := ⟨I1, d1, c1, l1, k1⟩) true (by simpa using hc1))
 have e8 : ((kd : Int) != 8) = true := by rw [bne_iff_ne]; omega
 clear hk hc1 hs1 hI1
 clear h ht hX0
 go_enter Tryz.func15, Tryz.ntmps15
 go_wp2_with fail
 refine (HN.out _ (done_made w (.slice (some ⟨tb, to, none⟩) n tc) I d c l k).2.2).mono ?_
 rintro e w1 ⟨rfl, hb⟩
 have hbb : Below w.heap.size w w1 := below_step (done_made w (.slice (some ⟨tb, to, none⟩) n tc) I d c l k).2.2 hb
 have hP := (done_made w (.slice (some ⟨tb, to, none⟩) n tc) I d c l k).1.carry hb
 have hF := (done_made w (.slice (some ⟨tb, to, none⟩) n tc) I d c l k).2.1.carry hb
 have hz1 := hb.size
 simp only [World.size_alloc] at hz1
 clear hb
 have lhP := hP.lt
 have lhF := hF.lt
 obtain ⟨hPc0, hPc1, hPc2, hPc3, hPc4, hPc5, hPf⟩ := id hP
 obtain ⟨hFc0, hFc1, hFc2, hFf⟩ := id hF
 go_wp2_with fail
 refine (HFl.out _ hbb).mono ?_
 rintro e w2 ⟨rfl, hb⟩
 clear hPc0 hPc1 hPc2 hPc3 hPc4 hPc5 hPf hFc0 hFc1 hFc2 hFf
 replace hP := hP.carry hb
 replace hF := hF.carry hb
 replace hbb := below_step hbb hb
 have hz2 := hb.size
 clear hb
 have lhP := hP.lt
 have lhF := hF.lt
 obtain ⟨hPc0, hPc1, hPc2, hPc3, hPc4, hPc5, hPf⟩ := id hP
 obtain ⟨hFc0, hFc1, hFc2, hFf⟩ := id hF
 obtain ⟨V0, hV0, nP, hO⟩ := put_ex hP (.slice (some ⟨tb, to, none⟩) n tc) I1 d1 c1 l1 k1
 have hs0 := hO.size
 go_wp2_with fail
 rw [put_eq, hV0.out]
 clear hPc0 hPc1 hPc2 hPc3 hPc4 hPc5 hPf hFc0 hFc1 hFc2 hFf
 replace hP := nP
 replace hF := hF.oth hO (by omega)
 replace hbb := hO.below hbb (by omega)
 clear hO nP hV0
 have lhP := hP.lt
 have lhF := hF.lt
 obtain ⟨hPc0, hPc1, hPc2, hPc3, hPc4, hPc5, hPf⟩ := id hP
 obtain ⟨hFc0, hFc1, hFc2, hFf⟩ := id hF
 refine (HB.out _ hbb).mono ?_
 rintro e w3 ⟨rfl, hb⟩
 clear hPc0 hPc1 hPc2 hPc3 hPc4 hPc5 hPf hFc0 hFc1 hFc2 hFf
 replace hP := hP.carry hb
 replace hF := hF.carry hb
 replace hbb := below_step hbb hb
 have hz3 := hb.size
 clear hb
 have lhP := hP.lt
 have lhF := hF.lt
 obtain ⟨hPc0, hPc1, hPc2, hPc3, hPc4, hPc5, hPf⟩ := id hP
 obtain ⟨hFc0, hFc1, hFc2, hFf⟩ := id hF
 go_wp2_with fail
 go_region
 obtain ⟨V, hV, nF, hO⟩ := putF_ex hF c1 l1 k1
 have hsV := hO.size
 rw [putF_eq, hV.out]
 replace hbb := hO.below hbb (by omega)
 clear hO hFc0 hFc1 hFc2 hFf
 obtain ⟨Vn, hVn⟩ : ∃ Vn, Vn = (V.alloc (.cells #[] 32)).drew := ⟨_, rfl⟩
 rw [← hVn]
 have hbV : Below V.heap.size V Vn := by rw [hVn]; go_grown
 have hzV : Vn.heap.size = V.heap.size + 1 := by rw [hVn]; simp
 replace nF := nF.carry hbV
 replace hbb := below_step hbb hbV
 clear hbV hVn
 obtain ⟨hFc0, hFc1, hFc2, hFf⟩ := id nF
 go_wp2_with fail
 refine bodyPost_ret (v := .tuple #[.slice (some ⟨w3.heap.size, 0, none⟩) 0 0, .agg #[.int .i64 c1, .int .i64 l1, .int .i64 k1]]) (by simp [results, Tryz.results15, go_sem, hFc0, hFc1, hFc2]) rfl ⟨w3.heap.size, rfl, lies_nil (by omega), by omega, hbb⟩

end Go.Proofs.YtbknflaooemigaaGreat
