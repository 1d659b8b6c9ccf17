/-
 The document's atom answers as said, if what it calls does. Conditions: those calls' contracts.
-/
import Derived.Test.YtbknflaooemigaaGreatDk
namespace Go.Proofs.YtbknflaooemigaaGreat
open Go.RowKit Go.Sort
set_option linter.unusedVariables false

set_option maxRecDepth 100000 in
set_option maxHeartbeats 4000000 in
theorem atom_bad {w : World} {tb to n tc : Nat} {T : List Tok} {s : S} (h : Ev w tb to n T s.I) {kd ln cl : Nat} {nm : Int} {tx : List UInt8} (ht : nowS T s = ⟨kd, ln, cl, nm, tx⟩) (hc : s.c ≠ 0) : Calls Tryz.prog 70 #[pV tb to n tc s] w (RetP w tb to n tc ([nilNd], s)) := by
 obtain ⟨I, d, c, l, k⟩ := s
 have hn1 := h.ln
 have hn2 := h.en.tn
 have hI0 : I < n := h.lt
 have HV := Lib.hid h
 have HN := Lib.hid (fun w' (hb : Below w.heap.size w w') => now_p (tc := tc) (s := ⟨I, d, c, l, k⟩) (HV.out.carry hb) ht)
 obtain ⟨X, hX0⟩ : ∃ X, bs tx = X := ⟨_, rfl⟩
 rw [hX0] at HN
 replace hX0 := Lib.hid hX0
 clear h
 have HB := Lib.hid (fun w' (hb : Below w.heap.size w w') => bad_p (w := w') (tb := tb) (to := to) (n := n) (tc := tc) (s := ⟨I, d, c, l, k⟩) true (by simpa using hc))
 replace hc := Lib.hid hc
 clear ht
 go_enter Tryz.func70, Tryz.ntmps70
 go_wp2_with fail
 refine (HN.out _ (two_made w (.slice (some ⟨tb, to, none⟩) n tc) I d c l k).2.2).mono ?_
 rintro e w1 ⟨rfl, hb⟩
 have hbb : Below w.heap.size w w1 := below_step (two_made w (.slice (some ⟨tb, to, none⟩) n tc) I d c l k).2.2 hb
 have hP := (two_made w (.slice (some ⟨tb, to, none⟩) n tc) I d c l k).1.carry hb
 have hR := (two_made w (.slice (some ⟨tb, to, none⟩) n tc) I d c l k).2.1.carry hb
 clear hb
 have lhP := hP.lt
 have lhR := hR.lt
 obtain ⟨hPc0, hPc1, hPc2, hPc3, hPc4, hPc5, hPf⟩ := id hP
 obtain ⟨hRc0, hRc1, hRc2, hRc3, hRc4, hRc5, hRf⟩ := id hR
 go_wp2_with fail
 refine (HB.out _ (below_step (below_step hbb (below_alloc _ (.cells #[.int .u8 kd, .int .i64 ln, .int .i64 cl, .int .i64 nm, .string X] 38))) (below_alloc _ (.cells #[] 32)))).mono ?_
 rintro e w2 ⟨rfl, hb⟩
 clear hPc0 hPc1 hPc2 hPc3 hPc4 hPc5 hPf hRc0 hRc1 hRc2 hRc3 hRc4 hRc5 hRf
 have hb2 := below_from hbb (by go_grown) hb
 have hT := ((Tx.made w1 kd ln cl nm X).carry (below_alloc _ (.cells #[] 32))).carry hb
 have HE : Hid (Lies (ndFlat []) (w1.heap.size + 1) w2) := Lib.hid (lies_nil (by have := hb.size; simp only [World.size_alloc] at this; omega))
 have hz2 := hb.size
 simp only [World.size_alloc] at hz2
 replace hP := hP.carry hb2
 replace hR := hR.carry hb2
 replace hbb := below_step hbb hb2
 clear hb hb2
 have lhP := hP.lt
 have lhR := hR.lt
 have lhT := hT.lt
 obtain ⟨hPc0, hPc1, hPc2, hPc3, hPc4, hPc5, hPf⟩ := id hP
 obtain ⟨hRc0, hRc1, hRc2, hRc3, hRc4, hRc5, hRf⟩ := id hR
 go_wp2_with fail
 go_region
 obtain ⟨V, hV, nR, hO⟩ := put_ex hR (.slice (some ⟨tb, to, none⟩) n tc) I d c l k
 have hsV := hO.size
 rw [put_eq, hV.out]
 replace hbb := hO.below hbb (by omega)
 clear hPc0 hPc1 hPc2 hPc3 hPc4 hPc5 hPf hRc0 hRc1 hRc2 hRc3 hRc4 hRc5 hRf hO
 obtain ⟨Vn, hVn⟩ : ∃ Vn, Vn = V.alloc (.cells #[.int .u8 25, .int .i64 0, .int .i64 0, .int .i64 0, .int .i64 0, .string { data := #[] }] 32) := ⟨_, rfl⟩
 rw [← hVn]
 have hbV : Below V.heap.size V Vn := by rw [hVn]; go_grown
 have HY : Hid (Lies (ndFlat [nilNd]) V.heap.size Vn) := Lib.hid (by
  rw [hVn]
  have := own_made V #[.int .u8 25, .int .i64 0, .int .i64 0, .int .i64 0, .int .i64 0, .string { data := #[] }] [nilNd] (by simp [ndFlat, ndCells, nilNd, bs]) V.heap.size (Nat.le_refl _) (by simp)
  obtain ⟨g0, c0, e0, l0, -⟩ := own_nr this ⟨_, _, _, rfl⟩
  cases e0
  exact l0)
 replace nR := nR.carry hbV
 replace hbb := below_step hbb hbV
 rw [hsV] at HY
 clear hVn hbV
 obtain ⟨hRc0, hRc1, hRc2, hRc3, hRc4, hRc5, hRf⟩ := id nR
 go_wp2_with fail
 refine bodyPost_ret (v := .tuple #[.slice (some ⟨w2.heap.size, 0, none⟩) 1 1, pQ tb to n tc I d c l k]) (by simp [results, Tryz.results70, go_sem, hRc0, hRc1, hRc2, hRc3, hRc4, hRc5]) rfl ⟨w2.heap.size, 1, rfl, HY.out, by omega, (by first | exact hbb | exact below_step hbb (by go_grown))⟩

set_option maxRecDepth 100000 in
set_option maxHeartbeats 4000000 in
theorem atom_num {w : World} {tb to n tc : Nat} {T : List Tok} {s : S} (h : Ev w tb to n T s.I) {kd ln cl : Nat} {nm : Int} {tx : List UInt8} (ht : nowS T s = ⟨kd, ln, cl, nm, tx⟩) (hc : s.c = 0) (hk : kd = 3)  : Calls Tryz.prog 70 #[pV tb to n tc s] w (RetP w tb to n tc (ndS 21 ⟨kd, ln, cl, nm, tx⟩ [] nm [], oneS T s)) := by
 obtain ⟨I, d, c, l, k⟩ := s
 have hn1 := h.ln
 have hn2 := h.en.tn
 have hI0 : I < n := h.lt
 have HV := Lib.hid h
 have HN := Lib.hid (fun w' (hb : Below w.heap.size w w') => now_p (tc := tc) (s := ⟨I, d, c, l, k⟩) (HV.out.carry hb) ht)
 obtain ⟨X, hX0⟩ : ∃ X, bs tx = X := ⟨_, rfl⟩
 rw [hX0] at HN
 replace hX0 := Lib.hid hX0
 clear h
 have HB := Lib.hid (fun w' (hb : Below w.heap.size w w') => bad_p (w := w') (tb := tb) (to := to) (n := n) (tc := tc) (s := ⟨I, d, c, l, k⟩) false (by simpa using hc))
 replace hc := Lib.hid hc
 obtain ⟨J, hJ⟩ : ∃ J, min (I + 1) (T.length - 1) = J := ⟨_, rfl⟩
 have hone' : oneS T ⟨I, d, c, l, k⟩ = ⟨J, d, c, l, k⟩ := by unfold oneS; rw [hJ]
 have hone := Lib.hid hone'
 have hJn : J < n := by omega
 have hJz : min ((I : Int) + 1) ((n : Int) - 1) = (J : Int) := by omega
 clear hJ
 have hk3 : ((kd : Int) == 3) = true := by rw [hk]; rfl
 clear hk
 clear hone'
 clear ht
 go_enter Tryz.func70, Tryz.ntmps70
 go_wp2_with fail
 refine (HN.out _ (two_made w (.slice (some ⟨tb, to, none⟩) n tc) I d c l k).2.2).mono ?_
 rintro e w1 ⟨rfl, hb⟩
 have hbb : Below w.heap.size w w1 := below_step (two_made w (.slice (some ⟨tb, to, none⟩) n tc) I d c l k).2.2 hb
 have hP := (two_made w (.slice (some ⟨tb, to, none⟩) n tc) I d c l k).1.carry hb
 have hR := (two_made w (.slice (some ⟨tb, to, none⟩) n tc) I d c l k).2.1.carry hb
 clear hb
 have lhP := hP.lt
 have lhR := hR.lt
 obtain ⟨hPc0, hPc1, hPc2, hPc3, hPc4, hPc5, hPf⟩ := id hP
 obtain ⟨hRc0, hRc1, hRc2, hRc3, hRc4, hRc5, hRf⟩ := id hR
 go_wp2_with fail
 refine (HB.out _ (below_step (below_step hbb (below_alloc _ (.cells #[.int .u8 kd, .int .i64 ln, .int .i64 cl, .int .i64 nm, .string X] 38))) (below_alloc _ (.cells #[] 32)))).mono ?_
 rintro e w2 ⟨rfl, hb⟩
 clear hPc0 hPc1 hPc2 hPc3 hPc4 hPc5 hPf hRc0 hRc1 hRc2 hRc3 hRc4 hRc5 hRf
 have hb2 := below_from hbb (by go_grown) hb
 have hT := ((Tx.made w1 kd ln cl nm X).carry (below_alloc _ (.cells #[] 32))).carry hb
 have HE : Hid (Lies (ndFlat []) (w1.heap.size + 1) w2) := Lib.hid (lies_nil (by have := hb.size; simp only [World.size_alloc] at this; omega))
 have hz2 := hb.size
 simp only [World.size_alloc] at hz2
 replace hP := hP.carry hb2
 replace hR := hR.carry hb2
 replace hbb := below_step hbb hb2
 clear hb hb2
 have lhP := hP.lt
 have lhR := hR.lt
 have lhT := hT.lt
 obtain ⟨hPc0, hPc1, hPc2, hPc3, hPc4, hPc5, hPf⟩ := id hP
 obtain ⟨hRc0, hRc1, hRc2, hRc3, hRc4, hRc5, hRf⟩ := id hR
 obtain ⟨hTc0, hTc1, hTc2, hTc3, hTc4, hTf⟩ := id hT
 go_wp2_with fail
 clear hPc0 hPc1 hPc2 hPc3 hPc4 hPc5 hPf hRc0 hRc1 hRc2 hRc3 hRc4 hRc5 hRf hTc0 hTc1 hTc2 hTc3 hTc4 hTf
 obtain ⟨W, hW⟩ : ∃ W, W = (w2.alloc (.cells #[(.slice (some ⟨tb, to, none⟩) n tc), .int .i64 J, .int .i64 d, .int .i64 c, .int .i64 l, .int .i64 k] 43)) := ⟨_, rfl⟩
 rw [← hW]
 have hbW : Below w2.heap.size w2 W := by rw [hW]; go_grown
 replace hbb := below_step hbb hbW
 replace hP := hP.carry hbW
 replace hR := hR.carry hbW
 replace hT := hT.carry hbW
 replace HE := Lib.hid (HE.out.carry hbW)
 have hQ : Bx W w2.heap.size (.slice (some ⟨tb, to, none⟩) n tc) J d c l k := by rw [hW]; exact (Bx.made w2 (.slice (some ⟨tb, to, none⟩) n tc) J d c l k)
 clear hbW
 have hzW : W.heap.size = w2.heap.size + 1 := by rw [hW]; simp
 clear hW
 have lhP := hP.lt
 have lhR := hR.lt
 have lhT := hT.lt
 have lhQ := hQ.lt
 obtain ⟨hPc0, hPc1, hPc2, hPc3, hPc4, hPc5, hPf⟩ := id hP
 obtain ⟨hRc0, hRc1, hRc2, hRc3, hRc4, hRc5, hRf⟩ := id hR
 obtain ⟨hTc0, hTc1, hTc2, hTc3, hTc4, hTf⟩ := id hT
 obtain ⟨hQc0, hQc1, hQc2, hQc3, hQc4, hQc5, hQf⟩ := id hQ
 go_region_held3 (fun w' => w'.cell? ⟨w1.heap.size, 0, none⟩ = some (.int .u8 kd) ∧ w'.cell? ⟨w1.heap.size, 1, none⟩ = some (.int .i64 ln) ∧ w'.cell? ⟨w1.heap.size, 2, none⟩ = some (.int .i64 cl) ∧ w'.cell? ⟨w1.heap.size, 3, none⟩ = some (.int .i64 nm) ∧ w'.cell? ⟨w1.heap.size, 4, none⟩ = some (.string X) ∧ w'.cell? ⟨w2.heap.size, 0, none⟩ = some (.slice (some ⟨tb, to, none⟩) n tc) ∧ w'.cell? ⟨w2.heap.size, 1, none⟩ = some (.int .i64 J) ∧ w'.cell? ⟨w2.heap.size, 2, none⟩ = some (.int .i64 d) ∧ w'.cell? ⟨w2.heap.size, 3, none⟩ = some (.int .i64 c) ∧ w'.cell? ⟨w2.heap.size, 4, none⟩ = some (.int .i64 l) ∧ w'.cell? ⟨w2.heap.size, 5, none⟩ = some (.int .i64 k)) (first | (rw [put_eq]; refine put_gen (G := fun w' => w'.cell? ⟨w1.heap.size, 0, none⟩ = some (.int .u8 kd) ∧ w'.cell? ⟨w1.heap.size, 1, none⟩ = some (.int .i64 ln) ∧ w'.cell? ⟨w1.heap.size, 2, none⟩ = some (.int .i64 cl) ∧ w'.cell? ⟨w1.heap.size, 3, none⟩ = some (.int .i64 nm) ∧ w'.cell? ⟨w1.heap.size, 4, none⟩ = some (.string X) ∧ w'.cell? ⟨w2.heap.size, 0, none⟩ = some (.slice (some ⟨tb, to, none⟩) n tc) ∧ w'.cell? ⟨w2.heap.size, 1, none⟩ = some (.int .i64 J) ∧ w'.cell? ⟨w2.heap.size, 2, none⟩ = some (.int .i64 d) ∧ w'.cell? ⟨w2.heap.size, 3, none⟩ = some (.int .i64 c) ∧ w'.cell? ⟨w2.heap.size, 4, none⟩ = some (.int .i64 l) ∧ w'.cell? ⟨w2.heap.size, 5, none⟩ = some (.int .i64 k)) hR ?_; intro V _ hO; exact ⟨(hO.cell (by omega)).trans hT.c0, (hO.cell (by omega)).trans hT.c1, (hO.cell (by omega)).trans hT.c2, (hO.cell (by omega)).trans hT.c3, (hO.cell (by omega)).trans hT.c4, (hO.cell (by omega)).trans hQ.c0, (hO.cell (by omega)).trans hQ.c1, (hO.cell (by omega)).trans hQ.c2, (hO.cell (by omega)).trans hQ.c3, (hO.cell (by omega)).trans hQ.c4, (hO.cell (by omega)).trans hQ.c5⟩) | go_keep) (first | (go_at_call 31; refine (node_q (l := []) (n := 0) rfl (Lib.hid (HE.out.carry (by go_grown))) (by omega)).mono ?_; rintro e w90 ⟨g9, cap9, rfl, HY, lo, hb⟩; have hzz := hb.size; (try simp only [World.size_drew] at hzz); (try simp only [World.size_alloc] at hzz); (try simp only [World.size_drew] at hzz); (try simp only [World.size_alloc] at hzz); have hlR := hR.lt; replace HY := Lib.hid HY; have loHY : w.heap.size + 1 + 1 ≤ g9 := Nat.le_trans (by (try simp only [World.size_drew]); (try simp only [World.size_alloc]); (try simp only [World.size_drew]); (try simp only [World.size_alloc]); omega) lo; clear lo; have hb9 := below_from hbb (by go_grown) hb; replace hP := hP.carry hb9; replace hR := hR.carry hb9; replace hT := hT.carry hb9; replace hQ := hQ.carry hb9; (try replace HE := Lib.hid (HE.out.carry hb9)); replace hbb := below_step hbb hb9; clear hb hb9 hlR; (try clear hPc0); (try clear hPc1); (try clear hPc2); (try clear hPc3); (try clear hPc4); (try clear hPc5); (try clear hPf); (try clear hRc0); (try clear hRc1); (try clear hRc2); (try clear hRc3); (try clear hRc4); (try clear hRc5); (try clear hRf); (try clear hTc0); (try clear hTc1); (try clear hTc2); (try clear hTc3); (try clear hTc4); (try clear hTf); (try clear hQc0); (try clear hQc1); (try clear hQc2); (try clear hQc3); (try clear hQc4); (try clear hQc5); (try clear hQf); obtain ⟨hPc0, hPc1, hPc2, hPc3, hPc4, hPc5, hPf⟩ := id hP; obtain ⟨hRc0, hRc1, hRc2, hRc3, hRc4, hRc5, hRf⟩ := id hR; obtain ⟨hTc0, hTc1, hTc2, hTc3, hTc4, hTf⟩ := id hT; obtain ⟨hQc0, hQc1, hQc2, hQc3, hQc4, hQc5, hQf⟩ := id hQ))
 all_goals (obtain ⟨V, hV, nR, hO⟩ := put_ex hR (.slice (some ⟨tb, to, none⟩) n tc) J d c l k; (first | (rw [put_eq, hV.out]) | (go_wp2_with (first | (rw [put_eq, hV.out])))); replace hbb := hO.below hbb (by omega); replace HY := Lib.hid (HY.out.oth hO (by omega)); clear hO; (try clear hRc0 hRc1 hRc2 hRc3 hRc4 hRc5 hRf); obtain ⟨hRc0, hRc1, hRc2, hRc3, hRc4, hRc5, hRf⟩ := id nR; go_wp2_with fail; refine bodyPost_ret (v := .tuple #[.slice (some ⟨g9, 0, none⟩) (0 + 1) cap9, pQ tb to n tc J d c l k]) (by simp [results, Tryz.results70, go_sem, hRc0, hRc1, hRc2, hRc3, hRc4, hRc5]) rfl ⟨g9, cap9, by rw [hone.out]; rfl, HY.out, by omega, (by first | exact hbb | exact below_step hbb (by go_grown))⟩)

set_option maxRecDepth 100000 in
set_option maxHeartbeats 4000000 in
theorem atom_ref {w : World} {tb to n tc : Nat} {T : List Tok} {s : S} (h : Ev w tb to n T s.I) {kd ln cl : Nat} {nm : Int} {tx : List UInt8} (ht : nowS T s = ⟨kd, ln, cl, nm, tx⟩) (hc : s.c = 0) (hk : kd = 4)  : Calls Tryz.prog 70 #[pV tb to n tc s] w (RetP w tb to n tc (ndS 22 ⟨kd, ln, cl, nm, tx⟩ [] nm [], oneS T s)) := by
 obtain ⟨I, d, c, l, k⟩ := s
 have hn1 := h.ln
 have hn2 := h.en.tn
 have hI0 : I < n := h.lt
 have HV := Lib.hid h
 have HN := Lib.hid (fun w' (hb : Below w.heap.size w w') => now_p (tc := tc) (s := ⟨I, d, c, l, k⟩) (HV.out.carry hb) ht)
 obtain ⟨X, hX0⟩ : ∃ X, bs tx = X := ⟨_, rfl⟩
 rw [hX0] at HN
 replace hX0 := Lib.hid hX0
 clear h
 have HB := Lib.hid (fun w' (hb : Below w.heap.size w w') => bad_p (w := w') (tb := tb) (to := to) (n := n) (tc := tc) (s := ⟨I, d, c, l, k⟩) false (by simpa using hc))
 replace hc := Lib.hid hc
 obtain ⟨J, hJ⟩ : ∃ J, min (I + 1) (T.length - 1) = J := ⟨_, rfl⟩
 have hone' : oneS T ⟨I, d, c, l, k⟩ = ⟨J, d, c, l, k⟩ := by unfold oneS; rw [hJ]
 have hone := Lib.hid hone'
 have hJn : J < n := by omega
 have hJz : min ((I : Int) + 1) ((n : Int) - 1) = (J : Int) := by omega
 clear hJ
 have hk3 : ((kd : Int) == 3) = false := by rw [beq_eq_false_iff_ne]; omega
 have hk4 : ((kd : Int) == 4) = true := by rw [hk]; rfl
 clear hk
 clear hone'
 clear ht
 go_enter Tryz.func70, Tryz.ntmps70
 go_wp2_with fail
 refine (HN.out _ (two_made w (.slice (some ⟨tb, to, none⟩) n tc) I d c l k).2.2).mono ?_
 rintro e w1 ⟨rfl, hb⟩
 have hbb : Below w.heap.size w w1 := below_step (two_made w (.slice (some ⟨tb, to, none⟩) n tc) I d c l k).2.2 hb
 have hP := (two_made w (.slice (some ⟨tb, to, none⟩) n tc) I d c l k).1.carry hb
 have hR := (two_made w (.slice (some ⟨tb, to, none⟩) n tc) I d c l k).2.1.carry hb
 clear hb
 have lhP := hP.lt
 have lhR := hR.lt
 obtain ⟨hPc0, hPc1, hPc2, hPc3, hPc4, hPc5, hPf⟩ := id hP
 obtain ⟨hRc0, hRc1, hRc2, hRc3, hRc4, hRc5, hRf⟩ := id hR
 go_wp2_with fail
 refine (HB.out _ (below_step (below_step hbb (below_alloc _ (.cells #[.int .u8 kd, .int .i64 ln, .int .i64 cl, .int .i64 nm, .string X] 38))) (below_alloc _ (.cells #[] 32)))).mono ?_
 rintro e w2 ⟨rfl, hb⟩
 clear hPc0 hPc1 hPc2 hPc3 hPc4 hPc5 hPf hRc0 hRc1 hRc2 hRc3 hRc4 hRc5 hRf
 have hb2 := below_from hbb (by go_grown) hb
 have hT := ((Tx.made w1 kd ln cl nm X).carry (below_alloc _ (.cells #[] 32))).carry hb
 have HE : Hid (Lies (ndFlat []) (w1.heap.size + 1) w2) := Lib.hid (lies_nil (by have := hb.size; simp only [World.size_alloc] at this; omega))
 have hz2 := hb.size
 simp only [World.size_alloc] at hz2
 replace hP := hP.carry hb2
 replace hR := hR.carry hb2
 replace hbb := below_step hbb hb2
 clear hb hb2
 have lhP := hP.lt
 have lhR := hR.lt
 have lhT := hT.lt
 obtain ⟨hPc0, hPc1, hPc2, hPc3, hPc4, hPc5, hPf⟩ := id hP
 obtain ⟨hRc0, hRc1, hRc2, hRc3, hRc4, hRc5, hRf⟩ := id hR
 obtain ⟨hTc0, hTc1, hTc2, hTc3, hTc4, hTf⟩ := id hT
 go_wp2_with fail
 clear hPc0 hPc1 hPc2 hPc3 hPc4 hPc5 hPf hRc0 hRc1 hRc2 hRc3 hRc4 hRc5 hRf hTc0 hTc1 hTc2 hTc3 hTc4 hTf
 obtain ⟨W, hW⟩ : ∃ W, W = (w2.alloc (.cells #[(.slice (some ⟨tb, to, none⟩) n tc), .int .i64 J, .int .i64 d, .int .i64 c, .int .i64 l, .int .i64 k] 43)) := ⟨_, rfl⟩
 rw [← hW]
 have hbW : Below w2.heap.size w2 W := by rw [hW]; go_grown
 replace hbb := below_step hbb hbW
 replace hP := hP.carry hbW
 replace hR := hR.carry hbW
 replace hT := hT.carry hbW
 replace HE := Lib.hid (HE.out.carry hbW)
 have hQ : Bx W w2.heap.size (.slice (some ⟨tb, to, none⟩) n tc) J d c l k := by rw [hW]; exact (Bx.made w2 (.slice (some ⟨tb, to, none⟩) n tc) J d c l k)
 clear hbW
 have hzW : W.heap.size = w2.heap.size + 1 := by rw [hW]; simp
 clear hW
 have lhP := hP.lt
 have lhR := hR.lt
 have lhT := hT.lt
 have lhQ := hQ.lt
 obtain ⟨hPc0, hPc1, hPc2, hPc3, hPc4, hPc5, hPf⟩ := id hP
 obtain ⟨hRc0, hRc1, hRc2, hRc3, hRc4, hRc5, hRf⟩ := id hR
 obtain ⟨hTc0, hTc1, hTc2, hTc3, hTc4, hTf⟩ := id hT
 obtain ⟨hQc0, hQc1, hQc2, hQc3, hQc4, hQc5, hQf⟩ := id hQ
 go_region_held3 (fun w' => w'.cell? ⟨w1.heap.size, 0, none⟩ = some (.int .u8 kd) ∧ w'.cell? ⟨w1.heap.size, 1, none⟩ = some (.int .i64 ln) ∧ w'.cell? ⟨w1.heap.size, 2, none⟩ = some (.int .i64 cl) ∧ w'.cell? ⟨w1.heap.size, 3, none⟩ = some (.int .i64 nm) ∧ w'.cell? ⟨w1.heap.size, 4, none⟩ = some (.string X) ∧ w'.cell? ⟨w2.heap.size, 0, none⟩ = some (.slice (some ⟨tb, to, none⟩) n tc) ∧ w'.cell? ⟨w2.heap.size, 1, none⟩ = some (.int .i64 J) ∧ w'.cell? ⟨w2.heap.size, 2, none⟩ = some (.int .i64 d) ∧ w'.cell? ⟨w2.heap.size, 3, none⟩ = some (.int .i64 c) ∧ w'.cell? ⟨w2.heap.size, 4, none⟩ = some (.int .i64 l) ∧ w'.cell? ⟨w2.heap.size, 5, none⟩ = some (.int .i64 k)) (first | (rw [put_eq]; refine put_gen (G := fun w' => w'.cell? ⟨w1.heap.size, 0, none⟩ = some (.int .u8 kd) ∧ w'.cell? ⟨w1.heap.size, 1, none⟩ = some (.int .i64 ln) ∧ w'.cell? ⟨w1.heap.size, 2, none⟩ = some (.int .i64 cl) ∧ w'.cell? ⟨w1.heap.size, 3, none⟩ = some (.int .i64 nm) ∧ w'.cell? ⟨w1.heap.size, 4, none⟩ = some (.string X) ∧ w'.cell? ⟨w2.heap.size, 0, none⟩ = some (.slice (some ⟨tb, to, none⟩) n tc) ∧ w'.cell? ⟨w2.heap.size, 1, none⟩ = some (.int .i64 J) ∧ w'.cell? ⟨w2.heap.size, 2, none⟩ = some (.int .i64 d) ∧ w'.cell? ⟨w2.heap.size, 3, none⟩ = some (.int .i64 c) ∧ w'.cell? ⟨w2.heap.size, 4, none⟩ = some (.int .i64 l) ∧ w'.cell? ⟨w2.heap.size, 5, none⟩ = some (.int .i64 k)) hR ?_; intro V _ hO; exact ⟨(hO.cell (by omega)).trans hT.c0, (hO.cell (by omega)).trans hT.c1, (hO.cell (by omega)).trans hT.c2, (hO.cell (by omega)).trans hT.c3, (hO.cell (by omega)).trans hT.c4, (hO.cell (by omega)).trans hQ.c0, (hO.cell (by omega)).trans hQ.c1, (hO.cell (by omega)).trans hQ.c2, (hO.cell (by omega)).trans hQ.c3, (hO.cell (by omega)).trans hQ.c4, (hO.cell (by omega)).trans hQ.c5⟩) | go_keep) (first | (go_at_call 31; refine (node_q (l := []) (n := 0) rfl (Lib.hid (HE.out.carry (by go_grown))) (by omega)).mono ?_; rintro e w90 ⟨g9, cap9, rfl, HY, lo, hb⟩; have hzz := hb.size; (try simp only [World.size_drew] at hzz); (try simp only [World.size_alloc] at hzz); (try simp only [World.size_drew] at hzz); (try simp only [World.size_alloc] at hzz); have hlR := hR.lt; replace HY := Lib.hid HY; have loHY : w.heap.size + 1 + 1 ≤ g9 := Nat.le_trans (by (try simp only [World.size_drew]); (try simp only [World.size_alloc]); (try simp only [World.size_drew]); (try simp only [World.size_alloc]); omega) lo; clear lo; have hb9 := below_from hbb (by go_grown) hb; replace hP := hP.carry hb9; replace hR := hR.carry hb9; replace hT := hT.carry hb9; replace hQ := hQ.carry hb9; (try replace HE := Lib.hid (HE.out.carry hb9)); replace hbb := below_step hbb hb9; clear hb hb9 hlR; (try clear hPc0); (try clear hPc1); (try clear hPc2); (try clear hPc3); (try clear hPc4); (try clear hPc5); (try clear hPf); (try clear hRc0); (try clear hRc1); (try clear hRc2); (try clear hRc3); (try clear hRc4); (try clear hRc5); (try clear hRf); (try clear hTc0); (try clear hTc1); (try clear hTc2); (try clear hTc3); (try clear hTc4); (try clear hTf); (try clear hQc0); (try clear hQc1); (try clear hQc2); (try clear hQc3); (try clear hQc4); (try clear hQc5); (try clear hQf); obtain ⟨hPc0, hPc1, hPc2, hPc3, hPc4, hPc5, hPf⟩ := id hP; obtain ⟨hRc0, hRc1, hRc2, hRc3, hRc4, hRc5, hRf⟩ := id hR; obtain ⟨hTc0, hTc1, hTc2, hTc3, hTc4, hTf⟩ := id hT; obtain ⟨hQc0, hQc1, hQc2, hQc3, hQc4, hQc5, hQf⟩ := id hQ))
 all_goals (obtain ⟨V, hV, nR, hO⟩ := put_ex hR (.slice (some ⟨tb, to, none⟩) n tc) J d c l k; (first | (rw [put_eq, hV.out]) | (go_wp2_with (first | (rw [put_eq, hV.out])))); replace hbb := hO.below hbb (by omega); replace HY := Lib.hid (HY.out.oth hO (by omega)); clear hO; (try clear hRc0 hRc1 hRc2 hRc3 hRc4 hRc5 hRf); obtain ⟨hRc0, hRc1, hRc2, hRc3, hRc4, hRc5, hRf⟩ := id nR; go_wp2_with fail; refine bodyPost_ret (v := .tuple #[.slice (some ⟨g9, 0, none⟩) (0 + 1) cap9, pQ tb to n tc J d c l k]) (by simp [results, Tryz.results70, go_sem, hRc0, hRc1, hRc2, hRc3, hRc4, hRc5]) rfl ⟨g9, cap9, by rw [hone.out]; rfl, HY.out, by omega, (by first | exact hbb | exact below_step hbb (by go_grown))⟩)

set_option maxRecDepth 100000 in
set_option maxHeartbeats 4000000 in
theorem atom_str {w : World} {tb to n tc : Nat} {T : List Tok} {s : S} (h : Ev w tb to n T s.I) {kd ln cl : Nat} {nm : Int} {tx : List UInt8} (ht : nowS T s = ⟨kd, ln, cl, nm, tx⟩) (hc : s.c = 0) (hk : kd = 5)  : Calls Tryz.prog 70 #[pV tb to n tc s] w (RetP w tb to n tc (ndS 23 ⟨kd, ln, cl, nm, tx⟩ tx 0 [], oneS T s)) := by
 obtain ⟨I, d, c, l, k⟩ := s
 have hn1 := h.ln
 have hn2 := h.en.tn
 have hI0 : I < n := h.lt
 have HV := Lib.hid h
 have HN := Lib.hid (fun w' (hb : Below w.heap.size w w') => now_p (tc := tc) (s := ⟨I, d, c, l, k⟩) (HV.out.carry hb) ht)
 obtain ⟨X, hX0⟩ : ∃ X, bs tx = X := ⟨_, rfl⟩
 rw [hX0] at HN
 replace hX0 := Lib.hid hX0
 clear h
 have HB := Lib.hid (fun w' (hb : Below w.heap.size w w') => bad_p (w := w') (tb := tb) (to := to) (n := n) (tc := tc) (s := ⟨I, d, c, l, k⟩) false (by simpa using hc))
 replace hc := Lib.hid hc
 obtain ⟨J, hJ⟩ : ∃ J, min (I + 1) (T.length - 1) = J := ⟨_, rfl⟩
 have hone' : oneS T ⟨I, d, c, l, k⟩ = ⟨J, d, c, l, k⟩ := by unfold oneS; rw [hJ]
 have hone := Lib.hid hone'
 have hJn : J < n := by omega
 have hJz : min ((I : Int) + 1) ((n : Int) - 1) = (J : Int) := by omega
 clear hJ
 have hk3 : ((kd : Int) == 3) = false := by rw [beq_eq_false_iff_ne]; omega
 have hk4 : ((kd : Int) == 4) = false := by rw [beq_eq_false_iff_ne]; omega
 have hk5 : ((kd : Int) == 5) = true := by rw [hk]; rfl
 clear hk
 clear hone'
 clear ht
 go_enter Tryz.func70, Tryz.ntmps70
 go_wp2_with fail
 refine (HN.out _ (two_made w (.slice (some ⟨tb, to, none⟩) n tc) I d c l k).2.2).mono ?_
 rintro e w1 ⟨rfl, hb⟩
 have hbb : Below w.heap.size w w1 := below_step (two_made w (.slice (some ⟨tb, to, none⟩) n tc) I d c l k).2.2 hb
 have hP := (two_made w (.slice (some ⟨tb, to, none⟩) n tc) I d c l k).1.carry hb
 have hR := (two_made w (.slice (some ⟨tb, to, none⟩) n tc) I d c l k).2.1.carry hb
 clear hb
 have lhP := hP.lt
 have lhR := hR.lt
 obtain ⟨hPc0, hPc1, hPc2, hPc3, hPc4, hPc5, hPf⟩ := id hP
 obtain ⟨hRc0, hRc1, hRc2, hRc3, hRc4, hRc5, hRf⟩ := id hR
 go_wp2_with fail
 refine (HB.out _ (below_step (below_step hbb (below_alloc _ (.cells #[.int .u8 kd, .int .i64 ln, .int .i64 cl, .int .i64 nm, .string X] 38))) (below_alloc _ (.cells #[] 32)))).mono ?_
 rintro e w2 ⟨rfl, hb⟩
 clear hPc0 hPc1 hPc2 hPc3 hPc4 hPc5 hPf hRc0 hRc1 hRc2 hRc3 hRc4 hRc5 hRf
 have hb2 := below_from hbb (by go_grown) hb
 have hT := ((Tx.made w1 kd ln cl nm X).carry (below_alloc _ (.cells #[] 32))).carry hb
 have HE : Hid (Lies (ndFlat []) (w1.heap.size + 1) w2) := Lib.hid (lies_nil (by have := hb.size; simp only [World.size_alloc] at this; omega))
 have hz2 := hb.size
 simp only [World.size_alloc] at hz2
 replace hP := hP.carry hb2
 replace hR := hR.carry hb2
 replace hbb := below_step hbb hb2
 clear hb hb2
 have lhP := hP.lt
 have lhR := hR.lt
 have lhT := hT.lt
 obtain ⟨hPc0, hPc1, hPc2, hPc3, hPc4, hPc5, hPf⟩ := id hP
 obtain ⟨hRc0, hRc1, hRc2, hRc3, hRc4, hRc5, hRf⟩ := id hR
 obtain ⟨hTc0, hTc1, hTc2, hTc3, hTc4, hTf⟩ := id hT
 go_wp2_with fail
 clear hPc0 hPc1 hPc2 hPc3 hPc4 hPc5 hPf hRc0 hRc1 hRc2 hRc3 hRc4 hRc5 hRf hTc0 hTc1 hTc2 hTc3 hTc4 hTf
 obtain ⟨W, hW⟩ : ∃ W, W = (w2.alloc (.cells #[(.slice (some ⟨tb, to, none⟩) n tc), .int .i64 J, .int .i64 d, .int .i64 c, .int .i64 l, .int .i64 k] 43)) := ⟨_, rfl⟩
 rw [← hW]
 have hbW : Below w2.heap.size w2 W := by rw [hW]; go_grown
 replace hbb := below_step hbb hbW
 replace hP := hP.carry hbW
 replace hR := hR.carry hbW
 replace hT := hT.carry hbW
 replace HE := Lib.hid (HE.out.carry hbW)
 have hQ : Bx W w2.heap.size (.slice (some ⟨tb, to, none⟩) n tc) J d c l k := by rw [hW]; exact (Bx.made w2 (.slice (some ⟨tb, to, none⟩) n tc) J d c l k)
 clear hbW
 have hzW : W.heap.size = w2.heap.size + 1 := by rw [hW]; simp
 clear hW
 have lhP := hP.lt
 have lhR := hR.lt
 have lhT := hT.lt
 have lhQ := hQ.lt
 obtain ⟨hPc0, hPc1, hPc2, hPc3, hPc4, hPc5, hPf⟩ := id hP
 obtain ⟨hRc0, hRc1, hRc2, hRc3, hRc4, hRc5, hRf⟩ := id hR
 obtain ⟨hTc0, hTc1, hTc2, hTc3, hTc4, hTf⟩ := id hT
 obtain ⟨hQc0, hQc1, hQc2, hQc3, hQc4, hQc5, hQf⟩ := id hQ
 go_region_held3 (fun w' => w'.cell? ⟨w1.heap.size, 0, none⟩ = some (.int .u8 kd) ∧ w'.cell? ⟨w1.heap.size, 1, none⟩ = some (.int .i64 ln) ∧ w'.cell? ⟨w1.heap.size, 2, none⟩ = some (.int .i64 cl) ∧ w'.cell? ⟨w1.heap.size, 3, none⟩ = some (.int .i64 nm) ∧ w'.cell? ⟨w1.heap.size, 4, none⟩ = some (.string X) ∧ w'.cell? ⟨w2.heap.size, 0, none⟩ = some (.slice (some ⟨tb, to, none⟩) n tc) ∧ w'.cell? ⟨w2.heap.size, 1, none⟩ = some (.int .i64 J) ∧ w'.cell? ⟨w2.heap.size, 2, none⟩ = some (.int .i64 d) ∧ w'.cell? ⟨w2.heap.size, 3, none⟩ = some (.int .i64 c) ∧ w'.cell? ⟨w2.heap.size, 4, none⟩ = some (.int .i64 l) ∧ w'.cell? ⟨w2.heap.size, 5, none⟩ = some (.int .i64 k)) (first | (rw [put_eq]; refine put_gen (G := fun w' => w'.cell? ⟨w1.heap.size, 0, none⟩ = some (.int .u8 kd) ∧ w'.cell? ⟨w1.heap.size, 1, none⟩ = some (.int .i64 ln) ∧ w'.cell? ⟨w1.heap.size, 2, none⟩ = some (.int .i64 cl) ∧ w'.cell? ⟨w1.heap.size, 3, none⟩ = some (.int .i64 nm) ∧ w'.cell? ⟨w1.heap.size, 4, none⟩ = some (.string X) ∧ w'.cell? ⟨w2.heap.size, 0, none⟩ = some (.slice (some ⟨tb, to, none⟩) n tc) ∧ w'.cell? ⟨w2.heap.size, 1, none⟩ = some (.int .i64 J) ∧ w'.cell? ⟨w2.heap.size, 2, none⟩ = some (.int .i64 d) ∧ w'.cell? ⟨w2.heap.size, 3, none⟩ = some (.int .i64 c) ∧ w'.cell? ⟨w2.heap.size, 4, none⟩ = some (.int .i64 l) ∧ w'.cell? ⟨w2.heap.size, 5, none⟩ = some (.int .i64 k)) hR ?_; intro V _ hO; exact ⟨(hO.cell (by omega)).trans hT.c0, (hO.cell (by omega)).trans hT.c1, (hO.cell (by omega)).trans hT.c2, (hO.cell (by omega)).trans hT.c3, (hO.cell (by omega)).trans hT.c4, (hO.cell (by omega)).trans hQ.c0, (hO.cell (by omega)).trans hQ.c1, (hO.cell (by omega)).trans hQ.c2, (hO.cell (by omega)).trans hQ.c3, (hO.cell (by omega)).trans hQ.c4, (hO.cell (by omega)).trans hQ.c5⟩) | go_keep) (first | (go_at_call 31; refine (node_q (l := []) (n := 0) rfl (Lib.hid (HE.out.carry (by go_grown))) (by omega)).mono ?_; rintro e w90 ⟨g9, cap9, rfl, HY, lo, hb⟩; have hzz := hb.size; (try simp only [World.size_drew] at hzz); (try simp only [World.size_alloc] at hzz); (try simp only [World.size_drew] at hzz); (try simp only [World.size_alloc] at hzz); have hlR := hR.lt; replace HY := Lib.hid HY; have loHY : w.heap.size + 1 + 1 ≤ g9 := Nat.le_trans (by (try simp only [World.size_drew]); (try simp only [World.size_alloc]); (try simp only [World.size_drew]); (try simp only [World.size_alloc]); omega) lo; clear lo; have hb9 := below_from hbb (by go_grown) hb; replace hP := hP.carry hb9; replace hR := hR.carry hb9; replace hT := hT.carry hb9; replace hQ := hQ.carry hb9; (try replace HE := Lib.hid (HE.out.carry hb9)); replace hbb := below_step hbb hb9; clear hb hb9 hlR; (try clear hPc0); (try clear hPc1); (try clear hPc2); (try clear hPc3); (try clear hPc4); (try clear hPc5); (try clear hPf); (try clear hRc0); (try clear hRc1); (try clear hRc2); (try clear hRc3); (try clear hRc4); (try clear hRc5); (try clear hRf); (try clear hTc0); (try clear hTc1); (try clear hTc2); (try clear hTc3); (try clear hTc4); (try clear hTf); (try clear hQc0); (try clear hQc1); (try clear hQc2); (try clear hQc3); (try clear hQc4); (try clear hQc5); (try clear hQf); obtain ⟨hPc0, hPc1, hPc2, hPc3, hPc4, hPc5, hPf⟩ := id hP; obtain ⟨hRc0, hRc1, hRc2, hRc3, hRc4, hRc5, hRf⟩ := id hR; obtain ⟨hTc0, hTc1, hTc2, hTc3, hTc4, hTf⟩ := id hT; obtain ⟨hQc0, hQc1, hQc2, hQc3, hQc4, hQc5, hQf⟩ := id hQ))
 all_goals (replace HY := Lib.hid (by have := HY.out; rw [← hX0.out] at this; exact this : Lies (ndFlat (ndS 23 ⟨kd, ln, cl, nm, tx⟩ tx 0 [])) g9 _))
 all_goals (obtain ⟨V, hV, nR, hO⟩ := put_ex hR (.slice (some ⟨tb, to, none⟩) n tc) J d c l k; (first | (rw [put_eq, hV.out]) | (go_wp2_with (first | (rw [put_eq, hV.out])))); replace hbb := hO.below hbb (by omega); replace HY := Lib.hid (HY.out.oth hO (by omega)); clear hO; (try clear hRc0 hRc1 hRc2 hRc3 hRc4 hRc5 hRf); obtain ⟨hRc0, hRc1, hRc2, hRc3, hRc4, hRc5, hRf⟩ := id nR; go_wp2_with fail; refine bodyPost_ret (v := .tuple #[.slice (some ⟨g9, 0, none⟩) (0 + 1) cap9, pQ tb to n tc J d c l k]) (by simp [results, Tryz.results70, go_sem, hRc0, hRc1, hRc2, hRc3, hRc4, hRc5]) rfl ⟨g9, cap9, by rw [hone.out]; rfl, HY.out, by omega, (by first | exact hbb | exact below_step hbb (by go_grown))⟩)

set_option maxRecDepth 100000 in
set_option maxHeartbeats 4000000 in
theorem atom_true {w : World} {tb to n tc : Nat} {T : List Tok} {s : S} (h : Ev w tb to n T s.I) {kd ln cl : Nat} {nm : Int} {tx : List UInt8} (ht : nowS T s = ⟨kd, ln, cl, nm, tx⟩) (hc : s.c = 0) (hk : kd ≠ 3 ∧ kd ≠ 4 ∧ kd ≠ 5) (a1 : isS T s [116, 114, 117, 101] = true) : Calls Tryz.prog 70 #[pV tb to n tc s] w (RetP w tb to n tc (ndS 24 ⟨kd, ln, cl, nm, tx⟩ [] 1 [], oneS T s)) := by
 obtain ⟨I, d, c, l, k⟩ := s
 have hn1 := h.ln
 have hn2 := h.en.tn
 have hI0 : I < n := h.lt
 have HV := Lib.hid h
 have HN := Lib.hid (fun w' (hb : Below w.heap.size w w') => now_p (tc := tc) (s := ⟨I, d, c, l, k⟩) (HV.out.carry hb) ht)
 obtain ⟨X, hX0⟩ : ∃ X, bs tx = X := ⟨_, rfl⟩
 rw [hX0] at HN
 replace hX0 := Lib.hid hX0
 clear h
 have HB := Lib.hid (fun w' (hb : Below w.heap.size w w') => bad_p (w := w') (tb := tb) (to := to) (n := n) (tc := tc) (s := ⟨I, d, c, l, k⟩) false (by simpa using hc))
 replace hc := Lib.hid hc
 obtain ⟨J, hJ⟩ : ∃ J, min (I + 1) (T.length - 1) = J := ⟨_, rfl⟩
 have hone' : oneS T ⟨I, d, c, l, k⟩ = ⟨J, d, c, l, k⟩ := by unfold oneS; rw [hJ]
 have hone := Lib.hid hone'
 have hJn : J < n := by omega
 have hJz : min ((I : Int) + 1) ((n : Int) - 1) = (J : Int) := by omega
 clear hJ
 have hk3 : ((kd : Int) == 3) = false := by rw [beq_eq_false_iff_ne]; omega
 have hk4 : ((kd : Int) == 4) = false := by rw [beq_eq_false_iff_ne]; omega
 have hk5 : ((kd : Int) == 5) = false := by rw [beq_eq_false_iff_ne]; omega
 clear hk
 have Ha1 := Lib.hid (fun w' (hb : Below w.heap.size w w') => is_p (s := ⟨I, d, c, l, k⟩) (tc := tc) (HV.out.carry hb) { data := #[116, 114, 117, 101] } [116, 114, 117, 101] (by rw [ByteArray.toList_eq]) true a1)
 clear a1
 clear hone'
 clear ht
 go_enter Tryz.func70, Tryz.ntmps70
 go_wp2_with fail
 refine (HN.out _ (two_made w (.slice (some ⟨tb, to, none⟩) n tc) I d c l k).2.2).mono ?_
 rintro e w1 ⟨rfl, hb⟩
 have hbb : Below w.heap.size w w1 := below_step (two_made w (.slice (some ⟨tb, to, none⟩) n tc) I d c l k).2.2 hb
 have hP := (two_made w (.slice (some ⟨tb, to, none⟩) n tc) I d c l k).1.carry hb
 have hR := (two_made w (.slice (some ⟨tb, to, none⟩) n tc) I d c l k).2.1.carry hb
 clear hb
 have lhP := hP.lt
 have lhR := hR.lt
 obtain ⟨hPc0, hPc1, hPc2, hPc3, hPc4, hPc5, hPf⟩ := id hP
 obtain ⟨hRc0, hRc1, hRc2, hRc3, hRc4, hRc5, hRf⟩ := id hR
 go_wp2_with fail
 refine (HB.out _ (below_step (below_step hbb (below_alloc _ (.cells #[.int .u8 kd, .int .i64 ln, .int .i64 cl, .int .i64 nm, .string X] 38))) (below_alloc _ (.cells #[] 32)))).mono ?_
 rintro e w2 ⟨rfl, hb⟩
 clear hPc0 hPc1 hPc2 hPc3 hPc4 hPc5 hPf hRc0 hRc1 hRc2 hRc3 hRc4 hRc5 hRf
 have hb2 := below_from hbb (by go_grown) hb
 have hT := ((Tx.made w1 kd ln cl nm X).carry (below_alloc _ (.cells #[] 32))).carry hb
 have HE : Hid (Lies (ndFlat []) (w1.heap.size + 1) w2) := Lib.hid (lies_nil (by have := hb.size; simp only [World.size_alloc] at this; omega))
 have hz2 := hb.size
 simp only [World.size_alloc] at hz2
 replace hP := hP.carry hb2
 replace hR := hR.carry hb2
 replace hbb := below_step hbb hb2
 clear hb hb2
 have lhP := hP.lt
 have lhR := hR.lt
 have lhT := hT.lt
 obtain ⟨hPc0, hPc1, hPc2, hPc3, hPc4, hPc5, hPf⟩ := id hP
 obtain ⟨hRc0, hRc1, hRc2, hRc3, hRc4, hRc5, hRf⟩ := id hR
 obtain ⟨hTc0, hTc1, hTc2, hTc3, hTc4, hTf⟩ := id hT
 go_wp2_with fail
 refine (Ha1.out _ (below_step hbb (below_alloc _ _))).mono ?_
 rintro e w3 ⟨rfl, hb⟩
 clear hPc0 hPc1 hPc2 hPc3 hPc4 hPc5 hPf hRc0 hRc1 hRc2 hRc3 hRc4 hRc5 hRf hTc0 hTc1 hTc2 hTc3 hTc4 hTf
 replace hP := (hP.carry (below_alloc _ _)).carry hb
 replace hR := (hR.carry (below_alloc _ _)).carry hb
 replace hT := (hT.carry (below_alloc _ _)).carry hb
 replace HE := Lib.hid ((HE.out.carry (below_alloc _ _)).carry hb)
 have hQ := (Bx.made w2 (.slice (some ⟨tb, to, none⟩) n tc) J d c l k).carry hb
 replace hbb := below_step (below_step hbb (below_alloc _ _)) hb
 have hz3 := hb.size
 simp only [World.size_alloc] at hz3
 clear hb
 have lhP := hP.lt
 have lhR := hR.lt
 have lhT := hT.lt
 have lhQ := hQ.lt
 have hQz : w2.heap.size < w3.heap.size := hQ.lt
 obtain ⟨hPc0, hPc1, hPc2, hPc3, hPc4, hPc5, hPf⟩ := id hP
 obtain ⟨hRc0, hRc1, hRc2, hRc3, hRc4, hRc5, hRf⟩ := id hR
 obtain ⟨hTc0, hTc1, hTc2, hTc3, hTc4, hTf⟩ := id hT
 obtain ⟨hQc0, hQc1, hQc2, hQc3, hQc4, hQc5, hQf⟩ := id hQ
 go_wp2_with fail
 clear hPc0 hPc1 hPc2 hPc3 hPc4 hPc5 hPf hRc0 hRc1 hRc2 hRc3 hRc4 hRc5 hRf hTc0 hTc1 hTc2 hTc3 hTc4 hTf hQc0 hQc1 hQc2 hQc3 hQc4 hQc5 hQf
 obtain ⟨hPc0, hPc1, hPc2, hPc3, hPc4, hPc5, hPf⟩ := id hP
 obtain ⟨hRc0, hRc1, hRc2, hRc3, hRc4, hRc5, hRf⟩ := id hR
 obtain ⟨hTc0, hTc1, hTc2, hTc3, hTc4, hTf⟩ := id hT
 obtain ⟨hQc0, hQc1, hQc2, hQc3, hQc4, hQc5, hQf⟩ := id hQ
 go_region_held3 (fun w' => w'.cell? ⟨w1.heap.size, 0, none⟩ = some (.int .u8 kd) ∧ w'.cell? ⟨w1.heap.size, 1, none⟩ = some (.int .i64 ln) ∧ w'.cell? ⟨w1.heap.size, 2, none⟩ = some (.int .i64 cl) ∧ w'.cell? ⟨w1.heap.size, 3, none⟩ = some (.int .i64 nm) ∧ w'.cell? ⟨w1.heap.size, 4, none⟩ = some (.string X) ∧ w'.cell? ⟨w2.heap.size, 0, none⟩ = some (.slice (some ⟨tb, to, none⟩) n tc) ∧ w'.cell? ⟨w2.heap.size, 1, none⟩ = some (.int .i64 J) ∧ w'.cell? ⟨w2.heap.size, 2, none⟩ = some (.int .i64 d) ∧ w'.cell? ⟨w2.heap.size, 3, none⟩ = some (.int .i64 c) ∧ w'.cell? ⟨w2.heap.size, 4, none⟩ = some (.int .i64 l) ∧ w'.cell? ⟨w2.heap.size, 5, none⟩ = some (.int .i64 k)) (first | (rw [put_eq]; refine put_gen (G := fun w' => w'.cell? ⟨w1.heap.size, 0, none⟩ = some (.int .u8 kd) ∧ w'.cell? ⟨w1.heap.size, 1, none⟩ = some (.int .i64 ln) ∧ w'.cell? ⟨w1.heap.size, 2, none⟩ = some (.int .i64 cl) ∧ w'.cell? ⟨w1.heap.size, 3, none⟩ = some (.int .i64 nm) ∧ w'.cell? ⟨w1.heap.size, 4, none⟩ = some (.string X) ∧ w'.cell? ⟨w2.heap.size, 0, none⟩ = some (.slice (some ⟨tb, to, none⟩) n tc) ∧ w'.cell? ⟨w2.heap.size, 1, none⟩ = some (.int .i64 J) ∧ w'.cell? ⟨w2.heap.size, 2, none⟩ = some (.int .i64 d) ∧ w'.cell? ⟨w2.heap.size, 3, none⟩ = some (.int .i64 c) ∧ w'.cell? ⟨w2.heap.size, 4, none⟩ = some (.int .i64 l) ∧ w'.cell? ⟨w2.heap.size, 5, none⟩ = some (.int .i64 k)) hR ?_; intro V _ hO; exact ⟨(hO.cell (by omega)).trans hT.c0, (hO.cell (by omega)).trans hT.c1, (hO.cell (by omega)).trans hT.c2, (hO.cell (by omega)).trans hT.c3, (hO.cell (by omega)).trans hT.c4, (hO.cell (by omega)).trans hQ.c0, (hO.cell (by omega)).trans hQ.c1, (hO.cell (by omega)).trans hQ.c2, (hO.cell (by omega)).trans hQ.c3, (hO.cell (by omega)).trans hQ.c4, (hO.cell (by omega)).trans hQ.c5⟩) | go_keep) (first | (go_at_call 31; refine (node_q (l := []) (n := 0) rfl (Lib.hid (HE.out.carry (by go_grown))) (by omega)).mono ?_; rintro e w90 ⟨g9, cap9, rfl, HY, lo, hb⟩; have hzz := hb.size; (try simp only [World.size_drew] at hzz); (try simp only [World.size_alloc] at hzz); (try simp only [World.size_drew] at hzz); (try simp only [World.size_alloc] at hzz); have hlR := hR.lt; replace HY := Lib.hid HY; have loHY : w.heap.size + 1 + 1 ≤ g9 := Nat.le_trans (by (try simp only [World.size_drew]); (try simp only [World.size_alloc]); (try simp only [World.size_drew]); (try simp only [World.size_alloc]); omega) lo; clear lo; have hb9 := below_from hbb (by go_grown) hb; replace hP := hP.carry hb9; replace hR := hR.carry hb9; replace hT := hT.carry hb9; replace hQ := hQ.carry hb9; (try replace HE := Lib.hid (HE.out.carry hb9)); replace hbb := below_step hbb hb9; clear hb hb9 hlR; (try clear hPc0); (try clear hPc1); (try clear hPc2); (try clear hPc3); (try clear hPc4); (try clear hPc5); (try clear hPf); (try clear hRc0); (try clear hRc1); (try clear hRc2); (try clear hRc3); (try clear hRc4); (try clear hRc5); (try clear hRf); (try clear hTc0); (try clear hTc1); (try clear hTc2); (try clear hTc3); (try clear hTc4); (try clear hTf); (try clear hQc0); (try clear hQc1); (try clear hQc2); (try clear hQc3); (try clear hQc4); (try clear hQc5); (try clear hQf); obtain ⟨hPc0, hPc1, hPc2, hPc3, hPc4, hPc5, hPf⟩ := id hP; obtain ⟨hRc0, hRc1, hRc2, hRc3, hRc4, hRc5, hRf⟩ := id hR; obtain ⟨hTc0, hTc1, hTc2, hTc3, hTc4, hTf⟩ := id hT; obtain ⟨hQc0, hQc1, hQc2, hQc3, hQc4, hQc5, hQf⟩ := id hQ))
 all_goals (obtain ⟨V, hV, nR, hO⟩ := put_ex hR (.slice (some ⟨tb, to, none⟩) n tc) J d c l k; (first | (rw [put_eq, hV.out]) | (go_wp2_with (first | (rw [put_eq, hV.out])))); replace hbb := hO.below hbb (by omega); replace HY := Lib.hid (HY.out.oth hO (by omega)); clear hO; (try clear hRc0 hRc1 hRc2 hRc3 hRc4 hRc5 hRf); obtain ⟨hRc0, hRc1, hRc2, hRc3, hRc4, hRc5, hRf⟩ := id nR; go_wp2_with fail; refine bodyPost_ret (v := .tuple #[.slice (some ⟨g9, 0, none⟩) (0 + 1) cap9, pQ tb to n tc J d c l k]) (by simp [results, Tryz.results70, go_sem, hRc0, hRc1, hRc2, hRc3, hRc4, hRc5]) rfl ⟨g9, cap9, by rw [hone.out]; rfl, HY.out, by omega, (by first | exact hbb | exact below_step hbb (by go_grown))⟩)

set_option maxRecDepth 100000 in
set_option maxHeartbeats 4000000 in
theorem atom_false {w : World} {tb to n tc : Nat} {T : List Tok} {s : S} (h : Ev w tb to n T s.I) {kd ln cl : Nat} {nm : Int} {tx : List UInt8} (ht : nowS T s = ⟨kd, ln, cl, nm, tx⟩) (hc : s.c = 0) (hk : kd ≠ 3 ∧ kd ≠ 4 ∧ kd ≠ 5) (a1 : isS T s [116, 114, 117, 101] = false) (a2 : isS T s [102, 97, 108, 115, 101] = true) : Calls Tryz.prog 70 #[pV tb to n tc s] w (RetP w tb to n tc (ndS 24 ⟨kd, ln, cl, nm, tx⟩ [] 0 [], oneS T s)) := by
 obtain ⟨I, d, c, l, k⟩ := s
 have hn1 := h.ln
 have hn2 := h.en.tn
 have hI0 : I < n := h.lt
 have HV := Lib.hid h
 have HN := Lib.hid (fun w' (hb : Below w.heap.size w w') => now_p (tc := tc) (s := ⟨I, d, c, l, k⟩) (HV.out.carry hb) ht)
 obtain ⟨X, hX0⟩ : ∃ X, bs tx = X := ⟨_, rfl⟩
 rw [hX0] at HN
 replace hX0 := Lib.hid hX0
 clear h
 have HB := Lib.hid (fun w' (hb : Below w.heap.size w w') => bad_p (w := w') (tb := tb) (to := to) (n := n) (tc := tc) (s := ⟨I, d, c, l, k⟩) false (by simpa using hc))
 replace hc := Lib.hid hc
 obtain ⟨J, hJ⟩ : ∃ J, min (I + 1) (T.length - 1) = J := ⟨_, rfl⟩
 have hone' : oneS T ⟨I, d, c, l, k⟩ = ⟨J, d, c, l, k⟩ := by unfold oneS; rw [hJ]
 have hone := Lib.hid hone'
 have hJn : J < n := by omega
 have hJz : min ((I : Int) + 1) ((n : Int) - 1) = (J : Int) := by omega
 clear hJ
 have hk3 : ((kd : Int) == 3) = false := by rw [beq_eq_false_iff_ne]; omega
 have hk4 : ((kd : Int) == 4) = false := by rw [beq_eq_false_iff_ne]; omega
 have hk5 : ((kd : Int) == 5) = false := by rw [beq_eq_false_iff_ne]; omega
 clear hk
 have Ha1 := Lib.hid (fun w' (hb : Below w.heap.size w w') => is_p (s := ⟨I, d, c, l, k⟩) (tc := tc) (HV.out.carry hb) { data := #[116, 114, 117, 101] } [116, 114, 117, 101] (by rw [ByteArray.toList_eq]) false a1)
 have Ha2 := Lib.hid (fun w' (hb : Below w.heap.size w w') => is_p (s := ⟨I, d, c, l, k⟩) (tc := tc) (HV.out.carry hb) { data := #[102, 97, 108, 115, 101] } [102, 97, 108, 115, 101] (by rw [ByteArray.toList_eq]) true a2)
 clear a1 a2
 clear hone'
 clear ht
 go_enter Tryz.func70, Tryz.ntmps70
 go_wp2_with fail
 refine (HN.out _ (two_made w (.slice (some ⟨tb, to, none⟩) n tc) I d c l k).2.2).mono ?_
 rintro e w1 ⟨rfl, hb⟩
 have hbb : Below w.heap.size w w1 := below_step (two_made w (.slice (some ⟨tb, to, none⟩) n tc) I d c l k).2.2 hb
 have hP := (two_made w (.slice (some ⟨tb, to, none⟩) n tc) I d c l k).1.carry hb
 have hR := (two_made w (.slice (some ⟨tb, to, none⟩) n tc) I d c l k).2.1.carry hb
 clear hb
 have lhP := hP.lt
 have lhR := hR.lt
 obtain ⟨hPc0, hPc1, hPc2, hPc3, hPc4, hPc5, hPf⟩ := id hP
 obtain ⟨hRc0, hRc1, hRc2, hRc3, hRc4, hRc5, hRf⟩ := id hR
 go_wp2_with fail
 refine (HB.out _ (below_step (below_step hbb (below_alloc _ (.cells #[.int .u8 kd, .int .i64 ln, .int .i64 cl, .int .i64 nm, .string X] 38))) (below_alloc _ (.cells #[] 32)))).mono ?_
 rintro e w2 ⟨rfl, hb⟩
 clear hPc0 hPc1 hPc2 hPc3 hPc4 hPc5 hPf hRc0 hRc1 hRc2 hRc3 hRc4 hRc5 hRf
 have hb2 := below_from hbb (by go_grown) hb
 have hT := ((Tx.made w1 kd ln cl nm X).carry (below_alloc _ (.cells #[] 32))).carry hb
 have HE : Hid (Lies (ndFlat []) (w1.heap.size + 1) w2) := Lib.hid (lies_nil (by have := hb.size; simp only [World.size_alloc] at this; omega))
 have hz2 := hb.size
 simp only [World.size_alloc] at hz2
 replace hP := hP.carry hb2
 replace hR := hR.carry hb2
 replace hbb := below_step hbb hb2
 clear hb hb2
 have lhP := hP.lt
 have lhR := hR.lt
 have lhT := hT.lt
 obtain ⟨hPc0, hPc1, hPc2, hPc3, hPc4, hPc5, hPf⟩ := id hP
 obtain ⟨hRc0, hRc1, hRc2, hRc3, hRc4, hRc5, hRf⟩ := id hR
 obtain ⟨hTc0, hTc1, hTc2, hTc3, hTc4, hTf⟩ := id hT
 go_wp2_with fail
 refine (Ha1.out _ (below_step hbb (below_alloc _ _))).mono ?_
 rintro e w3 ⟨rfl, hb⟩
 clear hPc0 hPc1 hPc2 hPc3 hPc4 hPc5 hPf hRc0 hRc1 hRc2 hRc3 hRc4 hRc5 hRf hTc0 hTc1 hTc2 hTc3 hTc4 hTf
 replace hP := (hP.carry (below_alloc _ _)).carry hb
 replace hR := (hR.carry (below_alloc _ _)).carry hb
 replace hT := (hT.carry (below_alloc _ _)).carry hb
 replace HE := Lib.hid ((HE.out.carry (below_alloc _ _)).carry hb)
 have hQ := (Bx.made w2 (.slice (some ⟨tb, to, none⟩) n tc) J d c l k).carry hb
 replace hbb := below_step (below_step hbb (below_alloc _ _)) hb
 have hz3 := hb.size
 simp only [World.size_alloc] at hz3
 clear hb
 have lhP := hP.lt
 have lhR := hR.lt
 have lhT := hT.lt
 have lhQ := hQ.lt
 have hQz : w2.heap.size < w3.heap.size := hQ.lt
 obtain ⟨hPc0, hPc1, hPc2, hPc3, hPc4, hPc5, hPf⟩ := id hP
 obtain ⟨hRc0, hRc1, hRc2, hRc3, hRc4, hRc5, hRf⟩ := id hR
 obtain ⟨hTc0, hTc1, hTc2, hTc3, hTc4, hTf⟩ := id hT
 obtain ⟨hQc0, hQc1, hQc2, hQc3, hQc4, hQc5, hQf⟩ := id hQ
 go_wp2_with fail
 refine (Ha2.out _ (hbb)).mono ?_
 rintro e w4 ⟨rfl, hb⟩
 clear hPc0 hPc1 hPc2 hPc3 hPc4 hPc5 hPf hRc0 hRc1 hRc2 hRc3 hRc4 hRc5 hRf hTc0 hTc1 hTc2 hTc3 hTc4 hTf hQc0 hQc1 hQc2 hQc3 hQc4 hQc5 hQf
 replace hP := hP.carry hb
 replace hR := hR.carry hb
 replace hT := hT.carry hb
 replace hQ := hQ.carry hb
 replace HE := Lib.hid (HE.out.carry hb)
 replace hbb := below_step hbb hb
 have hz4 := hb.size
 clear hb
 have lhP := hP.lt
 have lhR := hR.lt
 have lhT := hT.lt
 have lhQ := hQ.lt
 obtain ⟨hPc0, hPc1, hPc2, hPc3, hPc4, hPc5, hPf⟩ := id hP
 obtain ⟨hRc0, hRc1, hRc2, hRc3, hRc4, hRc5, hRf⟩ := id hR
 obtain ⟨hTc0, hTc1, hTc2, hTc3, hTc4, hTf⟩ := id hT
 obtain ⟨hQc0, hQc1, hQc2, hQc3, hQc4, hQc5, hQf⟩ := id hQ
 go_wp2_with fail
 clear hPc0 hPc1 hPc2 hPc3 hPc4 hPc5 hPf hRc0 hRc1 hRc2 hRc3 hRc4 hRc5 hRf hTc0 hTc1 hTc2 hTc3 hTc4 hTf hQc0 hQc1 hQc2 hQc3 hQc4 hQc5 hQf
 obtain ⟨hPc0, hPc1, hPc2, hPc3, hPc4, hPc5, hPf⟩ := id hP
 obtain ⟨hRc0, hRc1, hRc2, hRc3, hRc4, hRc5, hRf⟩ := id hR
 obtain ⟨hTc0, hTc1, hTc2, hTc3, hTc4, hTf⟩ := id hT
 obtain ⟨hQc0, hQc1, hQc2, hQc3, hQc4, hQc5, hQf⟩ := id hQ
 go_region_held3 (fun w' => w'.cell? ⟨w1.heap.size, 0, none⟩ = some (.int .u8 kd) ∧ w'.cell? ⟨w1.heap.size, 1, none⟩ = some (.int .i64 ln) ∧ w'.cell? ⟨w1.heap.size, 2, none⟩ = some (.int .i64 cl) ∧ w'.cell? ⟨w1.heap.size, 3, none⟩ = some (.int .i64 nm) ∧ w'.cell? ⟨w1.heap.size, 4, none⟩ = some (.string X) ∧ w'.cell? ⟨w2.heap.size, 0, none⟩ = some (.slice (some ⟨tb, to, none⟩) n tc) ∧ w'.cell? ⟨w2.heap.size, 1, none⟩ = some (.int .i64 J) ∧ w'.cell? ⟨w2.heap.size, 2, none⟩ = some (.int .i64 d) ∧ w'.cell? ⟨w2.heap.size, 3, none⟩ = some (.int .i64 c) ∧ w'.cell? ⟨w2.heap.size, 4, none⟩ = some (.int .i64 l) ∧ w'.cell? ⟨w2.heap.size, 5, none⟩ = some (.int .i64 k)) (first | (rw [put_eq]; refine put_gen (G := fun w' => w'.cell? ⟨w1.heap.size, 0, none⟩ = some (.int .u8 kd) ∧ w'.cell? ⟨w1.heap.size, 1, none⟩ = some (.int .i64 ln) ∧ w'.cell? ⟨w1.heap.size, 2, none⟩ = some (.int .i64 cl) ∧ w'.cell? ⟨w1.heap.size, 3, none⟩ = some (.int .i64 nm) ∧ w'.cell? ⟨w1.heap.size, 4, none⟩ = some (.string X) ∧ w'.cell? ⟨w2.heap.size, 0, none⟩ = some (.slice (some ⟨tb, to, none⟩) n tc) ∧ w'.cell? ⟨w2.heap.size, 1, none⟩ = some (.int .i64 J) ∧ w'.cell? ⟨w2.heap.size, 2, none⟩ = some (.int .i64 d) ∧ w'.cell? ⟨w2.heap.size, 3, none⟩ = some (.int .i64 c) ∧ w'.cell? ⟨w2.heap.size, 4, none⟩ = some (.int .i64 l) ∧ w'.cell? ⟨w2.heap.size, 5, none⟩ = some (.int .i64 k)) hR ?_; intro V _ hO; exact ⟨(hO.cell (by omega)).trans hT.c0, (hO.cell (by omega)).trans hT.c1, (hO.cell (by omega)).trans hT.c2, (hO.cell (by omega)).trans hT.c3, (hO.cell (by omega)).trans hT.c4, (hO.cell (by omega)).trans hQ.c0, (hO.cell (by omega)).trans hQ.c1, (hO.cell (by omega)).trans hQ.c2, (hO.cell (by omega)).trans hQ.c3, (hO.cell (by omega)).trans hQ.c4, (hO.cell (by omega)).trans hQ.c5⟩) | go_keep) (first | (go_at_call 31; refine (node_q (l := []) (n := 0) rfl (Lib.hid (HE.out.carry (by go_grown))) (by omega)).mono ?_; rintro e w90 ⟨g9, cap9, rfl, HY, lo, hb⟩; have hzz := hb.size; (try simp only [World.size_drew] at hzz); (try simp only [World.size_alloc] at hzz); (try simp only [World.size_drew] at hzz); (try simp only [World.size_alloc] at hzz); have hlR := hR.lt; replace HY := Lib.hid HY; have loHY : w.heap.size + 1 + 1 ≤ g9 := Nat.le_trans (by (try simp only [World.size_drew]); (try simp only [World.size_alloc]); (try simp only [World.size_drew]); (try simp only [World.size_alloc]); omega) lo; clear lo; have hb9 := below_from hbb (by go_grown) hb; replace hP := hP.carry hb9; replace hR := hR.carry hb9; replace hT := hT.carry hb9; replace hQ := hQ.carry hb9; (try replace HE := Lib.hid (HE.out.carry hb9)); replace hbb := below_step hbb hb9; clear hb hb9 hlR; (try clear hPc0); (try clear hPc1); (try clear hPc2); (try clear hPc3); (try clear hPc4); (try clear hPc5); (try clear hPf); (try clear hRc0); (try clear hRc1); (try clear hRc2); (try clear hRc3); (try clear hRc4); (try clear hRc5); (try clear hRf); (try clear hTc0); (try clear hTc1); (try clear hTc2); (try clear hTc3); (try clear hTc4); (try clear hTf); (try clear hQc0); (try clear hQc1); (try clear hQc2); (try clear hQc3); (try clear hQc4); (try clear hQc5); (try clear hQf); obtain ⟨hPc0, hPc1, hPc2, hPc3, hPc4, hPc5, hPf⟩ := id hP; obtain ⟨hRc0, hRc1, hRc2, hRc3, hRc4, hRc5, hRf⟩ := id hR; obtain ⟨hTc0, hTc1, hTc2, hTc3, hTc4, hTf⟩ := id hT; obtain ⟨hQc0, hQc1, hQc2, hQc3, hQc4, hQc5, hQf⟩ := id hQ))
 all_goals (obtain ⟨V, hV, nR, hO⟩ := put_ex hR (.slice (some ⟨tb, to, none⟩) n tc) J d c l k; (first | (rw [put_eq, hV.out]) | (go_wp2_with (first | (rw [put_eq, hV.out])))); replace hbb := hO.below hbb (by omega); replace HY := Lib.hid (HY.out.oth hO (by omega)); clear hO; (try clear hRc0 hRc1 hRc2 hRc3 hRc4 hRc5 hRf); obtain ⟨hRc0, hRc1, hRc2, hRc3, hRc4, hRc5, hRf⟩ := id nR; go_wp2_with fail; refine bodyPost_ret (v := .tuple #[.slice (some ⟨g9, 0, none⟩) (0 + 1) cap9, pQ tb to n tc J d c l k]) (by simp [results, Tryz.results70, go_sem, hRc0, hRc1, hRc2, hRc3, hRc4, hRc5]) rfl ⟨g9, cap9, by rw [hone.out]; rfl, HY.out, by omega, (by first | exact hbb | exact below_step hbb (by go_grown))⟩)

set_option maxRecDepth 100000 in
set_option maxHeartbeats 4000000 in
theorem atom_nil {w : World} {tb to n tc : Nat} {T : List Tok} {s : S} (h : Ev w tb to n T s.I) {kd ln cl : Nat} {nm : Int} {tx : List UInt8} (ht : nowS T s = ⟨kd, ln, cl, nm, tx⟩) (hc : s.c = 0) (hk : kd ≠ 3 ∧ kd ≠ 4 ∧ kd ≠ 5) (a1 : isS T s [116, 114, 117, 101] = false) (a2 : isS T s [102, 97, 108, 115, 101] = false) (a3 : isS T s [110, 105, 108] = true) : Calls Tryz.prog 70 #[pV tb to n tc s] w (RetP w tb to n tc (ndS 25 ⟨kd, ln, cl, nm, tx⟩ [] 0 [], oneS T s)) := by
 obtain ⟨I, d, c, l, k⟩ := s
 have hn1 := h.ln
 have hn2 := h.en.tn
 have hI0 : I < n := h.lt
 have HV := Lib.hid h
 have HN := Lib.hid (fun w' (hb : Below w.heap.size w w') => now_p (tc := tc) (s := ⟨I, d, c, l, k⟩) (HV.out.carry hb) ht)
 obtain ⟨X, hX0⟩ : ∃ X, bs tx = X := ⟨_, rfl⟩
 rw [hX0] at HN
 replace hX0 := Lib.hid hX0
 clear h
 have HB := Lib.hid (fun w' (hb : Below w.heap.size w w') => bad_p (w := w') (tb := tb) (to := to) (n := n) (tc := tc) (s := ⟨I, d, c, l, k⟩) false (by simpa using hc))
 replace hc := Lib.hid hc
 obtain ⟨J, hJ⟩ : ∃ J, min (I + 1) (T.length - 1) = J := ⟨_, rfl⟩
 have hone' : oneS T ⟨I, d, c, l, k⟩ = ⟨J, d, c, l, k⟩ := by unfold oneS; rw [hJ]
 have hone := Lib.hid hone'
 have hJn : J < n := by omega
 have hJz : min ((I : Int) + 1) ((n : Int) - 1) = (J : Int) := by omega
 clear hJ
 have hk3 : ((kd : Int) == 3) = false := by rw [beq_eq_false_iff_ne]; omega
 have hk4 : ((kd : Int) == 4) = false := by rw [beq_eq_false_iff_ne]; omega
 have hk5 : ((kd : Int) == 5) = false := by rw [beq_eq_false_iff_ne]; omega
 clear hk
 have Ha1 := Lib.hid (fun w' (hb : Below w.heap.size w w') => is_p (s := ⟨I, d, c, l, k⟩) (tc := tc) (HV.out.carry hb) { data := #[116, 114, 117, 101] } [116, 114, 117, 101] (by rw [ByteArray.toList_eq]) false a1)
 have Ha2 := Lib.hid (fun w' (hb : Below w.heap.size w w') => is_p (s := ⟨I, d, c, l, k⟩) (tc := tc) (HV.out.carry hb) { data := #[102, 97, 108, 115, 101] } [102, 97, 108, 115, 101] (by rw [ByteArray.toList_eq]) false a2)
 have Ha3 := Lib.hid (fun w' (hb : Below w.heap.size w w') => is_p (s := ⟨I, d, c, l, k⟩) (tc := tc) (HV.out.carry hb) { data := #[110, 105, 108] } [110, 105, 108] (by rw [ByteArray.toList_eq]) true a3)
 clear a1 a2 a3
 clear hone'
 clear ht
 go_enter Tryz.func70, Tryz.ntmps70
 go_wp2_with fail
 refine (HN.out _ (two_made w (.slice (some ⟨tb, to, none⟩) n tc) I d c l k).2.2).mono ?_
 rintro e w1 ⟨rfl, hb⟩
 have hbb : Below w.heap.size w w1 := below_step (two_made w (.slice (some ⟨tb, to, none⟩) n tc) I d c l k).2.2 hb
 have hP := (two_made w (.slice (some ⟨tb, to, none⟩) n tc) I d c l k).1.carry hb
 have hR := (two_made w (.slice (some ⟨tb, to, none⟩) n tc) I d c l k).2.1.carry hb
 clear hb
 have lhP := hP.lt
 have lhR := hR.lt
 obtain ⟨hPc0, hPc1, hPc2, hPc3, hPc4, hPc5, hPf⟩ := id hP
 obtain ⟨hRc0, hRc1, hRc2, hRc3, hRc4, hRc5, hRf⟩ := id hR
 go_wp2_with fail
 refine (HB.out _ (below_step (below_step hbb (below_alloc _ (.cells #[.int .u8 kd, .int .i64 ln, .int .i64 cl, .int .i64 nm, .string X] 38))) (below_alloc _ (.cells #[] 32)))).mono ?_
 rintro e w2 ⟨rfl, hb⟩
 clear hPc0 hPc1 hPc2 hPc3 hPc4 hPc5 hPf hRc0 hRc1 hRc2 hRc3 hRc4 hRc5 hRf
 have hb2 := below_from hbb (by go_grown) hb
 have hT := ((Tx.made w1 kd ln cl nm X).carry (below_alloc _ (.cells #[] 32))).carry hb
 have HE : Hid (Lies (ndFlat []) (w1.heap.size + 1) w2) := Lib.hid (lies_nil (by have := hb.size; simp only [World.size_alloc] at this; omega))
 have hz2 := hb.size
 simp only [World.size_alloc] at hz2
 replace hP := hP.carry hb2
 replace hR := hR.carry hb2
 replace hbb := below_step hbb hb2
 clear hb hb2
 have lhP := hP.lt
 have lhR := hR.lt
 have lhT := hT.lt
 obtain ⟨hPc0, hPc1, hPc2, hPc3, hPc4, hPc5, hPf⟩ := id hP
 obtain ⟨hRc0, hRc1, hRc2, hRc3, hRc4, hRc5, hRf⟩ := id hR
 obtain ⟨hTc0, hTc1, hTc2, hTc3, hTc4, hTf⟩ := id hT
 go_wp2_with fail
 refine (Ha1.out _ (below_step hbb (below_alloc _ _))).mono ?_
 rintro e w3 ⟨rfl, hb⟩
 clear hPc0 hPc1 hPc2 hPc3 hPc4 hPc5 hPf hRc0 hRc1 hRc2 hRc3 hRc4 hRc5 hRf hTc0 hTc1 hTc2 hTc3 hTc4 hTf
 replace hP := (hP.carry (below_alloc _ _)).carry hb
 replace hR := (hR.carry (below_alloc _ _)).carry hb
 replace hT := (hT.carry (below_alloc _ _)).carry hb
 replace HE := Lib.hid ((HE.out.carry (below_alloc _ _)).carry hb)
 have hQ := (Bx.made w2 (.slice (some ⟨tb, to, none⟩) n tc) J d c l k).carry hb
 replace hbb := below_step (below_step hbb (below_alloc _ _)) hb
 have hz3 := hb.size
 simp only [World.size_alloc] at hz3
 clear hb
 have lhP := hP.lt
 have lhR := hR.lt
 have lhT := hT.lt
 have lhQ := hQ.lt
 have hQz : w2.heap.size < w3.heap.size := hQ.lt
 obtain ⟨hPc0, hPc1, hPc2, hPc3, hPc4, hPc5, hPf⟩ := id hP
 obtain ⟨hRc0, hRc1, hRc2, hRc3, hRc4, hRc5, hRf⟩ := id hR
 obtain ⟨hTc0, hTc1, hTc2, hTc3, hTc4, hTf⟩ := id hT
 obtain ⟨hQc0, hQc1, hQc2, hQc3, hQc4, hQc5, hQf⟩ := id hQ
 go_wp2_with fail
 refine (Ha2.out _ (hbb)).mono ?_
 rintro e w4 ⟨rfl, hb⟩
 clear hPc0 hPc1 hPc2 hPc3 hPc4 hPc5 hPf hRc0 hRc1 hRc2 hRc3 hRc4 hRc5 hRf hTc0 hTc1 hTc2 hTc3 hTc4 hTf hQc0 hQc1 hQc2 hQc3 hQc4 hQc5 hQf
 replace hP := hP.carry hb
 replace hR := hR.carry hb
 replace hT := hT.carry hb
 replace hQ := hQ.carry hb
 replace HE := Lib.hid (HE.out.carry hb)
 replace hbb := below_step hbb hb
 have hz4 := hb.size
 clear hb
 have lhP := hP.lt
 have lhR := hR.lt
 have lhT := hT.lt
 have lhQ := hQ.lt
 obtain ⟨hPc0, hPc1, hPc2, hPc3, hPc4, hPc5, hPf⟩ := id hP
 obtain ⟨hRc0, hRc1, hRc2, hRc3, hRc4, hRc5, hRf⟩ := id hR
 obtain ⟨hTc0, hTc1, hTc2, hTc3, hTc4, hTf⟩ := id hT
 obtain ⟨hQc0, hQc1, hQc2, hQc3, hQc4, hQc5, hQf⟩ := id hQ
 go_wp2_with fail
 refine (Ha3.out _ (hbb)).mono ?_
 rintro e w5 ⟨rfl, hb⟩
 clear hPc0 hPc1 hPc2 hPc3 hPc4 hPc5 hPf hRc0 hRc1 hRc2 hRc3 hRc4 hRc5 hRf hTc0 hTc1 hTc2 hTc3 hTc4 hTf hQc0 hQc1 hQc2 hQc3 hQc4 hQc5 hQf
 replace hP := hP.carry hb
 replace hR := hR.carry hb
 replace hT := hT.carry hb
 replace hQ := hQ.carry hb
 replace HE := Lib.hid (HE.out.carry hb)
 replace hbb := below_step hbb hb
 have hz5 := hb.size
 clear hb
 have lhP := hP.lt
 have lhR := hR.lt
 have lhT := hT.lt
 have lhQ := hQ.lt
 obtain ⟨hPc0, hPc1, hPc2, hPc3, hPc4, hPc5, hPf⟩ := id hP
 obtain ⟨hRc0, hRc1, hRc2, hRc3, hRc4, hRc5, hRf⟩ := id hR
 obtain ⟨hTc0, hTc1, hTc2, hTc3, hTc4, hTf⟩ := id hT
 obtain ⟨hQc0, hQc1, hQc2, hQc3, hQc4, hQc5, hQf⟩ := id hQ
 go_wp2_with fail
 clear hPc0 hPc1 hPc2 hPc3 hPc4 hPc5 hPf hRc0 hRc1 hRc2 hRc3 hRc4 hRc5 hRf hTc0 hTc1 hTc2 hTc3 hTc4 hTf hQc0 hQc1 hQc2 hQc3 hQc4 hQc5 hQf
 obtain ⟨hPc0, hPc1, hPc2, hPc3, hPc4, hPc5, hPf⟩ := id hP
 obtain ⟨hRc0, hRc1, hRc2, hRc3, hRc4, hRc5, hRf⟩ := id hR
 obtain ⟨hTc0, hTc1, hTc2, hTc3, hTc4, hTf⟩ := id hT
 obtain ⟨hQc0, hQc1, hQc2, hQc3, hQc4, hQc5, hQf⟩ := id hQ
 go_region_held3 (fun w' => w'.cell? ⟨w1.heap.size, 0, none⟩ = some (.int .u8 kd) ∧ w'.cell? ⟨w1.heap.size, 1, none⟩ = some (.int .i64 ln) ∧ w'.cell? ⟨w1.heap.size, 2, none⟩ = some (.int .i64 cl) ∧ w'.cell? ⟨w1.heap.size, 3, none⟩ = some (.int .i64 nm) ∧ w'.cell? ⟨w1.heap.size, 4, none⟩ = some (.string X) ∧ w'.cell? ⟨w2.heap.size, 0, none⟩ = some (.slice (some ⟨tb, to, none⟩) n tc) ∧ w'.cell? ⟨w2.heap.size, 1, none⟩ = some (.int .i64 J) ∧ w'.cell? ⟨w2.heap.size, 2, none⟩ = some (.int .i64 d) ∧ w'.cell? ⟨w2.heap.size, 3, none⟩ = some (.int .i64 c) ∧ w'.cell? ⟨w2.heap.size, 4, none⟩ = some (.int .i64 l) ∧ w'.cell? ⟨w2.heap.size, 5, none⟩ = some (.int .i64 k)) (first | (rw [put_eq]; refine put_gen (G := fun w' => w'.cell? ⟨w1.heap.size, 0, none⟩ = some (.int .u8 kd) ∧ w'.cell? ⟨w1.heap.size, 1, none⟩ = some (.int .i64 ln) ∧ w'.cell? ⟨w1.heap.size, 2, none⟩ = some (.int .i64 cl) ∧ w'.cell? ⟨w1.heap.size, 3, none⟩ = some (.int .i64 nm) ∧ w'.cell? ⟨w1.heap.size, 4, none⟩ = some (.string X) ∧ w'.cell? ⟨w2.heap.size, 0, none⟩ = some (.slice (some ⟨tb, to, none⟩) n tc) ∧ w'.cell? ⟨w2.heap.size, 1, none⟩ = some (.int .i64 J) ∧ w'.cell? ⟨w2.heap.size, 2, none⟩ = some (.int .i64 d) ∧ w'.cell? ⟨w2.heap.size, 3, none⟩ = some (.int .i64 c) ∧ w'.cell? ⟨w2.heap.size, 4, none⟩ = some (.int .i64 l) ∧ w'.cell? ⟨w2.heap.size, 5, none⟩ = some (.int .i64 k)) hR ?_; intro V _ hO; exact ⟨(hO.cell (by omega)).trans hT.c0, (hO.cell (by omega)).trans hT.c1, (hO.cell (by omega)).trans hT.c2, (hO.cell (by omega)).trans hT.c3, (hO.cell (by omega)).trans hT.c4, (hO.cell (by omega)).trans hQ.c0, (hO.cell (by omega)).trans hQ.c1, (hO.cell (by omega)).trans hQ.c2, (hO.cell (by omega)).trans hQ.c3, (hO.cell (by omega)).trans hQ.c4, (hO.cell (by omega)).trans hQ.c5⟩) | go_keep) (first | (go_at_call 31; refine (node_q (l := []) (n := 0) rfl (Lib.hid (HE.out.carry (by go_grown))) (by omega)).mono ?_; rintro e w90 ⟨g9, cap9, rfl, HY, lo, hb⟩; have hzz := hb.size; (try simp only [World.size_drew] at hzz); (try simp only [World.size_alloc] at hzz); (try simp only [World.size_drew] at hzz); (try simp only [World.size_alloc] at hzz); have hlR := hR.lt; replace HY := Lib.hid HY; have loHY : w.heap.size + 1 + 1 ≤ g9 := Nat.le_trans (by (try simp only [World.size_drew]); (try simp only [World.size_alloc]); (try simp only [World.size_drew]); (try simp only [World.size_alloc]); omega) lo; clear lo; have hb9 := below_from hbb (by go_grown) hb; replace hP := hP.carry hb9; replace hR := hR.carry hb9; replace hT := hT.carry hb9; replace hQ := hQ.carry hb9; (try replace HE := Lib.hid (HE.out.carry hb9)); replace hbb := below_step hbb hb9; clear hb hb9 hlR; (try clear hPc0); (try clear hPc1); (try clear hPc2); (try clear hPc3); (try clear hPc4); (try clear hPc5); (try clear hPf); (try clear hRc0); (try clear hRc1); (try clear hRc2); (try clear hRc3); (try clear hRc4); (try clear hRc5); (try clear hRf); (try clear hTc0); (try clear hTc1); (try clear hTc2); (try clear hTc3); (try clear hTc4); (try clear hTf); (try clear hQc0); (try clear hQc1); (try clear hQc2); (try clear hQc3); (try clear hQc4); (try clear hQc5); (try clear hQf); obtain ⟨hPc0, hPc1, hPc2, hPc3, hPc4, hPc5, hPf⟩ := id hP; obtain ⟨hRc0, hRc1, hRc2, hRc3, hRc4, hRc5, hRf⟩ := id hR; obtain ⟨hTc0, hTc1, hTc2, hTc3, hTc4, hTf⟩ := id hT; obtain ⟨hQc0, hQc1, hQc2, hQc3, hQc4, hQc5, hQf⟩ := id hQ))
 all_goals (obtain ⟨V, hV, nR, hO⟩ := put_ex hR (.slice (some ⟨tb, to, none⟩) n tc) J d c l k; (first | (rw [put_eq, hV.out]) | (go_wp2_with (first | (rw [put_eq, hV.out])))); replace hbb := hO.below hbb (by omega); replace HY := Lib.hid (HY.out.oth hO (by omega)); clear hO; (try clear hRc0 hRc1 hRc2 hRc3 hRc4 hRc5 hRf); obtain ⟨hRc0, hRc1, hRc2, hRc3, hRc4, hRc5, hRf⟩ := id nR; go_wp2_with fail; refine bodyPost_ret (v := .tuple #[.slice (some ⟨g9, 0, none⟩) (0 + 1) cap9, pQ tb to n tc J d c l k]) (by simp [results, Tryz.results70, go_sem, hRc0, hRc1, hRc2, hRc3, hRc4, hRc5]) rfl ⟨g9, cap9, by rw [hone.out]; rfl, HY.out, by omega, (by first | exact hbb | exact below_step hbb (by go_grown))⟩)

end Go.Proofs.YtbknflaooemigaaGreat
