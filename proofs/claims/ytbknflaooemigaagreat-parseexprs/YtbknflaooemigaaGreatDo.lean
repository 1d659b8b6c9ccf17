/-
 The document's atom answers as said, if what it calls does. Conditions: those calls' contracts.
-/
import Derived.Test.YtbknflaooemigaaGreatDk
namespace Go.Proofs.YtbknflaooemigaaGreat
open Go.RowKit Go.Sort
set_option linter.unusedVariables false

set_option maxRecDepth 100000 in
set_option maxHeartbeats 4000000 in
theorem atom_make {w : World} {tb to n tc : Nat} {T : List Tok} {s : S} (h : Ev w tb to n T s.I) {kd ln cl : Nat} {nm : Int} {tx : List UInt8} (ht : nowS T s = ⟨kd, ln, cl, nm, tx⟩) (hc : s.c = 0) (hk : kd ≠ 3 ∧ kd ≠ 4 ∧ kd ≠ 5 ∧ kd ≠ 1) (a1 : isS T s [116, 114, 117, 101] = false) (a2 : isS T s [102, 97, 108, 115, 101] = false) (a3 : isS T s [110, 105, 108] = false) (a4 : isS T s [40] = false) (a5 : isS T s [109, 97, 107, 101] = true) (b1 : isS T (oneS T s) [91] = true) {u : Rs} (huI : u.2.I < n) (hul : u.1.length ≤ 70010) (HK1 : Hid (∀ w', Below w.heap.size w w' → Calls Tryz.prog 93 #[pV tb to n tc (oneS T s)] w' (RetP w' tb to n tc u))) {z : Rs} (hzI : z.2.I < n) (hzl : z.1.length ≤ 70010) (HX1 : Hid (∀ w', Below w.heap.size w w' → Calls Tryz.prog 14 #[pV tb to n tc (opensS T u.2 [40]), .int .i64 1] w' (RetP w' tb to n tc z))) : Calls Tryz.prog 70 #[pV tb to n tc s] w (RetP w tb to n tc (ndS 32 ⟨kd, ln, cl, nm, tx⟩ [] 0 (u.1 ++ z.1), shutsS T z.2 [41])) := by
 obtain ⟨I, d, c, l, k⟩ := s
 have hn1 := h.ln
 have hn2 := h.en.tn
 have hI0 : I < n := h.lt
 have HV := Lib.hid h
 have HN := Lib.hid (fun w' (hb : Below w.heap.size w w') => now_p (tc := tc) (s := ⟨I, d, c, l, k⟩) (HV.out.carry hb) ht)
 obtain ⟨X, hX0⟩ : ∃ X, bs tx = X := ⟨_, rfl⟩
 rw [hX0] at HN
 replace hX0 := Lib.hid hX0
 clear h
 have HB := Lib.hid (fun w' (hb : Below w.heap.size w w') => bad_p (w := w') (tb := tb) (to := to) (n := n) (tc := tc) (s := ⟨I, d, c, l, k⟩) false (by simpa using hc))
 replace hc := Lib.hid hc
 obtain ⟨J, hJ⟩ : ∃ J, min (I + 1) (T.length - 1) = J := ⟨_, rfl⟩
 have hone' : oneS T ⟨I, d, c, l, k⟩ = ⟨J, d, c, l, k⟩ := by unfold oneS; rw [hJ]
 have hone := Lib.hid hone'
 have hJn : J < n := by omega
 have hJz : min ((I : Int) + 1) ((n : Int) - 1) = (J : Int) := by omega
 clear hJ
 have hk3 : ((kd : Int) == 3) = false := by rw [beq_eq_false_iff_ne]; omega
 have hk4 : ((kd : Int) == 4) = false := by rw [beq_eq_false_iff_ne]; omega
 have hk5 : ((kd : Int) == 5) = false := by rw [beq_eq_false_iff_ne]; omega
 have hk1 : ((kd : Int) == 1) = false := by rw [beq_eq_false_iff_ne]; omega
 clear hk
 have Ha1 := Lib.hid (fun w' (hb : Below w.heap.size w w') => is_p (s := ⟨I, d, c, l, k⟩) (tc := tc) (HV.out.carry hb) { data := #[116, 114, 117, 101] } [116, 114, 117, 101] (by rw [ByteArray.toList_eq]) false a1)
 have Ha2 := Lib.hid (fun w' (hb : Below w.heap.size w w') => is_p (s := ⟨I, d, c, l, k⟩) (tc := tc) (HV.out.carry hb) { data := #[102, 97, 108, 115, 101] } [102, 97, 108, 115, 101] (by rw [ByteArray.toList_eq]) false a2)
 have Ha3 := Lib.hid (fun w' (hb : Below w.heap.size w w') => is_p (s := ⟨I, d, c, l, k⟩) (tc := tc) (HV.out.carry hb) { data := #[110, 105, 108] } [110, 105, 108] (by rw [ByteArray.toList_eq]) false a3)
 have Ha4 := Lib.hid (fun w' (hb : Below w.heap.size w w') => is_p (s := ⟨I, d, c, l, k⟩) (tc := tc) (HV.out.carry hb) { data := #[40] } [40] (by rw [ByteArray.toList_eq]) false a4)
 have Ha5 := Lib.hid (fun w' (hb : Below w.heap.size w w') => is_p (s := ⟨I, d, c, l, k⟩) (tc := tc) (HV.out.carry hb) { data := #[109, 97, 107, 101] } [109, 97, 107, 101] (by rw [ByteArray.toList_eq]) true a5)
 clear a1 a2 a3 a4 a5
 rw [hone'] at b1 HK1
 have Hb1 := Lib.hid (fun w' (hb : Below w.heap.size w w') => is_p (s := ⟨J, d, c, l, k⟩) (tc := tc) ((HV.out.at hJn).carry hb) { data := #[91] } [91] (by rw [ByteArray.toList_eq]) true b1)
 clear hone' b1
 obtain ⟨y, ⟨I3, d3, c3, l3, k3⟩⟩ := z
 obtain ⟨v, ⟨I1, d1, c1, l1, k1⟩⟩ := u
 simp only at hzI hzl huI hul HX1
 obtain ⟨⟨I2, d2, c2, l2, k2⟩, hs2⟩ : ∃ s, opensS T ⟨I1, d1, c1, l1, k1⟩ [40] = s := ⟨_, rfl⟩
 rw [hs2] at HX1
 have HO := Lib.hid (fun w' (hb : Below w.heap.size w w') => opens_p (tc := tc) (s := ⟨I1, d1, c1, l1, k1⟩) ((HV.out.at huI).carry hb) { data := #[40] } [40] (by rw [ByteArray.toList_eq]) _ hs2)
 obtain ⟨⟨I4, d4, c4, l4, k4⟩, hs4⟩ : ∃ s, shutsS T ⟨I3, d3, c3, l3, k3⟩ [41] = s := ⟨_, rfl⟩
 have HS := Lib.hid (fun w' (hb : Below w.heap.size w w') => shuts_p (tc := tc) (s := ⟨I3, d3, c3, l3, k3⟩) ((HV.out.at hzI).carry hb) { data := #[41] } [41] (by rw [ByteArray.toList_eq]) _ hs4)
 simp only [hs4]
 clear hs2 hs4
 clear ht
 go_enter Tryz.func70, Tryz.ntmps70
 go_wp2_with fail
 refine (HN.out _ (two_made w (.slice (some ⟨tb, to, none⟩) n tc) I d c l k).2.2).mono ?_
 rintro e w1 ⟨rfl, hb⟩
 have hbb : Below w.heap.size w w1 := below_step (two_made w (.slice (some ⟨tb, to, none⟩) n tc) I d c l k).2.2 hb
 have hP := (two_made w (.slice (some ⟨tb, to, none⟩) n tc) I d c l k).1.carry hb
 have hR := (two_made w (.slice (some ⟨tb, to, none⟩) n tc) I d c l k).2.1.carry hb
 clear hb
 have lhP := hP.lt
 have lhR := hR.lt
 obtain ⟨hPc0, hPc1, hPc2, hPc3, hPc4, hPc5, hPf⟩ := id hP
 obtain ⟨hRc0, hRc1, hRc2, hRc3, hRc4, hRc5, hRf⟩ := id hR
 go_wp2_with fail
 refine (HB.out _ (below_step (below_step hbb (below_alloc _ (.cells #[.int .u8 kd, .int .i64 ln, .int .i64 cl, .int .i64 nm, .string X] 38))) (below_alloc _ (.cells #[] 32)))).mono ?_
 rintro e w2 ⟨rfl, hb⟩
 clear hPc0 hPc1 hPc2 hPc3 hPc4 hPc5 hPf hRc0 hRc1 hRc2 hRc3 hRc4 hRc5 hRf
 have hb2 := below_from hbb (by go_grown) hb
 have hT := ((Tx.made w1 kd ln cl nm X).carry (below_alloc _ (.cells #[] 32))).carry hb
 have HE : Hid (Lies (ndFlat []) (w1.heap.size + 1) w2) := Lib.hid (lies_nil (by have := hb.size; simp only [World.size_alloc] at this; omega))
 have hz2 := hb.size
 simp only [World.size_alloc] at hz2
 replace hP := hP.carry hb2
 replace hR := hR.carry hb2
 replace hbb := below_step hbb hb2
 clear hb hb2
 have lhP := hP.lt
 have lhR := hR.lt
 have lhT := hT.lt
 obtain ⟨hPc0, hPc1, hPc2, hPc3, hPc4, hPc5, hPf⟩ := id hP
 obtain ⟨hRc0, hRc1, hRc2, hRc3, hRc4, hRc5, hRf⟩ := id hR
 obtain ⟨hTc0, hTc1, hTc2, hTc3, hTc4, hTf⟩ := id hT
 go_wp2_with fail
 refine (Ha1.out _ (below_step hbb (below_alloc _ _))).mono ?_
 rintro e w3 ⟨rfl, hb⟩
 clear hPc0 hPc1 hPc2 hPc3 hPc4 hPc5 hPf hRc0 hRc1 hRc2 hRc3 hRc4 hRc5 hRf hTc0 hTc1 hTc2 hTc3 hTc4 hTf
 replace hP := (hP.carry (below_alloc _ _)).carry hb
 replace hR := (hR.carry (below_alloc _ _)).carry hb
 replace hT := (hT.carry (below_alloc _ _)).carry hb
 replace HE := Lib.hid ((HE.out.carry (below_alloc _ _)).carry hb)
 have hQ := (Bx.made w2 (.slice (some ⟨tb, to, none⟩) n tc) J d c l k).carry hb
 replace hbb := below_step (below_step hbb (below_alloc _ _)) hb
 have hz3 := hb.size
 simp only [World.size_alloc] at hz3
 clear hb
 have lhP := hP.lt
 have lhR := hR.lt
 have lhT := hT.lt
 have lhQ := hQ.lt
 have hQz : w2.heap.size < w3.heap.size := hQ.lt
 obtain ⟨hPc0, hPc1, hPc2, hPc3, hPc4, hPc5, hPf⟩ := id hP
 obtain ⟨hRc0, hRc1, hRc2, hRc3, hRc4, hRc5, hRf⟩ := id hR
 obtain ⟨hTc0, hTc1, hTc2, hTc3, hTc4, hTf⟩ := id hT
 obtain ⟨hQc0, hQc1, hQc2, hQc3, hQc4, hQc5, hQf⟩ := id hQ
 go_wp2_with fail
 refine (Ha2.out _ (hbb)).mono ?_
 rintro e w4 ⟨rfl, hb⟩
 clear hPc0 hPc1 hPc2 hPc3 hPc4 hPc5 hPf hRc0 hRc1 hRc2 hRc3 hRc4 hRc5 hRf hTc0 hTc1 hTc2 hTc3 hTc4 hTf hQc0 hQc1 hQc2 hQc3 hQc4 hQc5 hQf
 replace hP := hP.carry hb
 replace hR := hR.carry hb
 replace hT := hT.carry hb
 replace hQ := hQ.carry hb
 replace HE := Lib.hid (HE.out.carry hb)
 replace hbb := below_step hbb hb
 have hz4 := hb.size
 clear hb
 have lhP := hP.lt
 have lhR := hR.lt
 have lhT := hT.lt
 have lhQ := hQ.lt
 obtain ⟨hPc0, hPc1, hPc2, hPc3, hPc4, hPc5, hPf⟩ := id hP
 obtain ⟨hRc0, hRc1, hRc2, hRc3, hRc4, hRc5, hRf⟩ := id hR
 obtain ⟨hTc0, hTc1, hTc2, hTc3, hTc4, hTf⟩ := id hT
 obtain ⟨hQc0, hQc1, hQc2, hQc3, hQc4, hQc5, hQf⟩ := id hQ
 go_wp2_with fail
 refine (Ha3.out _ (hbb)).mono ?_
 rintro e w5 ⟨rfl, hb⟩
 clear hPc0 hPc1 hPc2 hPc3 hPc4 hPc5 hPf hRc0 hRc1 hRc2 hRc3 hRc4 hRc5 hRf hTc0 hTc1 hTc2 hTc3 hTc4 hTf hQc0 hQc1 hQc2 hQc3 hQc4 hQc5 hQf
 replace hP := hP.carry hb
 replace hR := hR.carry hb
 replace hT := hT.carry hb
 replace hQ := hQ.carry hb
 replace HE := Lib.hid (HE.out.carry hb)
 replace hbb := below_step hbb hb
 have hz5 := hb.size
 clear hb
 have lhP := hP.lt
 have lhR := hR.lt
 have lhT := hT.lt
 have lhQ := hQ.lt
 obtain ⟨hPc0, hPc1, hPc2, hPc3, hPc4, hPc5, hPf⟩ := id hP
 obtain ⟨hRc0, hRc1, hRc2, hRc3, hRc4, hRc5, hRf⟩ := id hR
 obtain ⟨hTc0, hTc1, hTc2, hTc3, hTc4, hTf⟩ := id hT
 obtain ⟨hQc0, hQc1, hQc2, hQc3, hQc4, hQc5, hQf⟩ := id hQ
 go_wp2_with fail
 refine (Ha4.out _ (hbb)).mono ?_
 rintro e w6 ⟨rfl, hb⟩
 clear hPc0 hPc1 hPc2 hPc3 hPc4 hPc5 hPf hRc0 hRc1 hRc2 hRc3 hRc4 hRc5 hRf hTc0 hTc1 hTc2 hTc3 hTc4 hTf hQc0 hQc1 hQc2 hQc3 hQc4 hQc5 hQf
 replace hP := hP.carry hb
 replace hR := hR.carry hb
 replace hT := hT.carry hb
 replace hQ := hQ.carry hb
 replace HE := Lib.hid (HE.out.carry hb)
 replace hbb := below_step hbb hb
 have hz6 := hb.size
 clear hb
 have lhP := hP.lt
 have lhR := hR.lt
 have lhT := hT.lt
 have lhQ := hQ.lt
 obtain ⟨hPc0, hPc1, hPc2, hPc3, hPc4, hPc5, hPf⟩ := id hP
 obtain ⟨hRc0, hRc1, hRc2, hRc3, hRc4, hRc5, hRf⟩ := id hR
 obtain ⟨hTc0, hTc1, hTc2, hTc3, hTc4, hTf⟩ := id hT
 obtain ⟨hQc0, hQc1, hQc2, hQc3, hQc4, hQc5, hQf⟩ := id hQ
 go_wp2_with fail
 refine (Ha5.out _ (hbb)).mono ?_
 rintro e w7 ⟨rfl, hb⟩
 clear hPc0 hPc1 hPc2 hPc3 hPc4 hPc5 hPf hRc0 hRc1 hRc2 hRc3 hRc4 hRc5 hRf hTc0 hTc1 hTc2 hTc3 hTc4 hTf hQc0 hQc1 hQc2 hQc3 hQc4 hQc5 hQf
 replace hP := hP.carry hb
 replace hR := hR.carry hb
 replace hT := hT.carry hb
 replace hQ := hQ.carry hb
 replace HE := Lib.hid (HE.out.carry hb)
 replace hbb := below_step hbb hb
 have hz7 := hb.size
 clear hb
 have lhP := hP.lt
 have lhR := hR.lt
 have lhT := hT.lt
 have lhQ := hQ.lt
 obtain ⟨hPc0, hPc1, hPc2, hPc3, hPc4, hPc5, hPf⟩ := id hP
 obtain ⟨hRc0, hRc1, hRc2, hRc3, hRc4, hRc5, hRf⟩ := id hR
 obtain ⟨hTc0, hTc1, hTc2, hTc3, hTc4, hTf⟩ := id hT
 obtain ⟨hQc0, hQc1, hQc2, hQc3, hQc4, hQc5, hQf⟩ := id hQ
 go_wp2_with fail
 refine (Hb1.out _ (hbb)).mono ?_
 rintro e w8 ⟨rfl, hb⟩
 clear hPc0 hPc1 hPc2 hPc3 hPc4 hPc5 hPf hRc0 hRc1 hRc2 hRc3 hRc4 hRc5 hRf hTc0 hTc1 hTc2 hTc3 hTc4 hTf hQc0 hQc1 hQc2 hQc3 hQc4 hQc5 hQf
 replace hP := hP.carry hb
 replace hR := hR.carry hb
 replace hT := hT.carry hb
 replace hQ := hQ.carry hb
 replace HE := Lib.hid (HE.out.carry hb)
 replace hbb := below_step hbb hb
 have hz8 := hb.size
 clear hb
 have lhP := hP.lt
 have lhR := hR.lt
 have lhT := hT.lt
 have lhQ := hQ.lt
 obtain ⟨hPc0, hPc1, hPc2, hPc3, hPc4, hPc5, hPf⟩ := id hP
 obtain ⟨hRc0, hRc1, hRc2, hRc3, hRc4, hRc5, hRf⟩ := id hR
 obtain ⟨hTc0, hTc1, hTc2, hTc3, hTc4, hTf⟩ := id hT
 obtain ⟨hQc0, hQc1, hQc2, hQc3, hQc4, hQc5, hQf⟩ := id hQ
 go_wp2_with fail
 refine (HK1.out _ (hbb)).mono ?_
 rintro e w9 ⟨g1, cap1, rfl, HU, log1, hb⟩
 clear hPc0 hPc1 hPc2 hPc3 hPc4 hPc5 hPf hRc0 hRc1 hRc2 hRc3 hRc4 hRc5 hRf hTc0 hTc1 hTc2 hTc3 hTc4 hTf hQc0 hQc1 hQc2 hQc3 hQc4 hQc5 hQf
 replace hP := hP.carry hb
 replace hR := hR.carry hb
 replace hT := hT.carry hb
 replace hQ := hQ.carry hb
 replace HE := Lib.hid (HE.out.carry hb)
 replace hbb := below_step hbb hb
 replace HU := Lib.hid HU
 have hz9 := hb.size
 clear hb
 have lhP := hP.lt
 have lhR := hR.lt
 have lhT := hT.lt
 have lhQ := hQ.lt
 have hg1 := HU.out.1
 go_wp2_with fail
 refine (HO.out _ (below_step hbb (below_alloc _ _))).mono ?_
 rintro e w10 ⟨rfl, hb⟩
 replace hP := (hP.carry (below_alloc _ _)).carry hb
 replace hR := (hR.carry (below_alloc _ _)).carry hb
 replace hT := (hT.carry (below_alloc _ _)).carry hb
 replace hQ := (hQ.carry (below_alloc _ _)).carry hb
 replace HE := Lib.hid ((HE.out.carry (below_alloc _ _)).carry hb)
 replace HU := Lib.hid ((HU.out.carry (below_alloc _ _)).carry hb)
 have hU := (Bx.made w9 (.slice (some ⟨tb, to, none⟩) n tc) I1 d1 c1 l1 k1).carry hb
 replace hbb := below_step (below_step hbb (below_alloc _ _)) hb
 have hz10 := hb.size
 simp only [World.size_alloc] at hz10
 clear hb
 have lhP := hP.lt
 have lhR := hR.lt
 have lhT := hT.lt
 have lhQ := hQ.lt
 have lhU := hU.lt
 go_wp2_with fail
 refine (HX1.out _ (hbb)).mono ?_
 rintro e w11 ⟨g2, cap2, rfl, HX, log2, hb⟩
 replace hP := hP.carry hb
 replace hR := hR.carry hb
 replace hT := hT.carry hb
 replace hQ := hQ.carry hb
 replace hU := hU.carry hb
 replace HE := Lib.hid (HE.out.carry hb)
 replace HU := Lib.hid (HU.out.carry hb)
 replace hbb := below_step hbb hb
 replace HX := Lib.hid HX
 have hz11 := hb.size
 clear hb
 have lhP := hP.lt
 have lhR := hR.lt
 have lhT := hT.lt
 have lhQ := hQ.lt
 have lhU := hU.lt
 obtain ⟨hPc0, hPc1, hPc2, hPc3, hPc4, hPc5, hPf⟩ := id hP
 obtain ⟨hRc0, hRc1, hRc2, hRc3, hRc4, hRc5, hRf⟩ := id hR
 obtain ⟨hTc0, hTc1, hTc2, hTc3, hTc4, hTf⟩ := id hT
 obtain ⟨hQc0, hQc1, hQc2, hQc3, hQc4, hQc5, hQf⟩ := id hQ
 obtain ⟨hUc0, hUc1, hUc2, hUc3, hUc4, hUc5, hUf⟩ := id hU
 obtain ⟨W, hW, nhU, hO⟩ := put_ex hU (.slice (some ⟨tb, to, none⟩) n tc) I3 d3 c3 l3 k3
 have hsW := hO.size
 go_wp2_with fail
 rw [put_eq, hW.out]
 clear hPc0 hPc1 hPc2 hPc3 hPc4 hPc5 hPf hRc0 hRc1 hRc2 hRc3 hRc4 hRc5 hRf hTc0 hTc1 hTc2 hTc3 hTc4 hTf hQc0 hQc1 hQc2 hQc3 hQc4 hQc5 hQf hUc0 hUc1 hUc2 hUc3 hUc4 hUc5 hUf
 replace hU := nhU
 replace hbb := hO.below hbb (by omega)
 replace hP := hP.oth hO (by omega)
 replace hR := hR.oth hO (by omega)
 replace hT := hT.oth hO (by omega)
 replace hQ := hQ.oth hO (by omega)
 replace HE := Lib.hid (HE.out.oth hO (by omega))
 replace HU := Lib.hid (HU.out.oth hO (by omega))
 replace HX := Lib.hid (HX.out.oth hO (by omega))
 clear hO nhU hW
 have lhP := hP.lt
 have lhR := hR.lt
 have lhT := hT.lt
 have lhQ := hQ.lt
 have lhU := hU.lt
 obtain ⟨hPc0, hPc1, hPc2, hPc3, hPc4, hPc5, hPf⟩ := id hP
 obtain ⟨hRc0, hRc1, hRc2, hRc3, hRc4, hRc5, hRf⟩ := id hR
 obtain ⟨hTc0, hTc1, hTc2, hTc3, hTc4, hTf⟩ := id hT
 obtain ⟨hQc0, hQc1, hQc2, hQc3, hQc4, hQc5, hQf⟩ := id hQ
 obtain ⟨hUc0, hUc1, hUc2, hUc3, hUc4, hUc5, hUf⟩ := id hU
 go_region_held3 (fun w' => w'.cell? ⟨w1.heap.size, 0, none⟩ = some (.int .u8 kd) ∧ w'.cell? ⟨w1.heap.size, 1, none⟩ = some (.int .i64 ln) ∧ w'.cell? ⟨w1.heap.size, 2, none⟩ = some (.int .i64 cl) ∧ w'.cell? ⟨w1.heap.size, 3, none⟩ = some (.int .i64 nm) ∧ w'.cell? ⟨w1.heap.size, 4, none⟩ = some (.string X) ∧ w'.cell? ⟨w9.heap.size, 0, none⟩ = some (.slice (some ⟨tb, to, none⟩) n tc) ∧ w'.cell? ⟨w9.heap.size, 1, none⟩ = some (.int .i64 I3) ∧ w'.cell? ⟨w9.heap.size, 2, none⟩ = some (.int .i64 d3) ∧ w'.cell? ⟨w9.heap.size, 3, none⟩ = some (.int .i64 c3) ∧ w'.cell? ⟨w9.heap.size, 4, none⟩ = some (.int .i64 l3) ∧ w'.cell? ⟨w9.heap.size, 5, none⟩ = some (.int .i64 k3)) (first | (rw [put_eq]; refine put_gen (G := fun w' => w'.cell? ⟨w1.heap.size, 0, none⟩ = some (.int .u8 kd) ∧ w'.cell? ⟨w1.heap.size, 1, none⟩ = some (.int .i64 ln) ∧ w'.cell? ⟨w1.heap.size, 2, none⟩ = some (.int .i64 cl) ∧ w'.cell? ⟨w1.heap.size, 3, none⟩ = some (.int .i64 nm) ∧ w'.cell? ⟨w1.heap.size, 4, none⟩ = some (.string X) ∧ w'.cell? ⟨w9.heap.size, 0, none⟩ = some (.slice (some ⟨tb, to, none⟩) n tc) ∧ w'.cell? ⟨w9.heap.size, 1, none⟩ = some (.int .i64 I3) ∧ w'.cell? ⟨w9.heap.size, 2, none⟩ = some (.int .i64 d3) ∧ w'.cell? ⟨w9.heap.size, 3, none⟩ = some (.int .i64 c3) ∧ w'.cell? ⟨w9.heap.size, 4, none⟩ = some (.int .i64 l3) ∧ w'.cell? ⟨w9.heap.size, 5, none⟩ = some (.int .i64 k3)) hR ?_; intro V _ hO; exact ⟨(hO.cell (by omega)).trans hT.c0, (hO.cell (by omega)).trans hT.c1, (hO.cell (by omega)).trans hT.c2, (hO.cell (by omega)).trans hT.c3, (hO.cell (by omega)).trans hT.c4, (hO.cell (by omega)).trans hU.c0, (hO.cell (by omega)).trans hU.c1, (hO.cell (by omega)).trans hU.c2, (hO.cell (by omega)).trans hU.c3, (hO.cell (by omega)).trans hU.c4, (hO.cell (by omega)).trans hU.c5⟩) | go_keep) (first | (go_at_call 32; refine (join_q rfl rfl (Lib.hid (HU.out.carry (by go_grown))) (Lib.hid (HX.out.carry (by go_grown))) (by omega)).mono ?_; rintro e w90 ⟨g8, cap8, rfl, HJ, lo, hb⟩; have hzz := hb.size; (try simp only [World.size_drew] at hzz); (try simp only [World.size_alloc] at hzz); (try simp only [World.size_drew] at hzz); (try simp only [World.size_alloc] at hzz); have hlR := hR.lt; replace HJ := Lib.hid HJ; have loHJ : w.heap.size + 1 + 1 ≤ g8 := Nat.le_trans (by (try simp only [World.size_drew]); (try simp only [World.size_alloc]); (try simp only [World.size_drew]); (try simp only [World.size_alloc]); omega) lo; clear lo; have hb9 := below_from hbb (by go_grown) hb; replace hP := hP.carry hb9; replace hR := hR.carry hb9; replace hT := hT.carry hb9; replace hQ := hQ.carry hb9; replace hU := hU.carry hb9; (try replace HE := Lib.hid (HE.out.carry hb9)); (try replace HX := Lib.hid (HX.out.carry hb9)); (try replace HU := Lib.hid (HU.out.carry hb9)); (try replace HY := Lib.hid (HY.out.carry hb9)); replace hbb := below_step hbb hb9; clear hb hb9 hlR; (try clear hPc0); (try clear hPc1); (try clear hPc2); (try clear hPc3); (try clear hPc4); (try clear hPc5); (try clear hPf); (try clear hRc0); (try clear hRc1); (try clear hRc2); (try clear hRc3); (try clear hRc4); (try clear hRc5); (try clear hRf); (try clear hTc0); (try clear hTc1); (try clear hTc2); (try clear hTc3); (try clear hTc4); (try clear hTf); (try clear hQc0); (try clear hQc1); (try clear hQc2); (try clear hQc3); (try clear hQc4); (try clear hQc5); (try clear hQf); (try clear hUc0); (try clear hUc1); (try clear hUc2); (try clear hUc3); (try clear hUc4); (try clear hUc5); (try clear hUf); obtain ⟨hPc0, hPc1, hPc2, hPc3, hPc4, hPc5, hPf⟩ := id hP; obtain ⟨hRc0, hRc1, hRc2, hRc3, hRc4, hRc5, hRf⟩ := id hR; obtain ⟨hTc0, hTc1, hTc2, hTc3, hTc4, hTf⟩ := id hT; obtain ⟨hQc0, hQc1, hQc2, hQc3, hQc4, hQc5, hQf⟩ := id hQ; obtain ⟨hUc0, hUc1, hUc2, hUc3, hUc4, hUc5, hUf⟩ := id hU) | (go_at_call 31; refine (node_q List.length_append (Lib.hid (HJ.out.carry (by go_grown))) (by omega)).mono ?_; rintro e w91 ⟨g9, cap9, rfl, HY, lo, hb⟩; have hzz := hb.size; (try simp only [World.size_drew] at hzz); (try simp only [World.size_alloc] at hzz); (try simp only [World.size_drew] at hzz); (try simp only [World.size_alloc] at hzz); have hlR := hR.lt; replace HY := Lib.hid HY; have loHY : w.heap.size + 1 + 1 ≤ g9 := Nat.le_trans (by (try simp only [World.size_drew]); (try simp only [World.size_alloc]); (try simp only [World.size_drew]); (try simp only [World.size_alloc]); omega) lo; clear lo; have hb9 := below_from hbb (by go_grown) hb; replace hP := hP.carry hb9; replace hR := hR.carry hb9; replace hT := hT.carry hb9; replace hQ := hQ.carry hb9; replace hU := hU.carry hb9; (try replace HE := Lib.hid (HE.out.carry hb9)); (try replace HX := Lib.hid (HX.out.carry hb9)); (try replace HU := Lib.hid (HU.out.carry hb9)); (try replace HJ := Lib.hid (HJ.out.carry hb9)); replace hbb := below_step hbb hb9; clear hb hb9 hlR; (try clear hPc0); (try clear hPc1); (try clear hPc2); (try clear hPc3); (try clear hPc4); (try clear hPc5); (try clear hPf); (try clear hRc0); (try clear hRc1); (try clear hRc2); (try clear hRc3); (try clear hRc4); (try clear hRc5); (try clear hRf); (try clear hTc0); (try clear hTc1); (try clear hTc2); (try clear hTc3); (try clear hTc4); (try clear hTf); (try clear hQc0); (try clear hQc1); (try clear hQc2); (try clear hQc3); (try clear hQc4); (try clear hQc5); (try clear hQf); (try clear hUc0); (try clear hUc1); (try clear hUc2); (try clear hUc3); (try clear hUc4); (try clear hUc5); (try clear hUf); obtain ⟨hPc0, hPc1, hPc2, hPc3, hPc4, hPc5, hPf⟩ := id hP; obtain ⟨hRc0, hRc1, hRc2, hRc3, hRc4, hRc5, hRf⟩ := id hR; obtain ⟨hTc0, hTc1, hTc2, hTc3, hTc4, hTf⟩ := id hT; obtain ⟨hQc0, hQc1, hQc2, hQc3, hQc4, hQc5, hQf⟩ := id hQ; obtain ⟨hUc0, hUc1, hUc2, hUc3, hUc4, hUc5, hUf⟩ := id hU) | (go_at_call 71; refine (HS.out _ (below_step hbb (by go_grown))).mono ?_; rintro e w92 ⟨rfl, hb⟩; have hzz := hb.size; (try simp only [World.size_drew] at hzz); (try simp only [World.size_alloc] at hzz); (try simp only [World.size_drew] at hzz); (try simp only [World.size_alloc] at hzz); have hlR := hR.lt; have hb9 := below_from hbb (by go_grown) hb; replace hP := hP.carry hb9; replace hR := hR.carry hb9; replace hT := hT.carry hb9; replace hQ := hQ.carry hb9; replace hU := hU.carry hb9; (try replace HE := Lib.hid (HE.out.carry hb9)); (try replace HX := Lib.hid (HX.out.carry hb9)); (try replace HU := Lib.hid (HU.out.carry hb9)); (try replace HJ := Lib.hid (HJ.out.carry hb9)); (try replace HY := Lib.hid (HY.out.carry hb9)); replace hbb := below_step hbb hb9; clear hb hb9 hlR; (try clear hPc0); (try clear hPc1); (try clear hPc2); (try clear hPc3); (try clear hPc4); (try clear hPc5); (try clear hPf); (try clear hRc0); (try clear hRc1); (try clear hRc2); (try clear hRc3); (try clear hRc4); (try clear hRc5); (try clear hRf); (try clear hTc0); (try clear hTc1); (try clear hTc2); (try clear hTc3); (try clear hTc4); (try clear hTf); (try clear hQc0); (try clear hQc1); (try clear hQc2); (try clear hQc3); (try clear hQc4); (try clear hQc5); (try clear hQf); (try clear hUc0); (try clear hUc1); (try clear hUc2); (try clear hUc3); (try clear hUc4); (try clear hUc5); (try clear hUf); obtain ⟨hPc0, hPc1, hPc2, hPc3, hPc4, hPc5, hPf⟩ := id hP; obtain ⟨hRc0, hRc1, hRc2, hRc3, hRc4, hRc5, hRf⟩ := id hR; obtain ⟨hTc0, hTc1, hTc2, hTc3, hTc4, hTf⟩ := id hT; obtain ⟨hQc0, hQc1, hQc2, hQc3, hQc4, hQc5, hQf⟩ := id hQ; obtain ⟨hUc0, hUc1, hUc2, hUc3, hUc4, hUc5, hUf⟩ := id hU))
 all_goals (replace HY := Lib.hid (by have := HY.out; simpa [ndS, bs] using this : Lies (ndFlat (ndS 32 ⟨kd, ln, cl, nm, tx⟩ [] 0 (v ++ y))) g9 _))
 all_goals (obtain ⟨V, hV, nR, hO⟩ := put_ex hR (.slice (some ⟨tb, to, none⟩) n tc) I4 d4 c4 l4 k4; (first | (rw [put_eq, hV.out]) | (go_wp2_with (first | (rw [put_eq, hV.out])))); replace hbb := hO.below hbb (by omega); replace HY := Lib.hid (HY.out.oth hO (by omega)); clear hO; (try clear hRc0 hRc1 hRc2 hRc3 hRc4 hRc5 hRf); obtain ⟨hRc0, hRc1, hRc2, hRc3, hRc4, hRc5, hRf⟩ := id nR; go_wp2_with fail; refine bodyPost_ret (v := .tuple #[.slice (some ⟨g9, 0, none⟩) (v.length + y.length + 1) cap9, pQ tb to n tc I4 d4 c4 l4 k4]) (by simp [results, Tryz.results70, go_sem, hRc0, hRc1, hRc2, hRc3, hRc4, hRc5]) rfl ⟨g9, cap9, by simp [ndS], HY.out, by omega, (by first | exact hbb | exact below_step hbb (by go_grown))⟩)

end Go.Proofs.YtbknflaooemigaaGreat
