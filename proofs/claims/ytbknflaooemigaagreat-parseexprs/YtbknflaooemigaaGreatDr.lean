/-
 The document's atom answers as said, if what it calls does. Conditions: those calls' contracts.
-/
import Derived.Test.YtbknflaooemigaaGreatDk
namespace Go.Proofs.YtbknflaooemigaaGreat
open Go.RowKit Go.Sort
set_option linter.unusedVariables false

set_option maxRecDepth 100000 in
set_option maxHeartbeats 16000000 in
theorem atom_mkname {w : World} {tb to n tc : Nat} {T : List Tok} {s : S} (h : Ev w tb to n T s.I) {kd ln cl : Nat} {nm : Int} {tx : List UInt8} (ht : nowS T s = ⟨kd, ln, cl, nm, tx⟩) (hc : s.c = 0) (hk : kd ≠ 3 ∧ kd ≠ 4 ∧ kd ≠ 5 ∧ kd ≠ 1) (a1 : isS T s [116, 114, 117, 101] = false) (a2 : isS T s [102, 97, 108, 115, 101] = false) (a3 : isS T s [110, 105, 108] = false) (a4 : isS T s [40] = false) (a5 : isS T s [109, 97, 107, 101] = true) (b1 : isS T (oneS T s) [91] = false) {kd2 ln2 cl2 : Nat} {nm2 : Int} {tx2 : List UInt8} (ht2 : nowS T (oneS T s) = ⟨kd2, ln2, cl2, nm2, tx2⟩) {s2 s3 s4 : S} (hs2 : wordS T (oneS T s) 2 = s2) (hs3 : opensS T s2 [40] = s3) (hs4 : shutsS T s3 [41] = s4) (hi2 : s2.I < n) (hi3 : s3.I < n) : Calls Tryz.prog 70 #[pV tb to n tc s] w (RetP w tb to n tc (ndS 32 ⟨kd, ln, cl, nm, tx⟩ [] 0 (ndS 19 ⟨kd2, ln2, cl2, nm2, tx2⟩ tx2 0 []), s4)) := by
 obtain ⟨I, d, c, l, k⟩ := s
 have hn1 := h.ln
 have hn2 := h.en.tn
 have hI0 : I < n := h.lt
 have HV := Lib.hid h
 have HN := Lib.hid (fun w' (hb : Below w.heap.size w w') => now_p (tc := tc) (s := ⟨I, d, c, l, k⟩) (HV.out.carry hb) ht)
 obtain ⟨X, hX0⟩ : ∃ X, bs tx = X := ⟨_, rfl⟩
 rw [hX0] at HN
 replace hX0 := Lib.hid hX0
 clear h
 have HB := Lib.hid (fun w' (hb : Below w.heap.size w w') => bad_p (w := w') (tb := tb) (to := to) (n := n) (tc := tc) (s := ⟨I, d, c, l, k⟩) false (by simpa using hc))
 replace hc := Lib.hid hc
 obtain ⟨J, hJ⟩ : ∃ J, min (I + 1) (T.length - 1) = J := ⟨_, rfl⟩
 have hone' : oneS T ⟨I, d, c, l, k⟩ = ⟨J, d, c, l, k⟩ := by unfold oneS; rw [hJ]
 have hone := Lib.hid hone'
 have hJn : J < n := by omega
 have hJz : min ((I : Int) + 1) ((n : Int) - 1) = (J : Int) := by omega
 clear hJ
 have hk3 : ((kd : Int) == 3) = false := by rw [beq_eq_false_iff_ne]; omega
 have hk4 : ((kd : Int) == 4) = false := by rw [beq_eq_false_iff_ne]; omega
 have hk5 : ((kd : Int) == 5) = false := by rw [beq_eq_false_iff_ne]; omega
 have hk1 : ((kd : Int) == 1) = false := by rw [beq_eq_false_iff_ne]; omega
 clear hk
 have Ha1 := Lib.hid (fun w' (hb : Below w.heap.size w w') => is_p (s := ⟨I, d, c, l, k⟩) (tc := tc) (HV.out.carry hb) { data := #[116, 114, 117, 101] } [116, 114, 117, 101] (by rw [ByteArray.toList_eq]) false a1)
 have Ha2 := Lib.hid (fun w' (hb : Below w.heap.size w w') => is_p (s := ⟨I, d, c, l, k⟩) (tc := tc) (HV.out.carry hb) { data := #[102, 97, 108, 115, 101] } [102, 97, 108, 115, 101] (by rw [ByteArray.toList_eq]) false a2)
 have Ha3 := Lib.hid (fun w' (hb : Below w.heap.size w w') => is_p (s := ⟨I, d, c, l, k⟩) (tc := tc) (HV.out.carry hb) { data := #[110, 105, 108] } [110, 105, 108] (by rw [ByteArray.toList_eq]) false a3)
 have Ha4 := Lib.hid (fun w' (hb : Below w.heap.size w w') => is_p (s := ⟨I, d, c, l, k⟩) (tc := tc) (HV.out.carry hb) { data := #[40] } [40] (by rw [ByteArray.toList_eq]) false a4)
 have Ha5 := Lib.hid (fun w' (hb : Below w.heap.size w w') => is_p (s := ⟨I, d, c, l, k⟩) (tc := tc) (HV.out.carry hb) { data := #[109, 97, 107, 101] } [109, 97, 107, 101] (by rw [ByteArray.toList_eq]) true a5)
 clear a1 a2 a3 a4 a5
 rw [hone'] at b1 ht2 hs2
 have Hb1 := Lib.hid (fun w' (hb : Below w.heap.size w w') => is_p (s := ⟨J, d, c, l, k⟩) (tc := tc) ((HV.out.at hJn).carry hb) { data := #[91] } [91] (by rw [ByteArray.toList_eq]) false b1)
 obtain ⟨I2, d2, c2, l2, k2⟩ := s2
 obtain ⟨I3, d3, c3, l3, k3⟩ := s3
 obtain ⟨I4, d4, c4, l4, k4⟩ := s4
 simp only at hi2 hi3
 have HW := Lib.hid (fun w' (hb : Below w.heap.size w w') => word_p (tc := tc) (s := ⟨J, d, c, l, k⟩) ((HV.out.at hJn).carry hb) 2 ht2 _ hs2)
 obtain ⟨X2, hX2⟩ : ∃ X, bs tx2 = X := ⟨_, rfl⟩
 rw [hX2] at HW
 replace hX2 := Lib.hid hX2
 have HO := Lib.hid (fun w' (hb : Below w.heap.size w w') => opens_p (tc := tc) (s := ⟨I2, d2, c2, l2, k2⟩) ((HV.out.at hi2).carry hb) { data := #[40] } [40] (by rw [ByteArray.toList_eq]) _ hs3)
 have HS := Lib.hid (fun w' (hb : Below w.heap.size w w') => shuts_p (tc := tc) (s := ⟨I3, d3, c3, l3, k3⟩) ((HV.out.at hi3).carry hb) { data := #[41] } [41] (by rw [ByteArray.toList_eq]) _ hs4)
 clear hone' b1 hs2 hs3 hs4 ht2
 clear ht
 go_enter Tryz.func70, Tryz.ntmps70
 go_wp2_with fail
 refine (HN.out _ (two_made w (.slice (some ⟨tb, to, none⟩) n tc) I d c l k).2.2).mono ?_
 rintro e w1 ⟨rfl, hb⟩
 have hbb : Below w.heap.size w w1 := below_step (two_made w (.slice (some ⟨tb, to, none⟩) n tc) I d c l k).2.2 hb
 have hP := (two_made w (.slice (some ⟨tb, to, none⟩) n tc) I d c l k).1.carry hb
 have hR := (two_made w (.slice (some ⟨tb, to, none⟩) n tc) I d c l k).2.1.carry hb
 clear hb
 have lhP := hP.lt
 have lhR := hR.lt
 obtain ⟨hPc0, hPc1, hPc2, hPc3, hPc4, hPc5, hPf⟩ := id hP
 obtain ⟨hRc0, hRc1, hRc2, hRc3, hRc4, hRc5, hRf⟩ := id hR
 go_wp2_with fail
 refine (HB.out _ (below_step (below_step hbb (below_alloc _ (.cells #[.int .u8 kd, .int .i64 ln, .int .i64 cl, .int .i64 nm, .string X] 38))) (below_alloc _ (.cells #[] 32)))).mono ?_
 rintro e w2 ⟨rfl, hb⟩
 clear hPc0 hPc1 hPc2 hPc3 hPc4 hPc5 hPf hRc0 hRc1 hRc2 hRc3 hRc4 hRc5 hRf
 have hb2 := below_from hbb (by go_grown) hb
 have hT := ((Tx.made w1 kd ln cl nm X).carry (below_alloc _ (.cells #[] 32))).carry hb
 have HE : Hid (Lies (ndFlat []) (w1.heap.size + 1) w2) := Lib.hid (lies_nil (by have := hb.size; simp only [World.size_alloc] at this; omega))
 have hz2 := hb.size
 simp only [World.size_alloc] at hz2
 replace hP := hP.carry hb2
 replace hR := hR.carry hb2
 replace hbb := below_step hbb hb2
 clear hb hb2
 have lhP := hP.lt
 have lhR := hR.lt
 have lhT := hT.lt
 obtain ⟨hPc0, hPc1, hPc2, hPc3, hPc4, hPc5, hPf⟩ := id hP
 obtain ⟨hRc0, hRc1, hRc2, hRc3, hRc4, hRc5, hRf⟩ := id hR
 obtain ⟨hTc0, hTc1, hTc2, hTc3, hTc4, hTf⟩ := id hT
 go_wp2_with fail
 refine (Ha1.out _ (below_step hbb (below_alloc _ _))).mono ?_
 rintro e w3 ⟨rfl, hb⟩
 clear hPc0 hPc1 hPc2 hPc3 hPc4 hPc5 hPf hRc0 hRc1 hRc2 hRc3 hRc4 hRc5 hRf hTc0 hTc1 hTc2 hTc3 hTc4 hTf
 replace hP := (hP.carry (below_alloc _ _)).carry hb
 replace hR := (hR.carry (below_alloc _ _)).carry hb
 replace hT := (hT.carry (below_alloc _ _)).carry hb
 replace HE := Lib.hid ((HE.out.carry (below_alloc _ _)).carry hb)
 have hQ := (Bx.made w2 (.slice (some ⟨tb, to, none⟩) n tc) J d c l k).carry hb
 replace hbb := below_step (below_step hbb (below_alloc _ _)) hb
 have hz3 := hb.size
 simp only [World.size_alloc] at hz3
 clear hb
 have lhP := hP.lt
 have lhR := hR.lt
 have lhT := hT.lt
 have lhQ := hQ.lt
 have hQz : w2.heap.size < w3.heap.size := hQ.lt
 obtain ⟨hPc0, hPc1, hPc2, hPc3, hPc4, hPc5, hPf⟩ := id hP
 obtain ⟨hRc0, hRc1, hRc2, hRc3, hRc4, hRc5, hRf⟩ := id hR
 obtain ⟨hTc0, hTc1, hTc2, hTc3, hTc4, hTf⟩ := id hT
 obtain ⟨hQc0, hQc1, hQc2, hQc3, hQc4, hQc5, hQf⟩ := id hQ
 go_wp2_with fail
 refine (Ha2.out _ (hbb)).mono ?_
 rintro e w4 ⟨rfl, hb⟩
 clear hPc0 hPc1 hPc2 hPc3 hPc4 hPc5 hPf hRc0 hRc1 hRc2 hRc3 hRc4 hRc5 hRf hTc0 hTc1 hTc2 hTc3 hTc4 hTf hQc0 hQc1 hQc2 hQc3 hQc4 hQc5 hQf
 replace hP := hP.carry hb
 replace hR := hR.carry hb
 replace hT := hT.carry hb
 replace hQ := hQ.carry hb
 replace HE := Lib.hid (HE.out.carry hb)
 replace hbb := below_step hbb hb
 have hz4 := hb.size
 clear hb
 have lhP := hP.lt
 have lhR := hR.lt
 have lhT := hT.lt
 have lhQ := hQ.lt
 obtain ⟨hPc0, hPc1, hPc2, hPc3, hPc4, hPc5, hPf⟩ := id hP
 obtain ⟨hRc0, hRc1, hRc2, hRc3, hRc4, hRc5, hRf⟩ := id hR
 obtain ⟨hTc0, hTc1, hTc2, hTc3, hTc4, hTf⟩ := id hT
 obtain ⟨hQc0, hQc1, hQc2, hQc3, hQc4, hQc5, hQf⟩ := id hQ
 go_wp2_with fail
 refine (Ha3.out _ (hbb)).mono ?_
 rintro e w5 ⟨rfl, hb⟩
 clear hPc0 hPc1 hPc2 hPc3 hPc4 hPc5 hPf hRc0 hRc1 hRc2 hRc3 hRc4 hRc5 hRf hTc0 hTc1 hTc2 hTc3 hTc4 hTf hQc0 hQc1 hQc2 hQc3 hQc4 hQc5 hQf
 replace hP := hP.carry hb
 replace hR := hR.carry hb
 replace hT := hT.carry hb
 replace hQ := hQ.carry hb
 replace HE := Lib.hid (HE.out.carry hb)
 replace hbb := below_step hbb hb
 have hz5 := hb.size
 clear hb
 have lhP := hP.lt
 have lhR := hR.lt
 have lhT := hT.lt
 have lhQ := hQ.lt
 obtain ⟨hPc0, hPc1, hPc2, hPc3, hPc4, hPc5, hPf⟩ := id hP
 obtain ⟨hRc0, hRc1, hRc2, hRc3, hRc4, hRc5, hRf⟩ := id hR
 obtain ⟨hTc0, hTc1, hTc2, hTc3, hTc4, hTf⟩ := id hT
 obtain ⟨hQc0, hQc1, hQc2, hQc3, hQc4, hQc5, hQf⟩ := id hQ
 go_wp2_with fail
 refine (Ha4.out _ (hbb)).mono ?_
 rintro e w6 ⟨rfl, hb⟩
 clear hPc0 hPc1 hPc2 hPc3 hPc4 hPc5 hPf hRc0 hRc1 hRc2 hRc3 hRc4 hRc5 hRf hTc0 hTc1 hTc2 hTc3 hTc4 hTf hQc0 hQc1 hQc2 hQc3 hQc4 hQc5 hQf
 replace hP := hP.carry hb
 replace hR := hR.carry hb
 replace hT := hT.carry hb
 replace hQ := hQ.carry hb
 replace HE := Lib.hid (HE.out.carry hb)
 replace hbb := below_step hbb hb
 have hz6 := hb.size
 clear hb
 have lhP := hP.lt
 have lhR := hR.lt
 have lhT := hT.lt
 have lhQ := hQ.lt
 obtain ⟨hPc0, hPc1, hPc2, hPc3, hPc4, hPc5, hPf⟩ := id hP
 obtain ⟨hRc0, hRc1, hRc2, hRc3, hRc4, hRc5, hRf⟩ := id hR
 obtain ⟨hTc0, hTc1, hTc2, hTc3, hTc4, hTf⟩ := id hT
 obtain ⟨hQc0, hQc1, hQc2, hQc3, hQc4, hQc5, hQf⟩ := id hQ
 go_wp2_with fail
 refine (Ha5.out _ (hbb)).mono ?_
 rintro e w7 ⟨rfl, hb⟩
 clear hPc0 hPc1 hPc2 hPc3 hPc4 hPc5 hPf hRc0 hRc1 hRc2 hRc3 hRc4 hRc5 hRf hTc0 hTc1 hTc2 hTc3 hTc4 hTf hQc0 hQc1 hQc2 hQc3 hQc4 hQc5 hQf
 replace hP := hP.carry hb
 replace hR := hR.carry hb
 replace hT := hT.carry hb
 replace hQ := hQ.carry hb
 replace HE := Lib.hid (HE.out.carry hb)
 replace hbb := below_step hbb hb
 have hz7 := hb.size
 clear hb
 have lhP := hP.lt
 have lhR := hR.lt
 have lhT := hT.lt
 have lhQ := hQ.lt
 obtain ⟨hPc0, hPc1, hPc2, hPc3, hPc4, hPc5, hPf⟩ := id hP
 obtain ⟨hRc0, hRc1, hRc2, hRc3, hRc4, hRc5, hRf⟩ := id hR
 obtain ⟨hTc0, hTc1, hTc2, hTc3, hTc4, hTf⟩ := id hT
 obtain ⟨hQc0, hQc1, hQc2, hQc3, hQc4, hQc5, hQf⟩ := id hQ
 go_wp2_with fail
 refine (Hb1.out _ (hbb)).mono ?_
 rintro e w8 ⟨rfl, hb⟩
 clear hPc0 hPc1 hPc2 hPc3 hPc4 hPc5 hPf hRc0 hRc1 hRc2 hRc3 hRc4 hRc5 hRf hTc0 hTc1 hTc2 hTc3 hTc4 hTf hQc0 hQc1 hQc2 hQc3 hQc4 hQc5 hQf
 replace hP := hP.carry hb
 replace hR := hR.carry hb
 replace hT := hT.carry hb
 replace hQ := hQ.carry hb
 replace HE := Lib.hid (HE.out.carry hb)
 replace hbb := below_step hbb hb
 have hz8 := hb.size
 clear hb
 have lhP := hP.lt
 have lhR := hR.lt
 have lhT := hT.lt
 have lhQ := hQ.lt
 obtain ⟨hPc0, hPc1, hPc2, hPc3, hPc4, hPc5, hPf⟩ := id hP
 obtain ⟨hRc0, hRc1, hRc2, hRc3, hRc4, hRc5, hRf⟩ := id hR
 obtain ⟨hTc0, hTc1, hTc2, hTc3, hTc4, hTf⟩ := id hT
 obtain ⟨hQc0, hQc1, hQc2, hQc3, hQc4, hQc5, hQf⟩ := id hQ
 go_wp2_with fail
 refine (Ha5.out _ (hbb)).mono ?_
 rintro e w9 ⟨rfl, hb⟩
 clear hPc0 hPc1 hPc2 hPc3 hPc4 hPc5 hPf hRc0 hRc1 hRc2 hRc3 hRc4 hRc5 hRf hTc0 hTc1 hTc2 hTc3 hTc4 hTf hQc0 hQc1 hQc2 hQc3 hQc4 hQc5 hQf
 replace hP := hP.carry hb
 replace hR := hR.carry hb
 replace hT := hT.carry hb
 replace hQ := hQ.carry hb
 replace HE := Lib.hid (HE.out.carry hb)
 replace hbb := below_step hbb hb
 have hz9 := hb.size
 clear hb
 have lhP := hP.lt
 have lhR := hR.lt
 have lhT := hT.lt
 have lhQ := hQ.lt
 obtain ⟨hPc0, hPc1, hPc2, hPc3, hPc4, hPc5, hPf⟩ := id hP
 obtain ⟨hRc0, hRc1, hRc2, hRc3, hRc4, hRc5, hRf⟩ := id hR
 obtain ⟨hTc0, hTc1, hTc2, hTc3, hTc4, hTf⟩ := id hT
 obtain ⟨hQc0, hQc1, hQc2, hQc3, hQc4, hQc5, hQf⟩ := id hQ
 go_wp2_with fail
 refine (HW.out _ (hbb)).mono ?_
 rintro e w10 ⟨rfl, hb⟩
 clear hPc0 hPc1 hPc2 hPc3 hPc4 hPc5 hPf hRc0 hRc1 hRc2 hRc3 hRc4 hRc5 hRf hTc0 hTc1 hTc2 hTc3 hTc4 hTf hQc0 hQc1 hQc2 hQc3 hQc4 hQc5 hQf
 replace hP := hP.carry hb
 replace hR := hR.carry hb
 replace hT := hT.carry hb
 replace hQ := hQ.carry hb
 replace HE := Lib.hid (HE.out.carry hb)
 replace hbb := below_step hbb hb
 have hz10 := hb.size
 clear hb
 have lhP := hP.lt
 have lhR := hR.lt
 have lhT := hT.lt
 have lhQ := hQ.lt
 obtain ⟨hPc0, hPc1, hPc2, hPc3, hPc4, hPc5, hPf⟩ := id hP
 obtain ⟨hRc0, hRc1, hRc2, hRc3, hRc4, hRc5, hRf⟩ := id hR
 obtain ⟨hTc0, hTc1, hTc2, hTc3, hTc4, hTf⟩ := id hT
 obtain ⟨hQc0, hQc1, hQc2, hQc3, hQc4, hQc5, hQf⟩ := id hQ
 go_wp2_with fail
 clear hPc0 hPc1 hPc2 hPc3 hPc4 hPc5 hPf hRc0 hRc1 hRc2 hRc3 hRc4 hRc5 hRf hTc0 hTc1 hTc2 hTc3 hTc4 hTf hQc0 hQc1 hQc2 hQc3 hQc4 hQc5 hQf
 obtain ⟨W, hW⟩ : ∃ W, W = ((w10.alloc (.cells #[.int .u8 kd2, .int .i64 ln2, .int .i64 cl2, .int .i64 nm2, .string X2] 38)).alloc (.cells #[(.slice (some ⟨tb, to, none⟩) n tc), .int .i64 I2, .int .i64 d2, .int .i64 c2, .int .i64 l2, .int .i64 k2] 43)) := ⟨_, rfl⟩
 rw [← hW]
 have hbW : Below w10.heap.size w10 W := by rw [hW]; go_grown
 replace hbb := below_step hbb hbW
 replace hP := hP.carry hbW
 replace hR := hR.carry hbW
 replace hT := hT.carry hbW
 replace hQ := hQ.carry hbW
 replace HE := Lib.hid (HE.out.carry hbW)
 have hV : Tx W w10.heap.size kd2 ln2 cl2 nm2 X2 := by rw [hW]; exact ((Tx.made w10 kd2 ln2 cl2 nm2 X2).carry (below_alloc _ _))
 have hU : Bx W (w10.heap.size + 1) (.slice (some ⟨tb, to, none⟩) n tc) I2 d2 c2 l2 k2 := by rw [hW]; have z := (Bx.made (w10.alloc (.cells #[.int .u8 kd2, .int .i64 ln2, .int .i64 cl2, .int .i64 nm2, .string X2] 38)) (.slice (some ⟨tb, to, none⟩) n tc) I2 d2 c2 l2 k2); simpa only [World.size_alloc] using z
 clear hbW
 have hzW : W.heap.size = w10.heap.size + 1 + 1 := by rw [hW]; simp
 clear hW
 have lhP := hP.lt
 have lhR := hR.lt
 have lhT := hT.lt
 have lhQ := hQ.lt
 have lhV := hV.lt
 have lhU := hU.lt
 obtain ⟨hPc0, hPc1, hPc2, hPc3, hPc4, hPc5, hPf⟩ := id hP
 obtain ⟨hRc0, hRc1, hRc2, hRc3, hRc4, hRc5, hRf⟩ := id hR
 obtain ⟨hTc0, hTc1, hTc2, hTc3, hTc4, hTf⟩ := id hT
 obtain ⟨hQc0, hQc1, hQc2, hQc3, hQc4, hQc5, hQf⟩ := id hQ
 obtain ⟨hVc0, hVc1, hVc2, hVc3, hVc4, hVf⟩ := id hV
 obtain ⟨hUc0, hUc1, hUc2, hUc3, hUc4, hUc5, hUf⟩ := id hU
 go_region_held3 (fun w' => w'.cell? ⟨w1.heap.size, 0, none⟩ = some (.int .u8 kd) ∧ w'.cell? ⟨w1.heap.size, 1, none⟩ = some (.int .i64 ln) ∧ w'.cell? ⟨w1.heap.size, 2, none⟩ = some (.int .i64 cl) ∧ w'.cell? ⟨w1.heap.size, 3, none⟩ = some (.int .i64 nm) ∧ w'.cell? ⟨w1.heap.size, 4, none⟩ = some (.string X) ∧ w'.cell? ⟨w10.heap.size, 0, none⟩ = some (.int .u8 kd2) ∧ w'.cell? ⟨w10.heap.size, 1, none⟩ = some (.int .i64 ln2) ∧ w'.cell? ⟨w10.heap.size, 2, none⟩ = some (.int .i64 cl2) ∧ w'.cell? ⟨w10.heap.size, 3, none⟩ = some (.int .i64 nm2) ∧ w'.cell? ⟨w10.heap.size, 4, none⟩ = some (.string X2) ∧ w'.cell? ⟨(w10.heap.size + 1), 0, none⟩ = some (.slice (some ⟨tb, to, none⟩) n tc) ∧ w'.cell? ⟨(w10.heap.size + 1), 1, none⟩ = some (.int .i64 I2) ∧ w'.cell? ⟨(w10.heap.size + 1), 2, none⟩ = some (.int .i64 d2) ∧ w'.cell? ⟨(w10.heap.size + 1), 3, none⟩ = some (.int .i64 c2) ∧ w'.cell? ⟨(w10.heap.size + 1), 4, none⟩ = some (.int .i64 l2) ∧ w'.cell? ⟨(w10.heap.size + 1), 5, none⟩ = some (.int .i64 k2)) (first | (rw [put_eq]; refine put_gen (G := fun w' => w'.cell? ⟨w1.heap.size, 0, none⟩ = some (.int .u8 kd) ∧ w'.cell? ⟨w1.heap.size, 1, none⟩ = some (.int .i64 ln) ∧ w'.cell? ⟨w1.heap.size, 2, none⟩ = some (.int .i64 cl) ∧ w'.cell? ⟨w1.heap.size, 3, none⟩ = some (.int .i64 nm) ∧ w'.cell? ⟨w1.heap.size, 4, none⟩ = some (.string X) ∧ w'.cell? ⟨w10.heap.size, 0, none⟩ = some (.int .u8 kd2) ∧ w'.cell? ⟨w10.heap.size, 1, none⟩ = some (.int .i64 ln2) ∧ w'.cell? ⟨w10.heap.size, 2, none⟩ = some (.int .i64 cl2) ∧ w'.cell? ⟨w10.heap.size, 3, none⟩ = some (.int .i64 nm2) ∧ w'.cell? ⟨w10.heap.size, 4, none⟩ = some (.string X2) ∧ w'.cell? ⟨(w10.heap.size + 1), 0, none⟩ = some (.slice (some ⟨tb, to, none⟩) n tc) ∧ w'.cell? ⟨(w10.heap.size + 1), 1, none⟩ = some (.int .i64 I2) ∧ w'.cell? ⟨(w10.heap.size + 1), 2, none⟩ = some (.int .i64 d2) ∧ w'.cell? ⟨(w10.heap.size + 1), 3, none⟩ = some (.int .i64 c2) ∧ w'.cell? ⟨(w10.heap.size + 1), 4, none⟩ = some (.int .i64 l2) ∧ w'.cell? ⟨(w10.heap.size + 1), 5, none⟩ = some (.int .i64 k2)) hR ?_; intro V _ hO; exact ⟨(hO.cell (by omega)).trans hT.c0, (hO.cell (by omega)).trans hT.c1, (hO.cell (by omega)).trans hT.c2, (hO.cell (by omega)).trans hT.c3, (hO.cell (by omega)).trans hT.c4, (hO.cell (by omega)).trans hV.c0, (hO.cell (by omega)).trans hV.c1, (hO.cell (by omega)).trans hV.c2, (hO.cell (by omega)).trans hV.c3, (hO.cell (by omega)).trans hV.c4, (hO.cell (by omega)).trans hU.c0, (hO.cell (by omega)).trans hU.c1, (hO.cell (by omega)).trans hU.c2, (hO.cell (by omega)).trans hU.c3, (hO.cell (by omega)).trans hU.c4, (hO.cell (by omega)).trans hU.c5⟩) | go_keep) (first | (go_at_call 31; refine (node_q (kk := 32) (n := 1) rfl (Lib.hid (HJ.out.carry (by go_grown))) (by omega)).mono ?_; rintro e w90 ⟨g9, cap9, rfl, HY, lo, hb⟩; have hzz := hb.size; (try simp only [World.size_drew] at hzz); (try simp only [World.size_alloc] at hzz); (try simp only [World.size_drew] at hzz); (try simp only [World.size_alloc] at hzz); have hlR := hR.lt; replace HY := Lib.hid HY; have loHY : w.heap.size + 1 + 1 ≤ g9 := Nat.le_trans (by (try simp only [World.size_drew]); (try simp only [World.size_alloc]); (try simp only [World.size_drew]); (try simp only [World.size_alloc]); omega) lo; clear lo; have hb9 := below_from hbb (by go_grown) hb; replace hP := hP.carry hb9; replace hR := hR.carry hb9; replace hT := hT.carry hb9; replace hQ := hQ.carry hb9; replace hV := hV.carry hb9; replace hU := hU.carry hb9; (try replace HE := Lib.hid (HE.out.carry hb9)); (try replace HJ := Lib.hid (HJ.out.carry hb9)); replace hbb := below_step hbb hb9; clear hb hb9 hlR; (try clear hPc0); (try clear hPc1); (try clear hPc2); (try clear hPc3); (try clear hPc4); (try clear hPc5); (try clear hPf); (try clear hRc0); (try clear hRc1); (try clear hRc2); (try clear hRc3); (try clear hRc4); (try clear hRc5); (try clear hRf); (try clear hTc0); (try clear hTc1); (try clear hTc2); (try clear hTc3); (try clear hTc4); (try clear hTf); (try clear hQc0); (try clear hQc1); (try clear hQc2); (try clear hQc3); (try clear hQc4); (try clear hQc5); (try clear hQf); (try clear hVc0); (try clear hVc1); (try clear hVc2); (try clear hVc3); (try clear hVc4); (try clear hVf); (try clear hUc0); (try clear hUc1); (try clear hUc2); (try clear hUc3); (try clear hUc4); (try clear hUc5); (try clear hUf); obtain ⟨hPc0, hPc1, hPc2, hPc3, hPc4, hPc5, hPf⟩ := id hP; obtain ⟨hRc0, hRc1, hRc2, hRc3, hRc4, hRc5, hRf⟩ := id hR; obtain ⟨hTc0, hTc1, hTc2, hTc3, hTc4, hTf⟩ := id hT; obtain ⟨hQc0, hQc1, hQc2, hQc3, hQc4, hQc5, hQf⟩ := id hQ; obtain ⟨hVc0, hVc1, hVc2, hVc3, hVc4, hVf⟩ := id hV; obtain ⟨hUc0, hUc1, hUc2, hUc3, hUc4, hUc5, hUf⟩ := id hU) | (go_at_call 31; refine (node_q (kk := 19) (l := []) (n := 0) rfl (Lib.hid (HE.out.carry (by go_grown))) (by omega)).mono ?_; rintro e w91 ⟨g8, cap8, rfl, HJ, lo, hb⟩; have hzz := hb.size; (try simp only [World.size_drew] at hzz); (try simp only [World.size_alloc] at hzz); (try simp only [World.size_drew] at hzz); (try simp only [World.size_alloc] at hzz); have hlR := hR.lt; replace HJ := Lib.hid HJ; have loHJ : w.heap.size + 1 + 1 ≤ g8 := Nat.le_trans (by (try simp only [World.size_drew]); (try simp only [World.size_alloc]); (try simp only [World.size_drew]); (try simp only [World.size_alloc]); omega) lo; clear lo; have hb9 := below_from hbb (by go_grown) hb; replace hP := hP.carry hb9; replace hR := hR.carry hb9; replace hT := hT.carry hb9; replace hQ := hQ.carry hb9; replace hV := hV.carry hb9; replace hU := hU.carry hb9; (try replace HE := Lib.hid (HE.out.carry hb9)); (try replace HY := Lib.hid (HY.out.carry hb9)); replace hbb := below_step hbb hb9; clear hb hb9 hlR; (try clear hPc0); (try clear hPc1); (try clear hPc2); (try clear hPc3); (try clear hPc4); (try clear hPc5); (try clear hPf); (try clear hRc0); (try clear hRc1); (try clear hRc2); (try clear hRc3); (try clear hRc4); (try clear hRc5); (try clear hRf); (try clear hTc0); (try clear hTc1); (try clear hTc2); (try clear hTc3); (try clear hTc4); (try clear hTf); (try clear hQc0); (try clear hQc1); (try clear hQc2); (try clear hQc3); (try clear hQc4); (try clear hQc5); (try clear hQf); (try clear hVc0); (try clear hVc1); (try clear hVc2); (try clear hVc3); (try clear hVc4); (try clear hVf); (try clear hUc0); (try clear hUc1); (try clear hUc2); (try clear hUc3); (try clear hUc4); (try clear hUc5); (try clear hUf); obtain ⟨hPc0, hPc1, hPc2, hPc3, hPc4, hPc5, hPf⟩ := id hP; obtain ⟨hRc0, hRc1, hRc2, hRc3, hRc4, hRc5, hRf⟩ := id hR; obtain ⟨hTc0, hTc1, hTc2, hTc3, hTc4, hTf⟩ := id hT; obtain ⟨hQc0, hQc1, hQc2, hQc3, hQc4, hQc5, hQf⟩ := id hQ; obtain ⟨hVc0, hVc1, hVc2, hVc3, hVc4, hVf⟩ := id hV; obtain ⟨hUc0, hUc1, hUc2, hUc3, hUc4, hUc5, hUf⟩ := id hU) | (go_at_call 52; refine (HO.out _ (below_step hbb (by go_grown))).mono ?_; rintro e w92 ⟨rfl, hb⟩; have hzz := hb.size; (try simp only [World.size_drew] at hzz); (try simp only [World.size_alloc] at hzz); (try simp only [World.size_drew] at hzz); (try simp only [World.size_alloc] at hzz); have hlR := hR.lt; have hb9 := below_from hbb (by go_grown) hb; replace hP := hP.carry hb9; replace hR := hR.carry hb9; replace hT := hT.carry hb9; replace hQ := hQ.carry hb9; replace hV := hV.carry hb9; replace hU := hU.carry hb9; (try replace HE := Lib.hid (HE.out.carry hb9)); (try replace HJ := Lib.hid (HJ.out.carry hb9)); (try replace HY := Lib.hid (HY.out.carry hb9)); replace hbb := below_step hbb hb9; clear hb hb9 hlR; (try clear hPc0); (try clear hPc1); (try clear hPc2); (try clear hPc3); (try clear hPc4); (try clear hPc5); (try clear hPf); (try clear hRc0); (try clear hRc1); (try clear hRc2); (try clear hRc3); (try clear hRc4); (try clear hRc5); (try clear hRf); (try clear hTc0); (try clear hTc1); (try clear hTc2); (try clear hTc3); (try clear hTc4); (try clear hTf); (try clear hQc0); (try clear hQc1); (try clear hQc2); (try clear hQc3); (try clear hQc4); (try clear hQc5); (try clear hQf); (try clear hVc0); (try clear hVc1); (try clear hVc2); (try clear hVc3); (try clear hVc4); (try clear hVf); (try clear hUc0); (try clear hUc1); (try clear hUc2); (try clear hUc3); (try clear hUc4); (try clear hUc5); (try clear hUf); obtain ⟨hPc0, hPc1, hPc2, hPc3, hPc4, hPc5, hPf⟩ := id hP; obtain ⟨hRc0, hRc1, hRc2, hRc3, hRc4, hRc5, hRf⟩ := id hR; obtain ⟨hTc0, hTc1, hTc2, hTc3, hTc4, hTf⟩ := id hT; obtain ⟨hQc0, hQc1, hQc2, hQc3, hQc4, hQc5, hQf⟩ := id hQ; obtain ⟨hVc0, hVc1, hVc2, hVc3, hVc4, hVf⟩ := id hV; obtain ⟨hUc0, hUc1, hUc2, hUc3, hUc4, hUc5, hUf⟩ := id hU) | (go_at_call 71; refine (HS.out _ (below_step hbb (by go_grown))).mono ?_; rintro e w93 ⟨rfl, hb⟩; have hzz := hb.size; (try simp only [World.size_drew] at hzz); (try simp only [World.size_alloc] at hzz); (try simp only [World.size_drew] at hzz); (try simp only [World.size_alloc] at hzz); have hlR := hR.lt; have hb9 := below_from hbb (by go_grown) hb; replace hP := hP.carry hb9; replace hR := hR.carry hb9; replace hT := hT.carry hb9; replace hQ := hQ.carry hb9; replace hV := hV.carry hb9; replace hU := hU.carry hb9; (try replace HE := Lib.hid (HE.out.carry hb9)); (try replace HJ := Lib.hid (HJ.out.carry hb9)); (try replace HY := Lib.hid (HY.out.carry hb9)); replace hbb := below_step hbb hb9; clear hb hb9 hlR; (try clear hPc0); (try clear hPc1); (try clear hPc2); (try clear hPc3); (try clear hPc4); (try clear hPc5); (try clear hPf); (try clear hRc0); (try clear hRc1); (try clear hRc2); (try clear hRc3); (try clear hRc4); (try clear hRc5); (try clear hRf); (try clear hTc0); (try clear hTc1); (try clear hTc2); (try clear hTc3); (try clear hTc4); (try clear hTf); (try clear hQc0); (try clear hQc1); (try clear hQc2); (try clear hQc3); (try clear hQc4); (try clear hQc5); (try clear hQf); (try clear hVc0); (try clear hVc1); (try clear hVc2); (try clear hVc3); (try clear hVc4); (try clear hVf); (try clear hUc0); (try clear hUc1); (try clear hUc2); (try clear hUc3); (try clear hUc4); (try clear hUc5); (try clear hUf); obtain ⟨hPc0, hPc1, hPc2, hPc3, hPc4, hPc5, hPf⟩ := id hP; obtain ⟨hRc0, hRc1, hRc2, hRc3, hRc4, hRc5, hRf⟩ := id hR; obtain ⟨hTc0, hTc1, hTc2, hTc3, hTc4, hTf⟩ := id hT; obtain ⟨hQc0, hQc1, hQc2, hQc3, hQc4, hQc5, hQf⟩ := id hQ; obtain ⟨hVc0, hVc1, hVc2, hVc3, hVc4, hVf⟩ := id hV; obtain ⟨hUc0, hUc1, hUc2, hUc3, hUc4, hUc5, hUf⟩ := id hU))
 all_goals (replace HY := Lib.hid (by have := HY.out; rw [← hX2.out] at this; exact this : Lies (ndFlat (ndS 32 ⟨kd, ln, cl, nm, tx⟩ [] 0 (ndS 19 ⟨kd2, ln2, cl2, nm2, tx2⟩ tx2 0 []))) g9 _))
 all_goals (obtain ⟨V, hV, nR, hO⟩ := put_ex hR (.slice (some ⟨tb, to, none⟩) n tc) I4 d4 c4 l4 k4; (first | (rw [put_eq, hV.out]) | (go_wp2_with (first | (rw [put_eq, hV.out])))); replace hbb := hO.below hbb (by omega); replace HY := Lib.hid (HY.out.oth hO (by omega)); clear hO; (try clear hRc0 hRc1 hRc2 hRc3 hRc4 hRc5 hRf); obtain ⟨hRc0, hRc1, hRc2, hRc3, hRc4, hRc5, hRf⟩ := id nR; go_wp2_with fail; refine bodyPost_ret (v := .tuple #[.slice (some ⟨g9, 0, none⟩) (1 + 1) cap9, pQ tb to n tc I4 d4 c4 l4 k4]) (by simp [results, Tryz.results70, go_sem, hRc0, hRc1, hRc2, hRc3, hRc4, hRc5]) rfl ⟨g9, cap9, rfl, HY.out, by omega, (by first | exact hbb | exact below_step hbb (by go_grown))⟩)

end Go.Proofs.YtbknflaooemigaaGreat
