/-
 The document's arguments answers as said, if what it calls does. Conditions: those calls' contracts.
-/
import Derived.Test.YtbknflaooemigaaGreatDj
namespace Go.Proofs.YtbknflaooemigaaGreat
open Go.RowKit Go.Sort
set_option linter.unusedVariables false

def ARel (w : World) (tb to n tc : Nat) (T : List Tok) (N : Nat) (E : S → Rs) (R : Rs) (v j : Value) (wr : World) : Prop :=
 ∃ (m jn : Nat) (all : List Nd) (I : Nat) (d c l k : Int), j = .int .i64 jn ∧ OwnN wr (w.heap.size + 1 + 1) v all ∧ isRow v ∧ Bx wr w.heap.size (.slice (some ⟨tb, to, none⟩) n tc) I d c l k ∧ Bx wr (w.heap.size + 1) (.slice none 0 0) 0 0 0 0 0 ∧ Below w.heap.size w wr ∧ AInv T N E R m jn all ⟨I, d, c, l, k⟩

set_option maxRecDepth 100000 in
set_option maxHeartbeats 10000000 in
theorem args_w {T : List Tok} {N : Nat} {E : S → Rs} (hE : Hid (Ends T)) (hB : Hid (Bd T N E)) (hPo : Hid (Pos T N E)) (hX : Hid (Dos T N 14 #[.int .i64 1] E)) {w : World} {tb to n tc : Nat} {s : S} (h : Ev w tb to n T s.I) (hf : Fit T N (opensS T s [40])) : Calls Tryz.prog 92 #[pV tb to n tc s] w (RetP w tb to n tc (argsS T E (N + 1) s)) := by
 obtain ⟨Ia, da, ca, la, ka⟩ := s
 obtain ⟨⟨I1, d1, c1, l1, k1⟩, hs1⟩ : ∃ q, opensS T ⟨Ia, da, ca, la, ka⟩ [40] = q := ⟨_, rfl⟩
 have HO := Lib.hid (fun w' (hb : Below w.heap.size w w') => opens_p (tc := tc) (s := ⟨Ia, da, ca, la, ka⟩) (h.carry hb) { data := #[40] } [40] (by rw [ByteArray.toList_eq]) _ hs1)
 have hn1 := h.ln
 have hn2 := h.en.tn
 have HV := Lib.hid h
 rw [hs1] at hf
 have hI1 : I1 < n := by have := hf.1; simp only at this; omega
 obtain ⟨R0, hR0⟩ : ∃ R, argsL T E (N + 1) 0 [] ⟨I1, d1, c1, l1, k1⟩ = R := ⟨_, rfl⟩
 have HR : Hid (AInv T N E R0 (N + 1) 0 [] ⟨I1, d1, c1, l1, k1⟩) := Lib.hid ⟨hR0, hf, fun h0 => by have := hf.2.2 h0; omega, fun _ => ⟨Nat.zero_le _, Nat.zero_le _⟩, Nat.zero_le _, Nat.zero_le _⟩
 have hres : argsS T E (N + 1) ⟨Ia, da, ca, la, ka⟩ = (R0.1, shutsS T R0.2 [41]) := by unfold argsS; rw [hs1, hR0]
 rw [hres]
 clear hres hs1 hR0 h
 go_enter Tryz.func92, Tryz.ntmps92
 go_wp2_with fail
 refine (HO.out _ (two_made w (.slice (some ⟨tb, to, none⟩) n tc) Ia da ca la ka).2.2).mono ?_
 rintro e w1 ⟨rfl, hb⟩
 have hbb : Below w.heap.size w w1 := below_step (two_made w (.slice (some ⟨tb, to, none⟩) n tc) Ia da ca la ka).2.2 hb
 have hP := (two_made w (.slice (some ⟨tb, to, none⟩) n tc) Ia da ca la ka).1.carry hb
 have hR := (two_made w (.slice (some ⟨tb, to, none⟩) n tc) Ia da ca la ka).2.1.carry hb
 clear hb HO
 have lhP := hP.lt
 have lhR := hR.lt
 obtain ⟨hPc0, hPc1, hPc2, hPc3, hPc4, hPc5, hPf⟩ := id hP
 obtain ⟨W, hW, nhP, hO⟩ := put_ex hP (.slice (some ⟨tb, to, none⟩) n tc) I1 d1 c1 l1 k1
 have hsW := hO.size
 go_wp2_with fail
 rw [put_eq, hW.out]
 clear hPc0 hPc1 hPc2 hPc3 hPc4 hPc5 hPf
 replace hP := nhP
 replace hbb := hO.below hbb (by omega)
 replace hR := hR.oth hO (by omega)
 clear hO nhP hW
 have lhP := hP.lt
 have lhR := hR.lt
 obtain ⟨W1, hW1⟩ : ∃ W1, W1 = W.alloc (.cells #[] 32) := ⟨_, rfl⟩
 rw [← hW1]
 have HO1 : Hid (OwnN W1 (w.heap.size + 1 + 1) (.slice (some ⟨W.heap.size, 0, none⟩) 0 0) []) := Lib.hid (by rw [hW1]; exact own_made W #[] [] (by simp [ndFlat]) _ (by omega) (by simp))
 have hbW : Below W.heap.size W W1 := by rw [hW1]; go_grown
 rw [hsW] at HO1
 replace hP := hP.carry hbW
 replace hR := hR.carry hbW
 replace hbb := below_step hbb hbW
 clear hbW hW1
 go_loopw [4, 5] (fun v j wr => ARel w tb to n tc T N E R0 v j wr) (fun v j wr => mea n w.heap.size wr)
 case atStart => exact ⟨N + 1, 0, [], I1, d1, c1, l1, k1, rfl, HO1.out, ⟨_, _, _, rfl⟩, hP, hR, hbb, HR.out⟩
 case round =>
  clear HR HO1 hP hR hbb
  obtain ⟨m, jn, all, I, d, c, l, k, rfl, hown, hrow, hP, hR, hbb, HI⟩ := hrel
  obtain ⟨g, cap, rfl, -, log⟩ := own_nr hown hrow
  have HX := Lib.hid hown
  clear hown hrow
  have hI0 : I < n := by have := HI.2.1.1; simp only at this; omega
  have hal : all.length ≤ 70003 := by have := HI.2.2.2.2.1; have := HI.2.1.1; simp only at *; omega
  have hjl : jn ≤ 70001 := by have := HI.2.2.2.2.2; have := HI.2.1.1; simp only at *; omega
  have hm0 : Hid (c = 0 → mea n w.heap.size wr = n + 1 - I) := Lib.hid (fun h => by rw [mea_bx hP, if_pos h])
  have lhP0 := hP.lt
  have lhR0 := hR.lt
  by_cases hc : c = 0
  ·cases q1 : isS T ⟨I, d, c, l, k⟩ [41] with
   | true =>
    have HB := Lib.hid (fun w' (hb : Below w.heap.size w w') => bad_p (w := w') (tb := tb) (to := to) (n := n) (tc := tc) (s := ⟨I, d, c, l, k⟩) false (by simpa using hc))
    have HI1 := Lib.hid (fun w' (hb : Below w.heap.size w w') => is_p (s := ⟨I, d, c, l, k⟩) (tc := tc) ((HV.out.at hI0).carry hb) { data := #[41] } [41] (by rw [ByteArray.toList_eq]) true q1)
    obtain rfl := ainv_end HI (by rw [q1]; exact fun h => by simp at h)
    obtain ⟨⟨I4, d4, c4, l4, k4⟩, hs4⟩ : ∃ s, shutsS T ⟨I, d, c, l, k⟩ [41] = s := ⟨_, rfl⟩
    have HS := Lib.hid (fun w' (hb : Below w.heap.size w w') => shuts_p (tc := tc) (s := ⟨I, d, c, l, k⟩) ((HV.out.at hI0).carry hb) { data := #[41] } [41] (by rw [ByteArray.toList_eq]) _ hs4)
    replace hs4 := Lib.hid hs4
    clear HI q1
    replace hc := Lib.hid hc
    obtain ⟨hPc0, hPc1, hPc2, hPc3, hPc4, hPc5, hPf⟩ := id hP
    go_wp2_with fail
    refine (HB.out _ (hbb)).mono ?_
    rintro e w3 ⟨rfl, hb⟩
    clear hPc0 hPc1 hPc2 hPc3 hPc4 hPc5 hPf
    replace hP := hP.carry hb
    replace hR := hR.carry hb
    replace HX := Lib.hid (HX.out.carry hb)
    replace hbb := below_step hbb hb
    have hz3 := hb.size
    clear hb
    have lhP := hP.lt
    have lhR := hR.lt
    obtain ⟨hPc0, hPc1, hPc2, hPc3, hPc4, hPc5, hPf⟩ := id hP
    go_wp2_with fail
    refine (HI1.out _ (hbb)).mono ?_
    rintro e w4 ⟨rfl, hb⟩
    clear hPc0 hPc1 hPc2 hPc3 hPc4 hPc5 hPf
    replace hP := hP.carry hb
    replace hR := hR.carry hb
    replace HX := Lib.hid (HX.out.carry hb)
    replace hbb := below_step hbb hb
    have hz4 := hb.size
    clear hb
    have lhP := hP.lt
    have lhR := hR.lt
    obtain ⟨hPc0, hPc1, hPc2, hPc3, hPc4, hPc5, hPf⟩ := id hP
    go_wp2_with fail
    refine (HS.out _ (hbb)).mono ?_
    rintro e w5 ⟨rfl, hb⟩
    clear hPc0 hPc1 hPc2 hPc3 hPc4 hPc5 hPf
    replace hP := hP.carry hb
    replace hR := hR.carry hb
    replace HX := Lib.hid (HX.out.carry hb)
    replace hbb := below_step hbb hb
    have hz5 := hb.size
    clear hb
    have lhP := hP.lt
    have lhR := hR.lt
    obtain ⟨hRc0, hRc1, hRc2, hRc3, hRc4, hRc5, hRf⟩ := id hR
    obtain ⟨V, hV, nhR, hO⟩ := put_ex hR (.slice (some ⟨tb, to, none⟩) n tc) I4 d4 c4 l4 k4
    have hsV := hO.size
    go_wp2_with fail
    rw [put_eq, hV.out]
    clear hRc0 hRc1 hRc2 hRc3 hRc4 hRc5 hRf
    replace hR := nhR
    replace hbb := hO.below hbb (by omega)
    replace hP := hP.oth hO (by omega)
    replace HX := Lib.hid (HX.out.oth hO (by omega))
    clear hO nhR hV
    have lhP := hP.lt
    have lhR := hR.lt
    obtain ⟨hRc0, hRc1, hRc2, hRc3, hRc4, hRc5, hRf⟩ := id hR
    obtain ⟨g5, cap5, hv5, hl5, hg5⟩ := own_nr HX.out ⟨_, _, _, rfl⟩
    cases hv5
    refine bodyPost_ret (v := .tuple #[.slice (some ⟨g, 0, none⟩) all.length cap, pQ tb to n tc I4 d4 c4 l4 k4]) (by simp [results, Tryz.results92, go_sem, hRc0, hRc1, hRc2, hRc3, hRc4, hRc5]) rfl ⟨g, cap, by rw [hs4.out], hl5, by omega, hbb⟩
   | false =>
    cases jn with
    | zero =>
     have HB := Lib.hid (fun w' (hb : Below w.heap.size w w') => bad_p (w := w') (tb := tb) (to := to) (n := n) (tc := tc) (s := ⟨I, d, c, l, k⟩) false (by simpa using hc))
     have HI1 := Lib.hid (fun w' (hb : Below w.heap.size w w') => is_p (s := ⟨I, d, c, l, k⟩) (tc := tc) ((HV.out.at hI0).carry hb) { data := #[41] } [41] (by rw [ByteArray.toList_eq]) false q1)
     obtain ⟨m', rfl, hp1, hp2, hp3, hp4⟩ := ainv_round hE.out hB.out hPo.out HI hc q1
     have hcm : commaS T 0 ⟨I, d, c, l, k⟩ = ⟨I, d, c, l, k⟩ := by rfl
     rw [hcm] at hp1 hp2 hp3 hp4
     have hI2 : I < n := by have := hp3.1; simp only at this; omega
     obtain ⟨⟨y, ⟨I3, d3, c3, l3, k3⟩⟩, hy⟩ : ∃ q, E ⟨I, d, c, l, k⟩ = q := ⟨_, rfl⟩
     have HE2 : Hid (∀ w', Below w.heap.size w w' → Calls Tryz.prog 14 #[pQ tb to n tc I d c l k, .int .i64 1] w' (RetQ w' y y.length (pQ tb to n tc I3 d3 c3 l3 k3))) := Lib.hid (fun w' hb => by
      have := hX.out (tc := tc) (s := ⟨I, d, c, l, k⟩) ((HV.out.at hI2).carry hb) hp3
      rw [hy] at this
      exact this)
     rw [hy] at hp1 hp2 hp4
     simp only at hp2 hp4
     replace hp1 := Lib.hid hp1
     replace hp2 := Lib.hid hp2
     replace hc := Lib.hid hc
     clear HI hcm hy hp3 q1
     obtain ⟨hPc0, hPc1, hPc2, hPc3, hPc4, hPc5, hPf⟩ := id hP
     go_wp2_with fail
     refine (HB.out _ (hbb)).mono ?_
     rintro e w3 ⟨rfl, hb⟩
     clear hPc0 hPc1 hPc2 hPc3 hPc4 hPc5 hPf
     replace hP := hP.carry hb
     replace hR := hR.carry hb
     replace HX := Lib.hid (HX.out.carry hb)
     replace hbb := below_step hbb hb
     have hz3 := hb.size
     clear hb
     have lhP := hP.lt
     have lhR := hR.lt
     obtain ⟨hPc0, hPc1, hPc2, hPc3, hPc4, hPc5, hPf⟩ := id hP
     go_wp2_with fail
     refine (HI1.out _ (hbb)).mono ?_
     rintro e w4 ⟨rfl, hb⟩
     clear hPc0 hPc1 hPc2 hPc3 hPc4 hPc5 hPf
     replace hP := hP.carry hb
     replace hR := hR.carry hb
     replace HX := Lib.hid (HX.out.carry hb)
     replace hbb := below_step hbb hb
     have hz4 := hb.size
     clear hb
     have lhP := hP.lt
     have lhR := hR.lt
     obtain ⟨hPc0, hPc1, hPc2, hPc3, hPc4, hPc5, hPf⟩ := id hP
     go_wp2_with fail
     refine (HE2.out _ (hbb)).mono ?_
     rintro e w5 ⟨g2, cap2, rfl, HY, log2, hb⟩
     clear hPc0 hPc1 hPc2 hPc3 hPc4 hPc5 hPf
     replace hP := hP.carry hb
     replace hR := hR.carry hb
     replace HX := Lib.hid (HX.out.carry hb)
     replace hbb := below_step hbb hb
     replace HY := Lib.hid HY
     have hz5 := hb.size
     clear hb
     have lhP := hP.lt
     have lhR := hR.lt
     obtain ⟨hPc0, hPc1, hPc2, hPc3, hPc4, hPc5, hPf⟩ := id hP
     obtain ⟨W, hW, nP, hO⟩ := put_ex hP (.slice (some ⟨tb, to, none⟩) n tc) I3 d3 c3 l3 k3
     have hsW := hO.size
     obtain ⟨W2, hW2⟩ : ∃ W2, Hid (W2 = W.alloc (.cells #[(.slice (some ⟨tb, to, none⟩) n tc), .int .i64 I3, .int .i64 d3, .int .i64 c3, .int .i64 l3, .int .i64 k3] 43)) := ⟨_, Lib.hid rfl⟩
     have hbW : Below W.heap.size W W2 := by rw [hW2.out]; go_grown
     have nR := hR.oth hO (by omega)
     have NX := Lib.hid ((HX.out.oth hO (by omega)).carry hbW)
     have NY := Lib.hid ((HY.out.oth hO (by omega)).carry hbW)
     have nbb := Lib.hid (below_step (hO.below hbb (by omega)) hbW)
     replace nP := Lib.hid (nP.carry hbW)
     replace nR := Lib.hid (nR.carry hbW)
     have hsW2 := hbW.size
     clear hbW hO
     go_wp2_with (first | (at_builtin; rw [put_eq, hW.out, ← hW2.out]; refine wpList_appR rfl _ _ rfl (w.heap.size + 1 + 1) (.slice (some ⟨g, 0, none⟩) all.length cap) all y g2 cap2 y.length rfl rfl rfl NY.out NX.out ⟨_, _, _, rfl⟩ (by omega) (by omega) ?_; intro v9 w9 ho9 hs9 hg9; replace hP := bx_grown nP.out hg9 NX.out (by omega); replace hR := bx_grown nR.out hg9 NX.out (by omega); replace hbb := grown_below hg9 NX.out (by omega) nbb.out; replace ho9 := Lib.hid ho9; replace hs9 := Lib.hid hs9; clear hg9 NX NY nP nR nbb HX HY hPc0 hPc1 hPc2 hPc3 hPc4 hPc5 hPf))
     go_roundw
     case rel => exact ⟨m', _, _, I3, d3, c3, l3, k3, by simp, ho9.out, hs9.out, hP, hR, hbb, hp1.out⟩
     case measure => rw [hm0.out hc.out, mea_bx hP]; split <;> (try omega); rename_i h0; have := hp2.out h0; omega
    | succ jn =>
     have HB := Lib.hid (fun w' (hb : Below w.heap.size w w') => bad_p (w := w') (tb := tb) (to := to) (n := n) (tc := tc) (s := ⟨I, d, c, l, k⟩) false (by simpa using hc))
     have HI1 := Lib.hid (fun w' (hb : Below w.heap.size w w') => is_p (s := ⟨I, d, c, l, k⟩) (tc := tc) ((HV.out.at hI0).carry hb) { data := #[41] } [41] (by rw [ByteArray.toList_eq]) false q1)
     obtain ⟨⟨I2, d2, c2, l2, k2⟩, hs2⟩ : ∃ s, mustS T ⟨I, d, c, l, k⟩ [44] = s := ⟨_, rfl⟩
     have HM := Lib.hid (fun w' (hb : Below w.heap.size w w') => must_p (tc := tc) (s := ⟨I, d, c, l, k⟩) ((HV.out.at hI0).carry hb) { data := #[44] } [44] (by rw [ByteArray.toList_eq]) _ hs2)
     obtain ⟨m', rfl, hp1, hp2, hp3, hp4⟩ := ainv_round hE.out hB.out hPo.out HI hc q1
     have hcm : commaS T (jn + 1) ⟨I, d, c, l, k⟩ = ⟨I2, d2, c2, l2, k2⟩ := by rw [commaS, if_pos (Nat.succ_pos _), hs2]
     rw [hcm] at hp1 hp2 hp3 hp4
     have hI2 : I2 < n := by have := hp3.1; simp only at this; omega
     obtain ⟨⟨y, ⟨I3, d3, c3, l3, k3⟩⟩, hy⟩ : ∃ q, E ⟨I2, d2, c2, l2, k2⟩ = q := ⟨_, rfl⟩
     have HE2 : Hid (∀ w', Below w.heap.size w w' → Calls Tryz.prog 14 #[pQ tb to n tc I2 d2 c2 l2 k2, .int .i64 1] w' (RetQ w' y y.length (pQ tb to n tc I3 d3 c3 l3 k3))) := Lib.hid (fun w' hb => by
      have := hX.out (tc := tc) (s := ⟨I2, d2, c2, l2, k2⟩) ((HV.out.at hI2).carry hb) hp3
      rw [hy] at this
      exact this)
     rw [hy] at hp1 hp2 hp4
     simp only at hp2 hp4
     replace hp1 := Lib.hid hp1
     replace hp2 := Lib.hid hp2
     replace hc := Lib.hid hc
     clear HI hcm hy hp3 q1 hs2
     obtain ⟨hPc0, hPc1, hPc2, hPc3, hPc4, hPc5, hPf⟩ := id hP
     go_wp2_with fail
     refine (HB.out _ (hbb)).mono ?_
     rintro e w3 ⟨rfl, hb⟩
     clear hPc0 hPc1 hPc2 hPc3 hPc4 hPc5 hPf
     replace hP := hP.carry hb
     replace hR := hR.carry hb
     replace HX := Lib.hid (HX.out.carry hb)
     replace hbb := below_step hbb hb
     have hz3 := hb.size
     clear hb
     have lhP := hP.lt
     have lhR := hR.lt
     obtain ⟨hPc0, hPc1, hPc2, hPc3, hPc4, hPc5, hPf⟩ := id hP
     go_wp2_with fail
     refine (HI1.out _ (hbb)).mono ?_
     rintro e w4 ⟨rfl, hb⟩
     clear hPc0 hPc1 hPc2 hPc3 hPc4 hPc5 hPf
     replace hP := hP.carry hb
     replace hR := hR.carry hb
     replace HX := Lib.hid (HX.out.carry hb)
     replace hbb := below_step hbb hb
     have hz4 := hb.size
     clear hb
     have lhP := hP.lt
     have lhR := hR.lt
     obtain ⟨hPc0, hPc1, hPc2, hPc3, hPc4, hPc5, hPf⟩ := id hP
     go_wp2_with fail
     refine (HM.out _ (hbb)).mono ?_
     rintro e w5 ⟨rfl, hb⟩
     clear hPc0 hPc1 hPc2 hPc3 hPc4 hPc5 hPf
     replace hP := hP.carry hb
     replace hR := hR.carry hb
     replace HX := Lib.hid (HX.out.carry hb)
     replace hbb := below_step hbb hb
     have hz5 := hb.size
     clear hb
     have lhP := hP.lt
     have lhR := hR.lt
     obtain ⟨hPc0, hPc1, hPc2, hPc3, hPc4, hPc5, hPf⟩ := id hP
     obtain ⟨Wm, hWm, nhP, hO⟩ := put_ex hP (.slice (some ⟨tb, to, none⟩) n tc) I2 d2 c2 l2 k2
     have hsWm := hO.size
     go_wp2_with fail
     rw [put_eq, hWm.out]
     clear hPc0 hPc1 hPc2 hPc3 hPc4 hPc5 hPf
     replace hP := nhP
     replace hbb := hO.below hbb (by omega)
     replace hR := hR.oth hO (by omega)
     replace HX := Lib.hid (HX.out.oth hO (by omega))
     clear hO nhP hWm
     have lhP := hP.lt
     have lhR := hR.lt
     refine (HE2.out _ (hbb)).mono ?_
     rintro e w6 ⟨g2, cap2, rfl, HY, log2, hb⟩
     replace hP := hP.carry hb
     replace hR := hR.carry hb
     replace HX := Lib.hid (HX.out.carry hb)
     replace hbb := below_step hbb hb
     replace HY := Lib.hid HY
     have hz6 := hb.size
     clear hb
     have lhP := hP.lt
     have lhR := hR.lt
     obtain ⟨hPc0, hPc1, hPc2, hPc3, hPc4, hPc5, hPf⟩ := id hP
     obtain ⟨W, hW, nP, hO⟩ := put_ex hP (.slice (some ⟨tb, to, none⟩) n tc) I3 d3 c3 l3 k3
     have hsW := hO.size
     obtain ⟨W2, hW2⟩ : ∃ W2, Hid (W2 = W.alloc (.cells #[(.slice (some ⟨tb, to, none⟩) n tc), .int .i64 I3, .int .i64 d3, .int .i64 c3, .int .i64 l3, .int .i64 k3] 43)) := ⟨_, Lib.hid rfl⟩
     have hbW : Below W.heap.size W W2 := by rw [hW2.out]; go_grown
     have nR := hR.oth hO (by omega)
     have NX := Lib.hid ((HX.out.oth hO (by omega)).carry hbW)
     have NY := Lib.hid ((HY.out.oth hO (by omega)).carry hbW)
     have nbb := Lib.hid (below_step (hO.below hbb (by omega)) hbW)
     replace nP := Lib.hid (nP.carry hbW)
     replace nR := Lib.hid (nR.carry hbW)
     have hsW2 := hbW.size
     clear hbW hO
     go_wp2_with (first | (at_builtin; rw [put_eq, hW.out, ← hW2.out]; refine wpList_appR rfl _ _ rfl (w.heap.size + 1 + 1) (.slice (some ⟨g, 0, none⟩) all.length cap) all y g2 cap2 y.length rfl rfl rfl NY.out NX.out ⟨_, _, _, rfl⟩ (by omega) (by omega) ?_; intro v9 w9 ho9 hs9 hg9; replace hP := bx_grown nP.out hg9 NX.out (by omega); replace hR := bx_grown nR.out hg9 NX.out (by omega); replace hbb := grown_below hg9 NX.out (by omega) nbb.out; replace ho9 := Lib.hid ho9; replace hs9 := Lib.hid hs9; clear hg9 NX NY nP nR nbb HX HY hPc0 hPc1 hPc2 hPc3 hPc4 hPc5 hPf))
     go_roundw
     case rel => exact ⟨m', _, _, I3, d3, c3, l3, k3, by simp, ho9.out, hs9.out, hP, hR, hbb, hp1.out⟩
     case measure => rw [hm0.out hc.out, mea_bx hP]; split <;> (try omega); rename_i h0; have := hp2.out h0; omega
  ·have HB := Lib.hid (fun w' (hb : Below w.heap.size w w') => bad_p (w := w') (tb := tb) (to := to) (n := n) (tc := tc) (s := ⟨I, d, c, l, k⟩) true (by simpa using hc))
   obtain rfl := ainv_end HI (by exact fun h => hc h.1)
   obtain ⟨⟨I4, d4, c4, l4, k4⟩, hs4⟩ : ∃ s, shutsS T ⟨I, d, c, l, k⟩ [41] = s := ⟨_, rfl⟩
   have HS := Lib.hid (fun w' (hb : Below w.heap.size w w') => shuts_p (tc := tc) (s := ⟨I, d, c, l, k⟩) ((HV.out.at hI0).carry hb) { data := #[41] } [41] (by rw [ByteArray.toList_eq]) _ hs4)
   replace hs4 := Lib.hid hs4
   clear HI
   replace hc := Lib.hid hc
   obtain ⟨hPc0, hPc1, hPc2, hPc3, hPc4, hPc5, hPf⟩ := id hP
   go_wp2_with fail
   refine (HB.out _ (hbb)).mono ?_
   rintro e w3 ⟨rfl, hb⟩
   clear hPc0 hPc1 hPc2 hPc3 hPc4 hPc5 hPf
   replace hP := hP.carry hb
   replace hR := hR.carry hb
   replace HX := Lib.hid (HX.out.carry hb)
   replace hbb := below_step hbb hb
   have hz3 := hb.size
   clear hb
   have lhP := hP.lt
   have lhR := hR.lt
   obtain ⟨hPc0, hPc1, hPc2, hPc3, hPc4, hPc5, hPf⟩ := id hP
   go_wp2_with fail
   refine (HS.out _ (hbb)).mono ?_
   rintro e w4 ⟨rfl, hb⟩
   clear hPc0 hPc1 hPc2 hPc3 hPc4 hPc5 hPf
   replace hP := hP.carry hb
   replace hR := hR.carry hb
   replace HX := Lib.hid (HX.out.carry hb)
   replace hbb := below_step hbb hb
   have hz4 := hb.size
   clear hb
   have lhP := hP.lt
   have lhR := hR.lt
   obtain ⟨hRc0, hRc1, hRc2, hRc3, hRc4, hRc5, hRf⟩ := id hR
   obtain ⟨V, hV, nhR, hO⟩ := put_ex hR (.slice (some ⟨tb, to, none⟩) n tc) I4 d4 c4 l4 k4
   have hsV := hO.size
   go_wp2_with fail
   rw [put_eq, hV.out]
   clear hRc0 hRc1 hRc2 hRc3 hRc4 hRc5 hRf
   replace hR := nhR
   replace hbb := hO.below hbb (by omega)
   replace hP := hP.oth hO (by omega)
   replace HX := Lib.hid (HX.out.oth hO (by omega))
   clear hO nhR hV
   have lhP := hP.lt
   have lhR := hR.lt
   obtain ⟨hRc0, hRc1, hRc2, hRc3, hRc4, hRc5, hRf⟩ := id hR
   obtain ⟨g5, cap5, hv5, hl5, hg5⟩ := own_nr HX.out ⟨_, _, _, rfl⟩
   cases hv5
   refine bodyPost_ret (v := .tuple #[.slice (some ⟨g, 0, none⟩) all.length cap, pQ tb to n tc I4 d4 c4 l4 k4]) (by simp [results, Tryz.results92, go_sem, hRc0, hRc1, hRc2, hRc3, hRc4, hRc5]) rfl ⟨g, cap, by rw [hs4.out], hl5, by omega, hbb⟩

end Go.Proofs.YtbknflaooemigaaGreat
