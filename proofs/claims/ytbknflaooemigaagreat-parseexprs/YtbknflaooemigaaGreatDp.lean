/-
 The document's postfix answers as said, if what it calls does. Conditions: those calls' contracts.
-/
import Derived.Test.YtbknflaooemigaaGreatDi
namespace Go.Proofs.YtbknflaooemigaaGreat
open Go.RowKit Go.Sort
set_option linter.unusedVariables false

theorem put_ex {w : World} {b : Nat} {sl0 : Value} {I0 d0 c0 l0 k0 : Int} (h : Bx w b sl0 I0 d0 c0 l0 k0) (sl : Value) (I d c l k : Int) : ∃ W, Hid (Put w b sl I d c l k = W) ∧ Bx W b sl I d c l k ∧ Oth b w W :=
 put_gen (G := fun X => ∃ W, Hid (X = W) ∧ Bx W b sl I d c l k ∧ Oth b w W) h (fun W h1 h2 => ⟨W, Lib.hid rfl, h1, h2⟩)

/-- What is left of a reader in a box: nothing once it has failed. -/
def mea (n b : Nat) (w : World) : Nat := match w.cell? ⟨b, 1, none⟩, w.cell? ⟨b, 3, none⟩ with
 | some (.int _ i), some (.int _ c) => if c = 0 then n + 1 - i.toNat else 0
 | _, _ => 0
theorem mea_bx {w : World} {n b : Nat} {sl : Value} {I : Nat} {d c l k : Int} (h : Bx w b sl I d c l k) : mea n b w = if c = 0 then n + 1 - I else 0 := by
 unfold mea; rw [h.c1, h.c3]; simp

/-- A function of the document that reads as f. -/
def Dos (T : List Tok) (N : Nat) (F : FuncId) (tail : Array Value) (f : S → Rs) : Prop := ∀ ⦃w : World⦄ ⦃tb to n tc : Nat⦄ ⦃s : S⦄, Ev w tb to n T s.I → Fit T N s → Calls Tryz.prog F (#[pV tb to n tc s] ++ tail) w (RetP w tb to n tc (f s))

def PInv (T : List Tok) (N : Nat) (E : S → Rs) (R : Rs) (m : Nat) (x : List Nd) (s : S) : Prop := postLS T E m x s = R ∧ Fit T (N + 1) s ∧ (s.c = 0 → T.length ≤ s.I + m) ∧ (s.c = 0 → x.length ≤ s.I) ∧ x.length ≤ s.I + 3
def PRel (w : World) (tb to n tc : Nat) (T : List Tok) (N : Nat) (E : S → Rs) (R : Rs) (v : Value) (wr : World) : Prop :=
 ∃ (m : Nat) (x : List Nd) (I : Nat) (d c l k : Int) (g cap : Nat), v = .slice (some ⟨g, 0, none⟩) x.length cap ∧ Lies (ndFlat x) g wr ∧ w.heap.size + 1 + 1 ≤ g ∧ Bx wr w.heap.size (.slice (some ⟨tb, to, none⟩) n tc) I d c l k ∧ Bx wr (w.heap.size + 1) (.slice none 0 0) 0 0 0 0 0 ∧ Below w.heap.size w wr ∧ PInv T N E R m x ⟨I, d, c, l, k⟩

theorem pinv_idx {T : List Tok} {N : Nat} {E : S → Rs} {R : Rs} {m : Nat} {x : List Nd} {s : S} (hE : Ends T) (hB : Bd T N E) (h : PInv T N E R m x s) (hx : isS T s [91] = true) :
  ∃ m', m = m' + 1 ∧ PInv T N E R m' (ndS 28 (nowS T s) [] 0 (x ++ (E (opensS T s [91])).1)) (shutsS T (E (opensS T s [91])).2 [93]) ∧ ((shutsS T (E (opensS T s [91])).2 [93]).c = 0 → s.I < (shutsS T (E (opensS T s [91])).2 [93]).I) ∧ (E (opensS T s [91])).1.length ≤ T.length + 3 := by
 obtain ⟨h1, h2, h3, h4, h5⟩ := h
 have hc := (is_c hx).1
 have := h3 hc
 have := h2.1
 obtain ⟨m, rfl⟩ : ∃ m', m = m' + 1 := ⟨m - 1, by omega⟩
 obtain ⟨b1, b2, b3, b4, b5⟩ := bnd_postL hE hB 1 x s h2
 simp only [postLS, if_pos hx] at b1 b2 b3 b4 b5
 obtain ⟨o1, o2, o3, o4⟩ := opens_f hE h2.1 [91]
 obtain ⟨e1, e2, e3, e4, e5⟩ := hB _ (fit_opens hE h2 hx)
 obtain ⟨t1, t2, t3, t4⟩ := shuts_f hE e2 [93]
 have hp : (shutsS T (E (opensS T s [91])).2 [93]).c = 0 → s.I < (shutsS T (E (opensS T s [91])).2 [93]).I := fun h0 => by have := t4 h0; omega
 refine ⟨m, rfl, ⟨?_, fit_up h2 b2 b1 (fun _ => hc), fun h0 => by have := hp h0; omega, fun h0 => by have := (b4 h0).2; have := h4 hc; omega, by have := h4 hc; omega⟩, hp, by omega⟩
 rw [← h1]; conv => rhs; unfold postLS; rw [if_pos hx]
theorem pinv_dot {T : List Tok} {N : Nat} {E : S → Rs} {R : Rs} {m : Nat} {x : List Nd} {s : S} (hE : Ends T) (hB : Bd T N E) (h : PInv T N E R m x s) (hq : isS T s [91] = false) (hx : isS T s [46] = true) :
  ∃ m', m = m' + 1 ∧ PInv T N E R m' (ndS 29 (nowS T s) (nowS T (mustS T s [46])).text 0 x) (wordS T (mustS T s [46]) 1) ∧ s.I < (wordS T (mustS T s [46]) 1).I := by
 obtain ⟨h1, h2, h3, h4, h5⟩ := h
 have hc := (is_c hx).1
 have := h3 hc
 have := h2.1
 have hq' : ¬ isS T s [91] = true := by rw [hq]; decide
 obtain ⟨m, rfl⟩ : ∃ m', m = m' + 1 := ⟨m - 1, by omega⟩
 obtain ⟨b1, b2, b3, b4, b5⟩ := bnd_postL hE hB 1 x s h2
 simp only [postLS, if_neg hq', if_pos hx] at b1 b2 b3 b4 b5
 obtain ⟨m1, m2, m3, m4, m5⟩ := must_f hE h2.1 [46]
 have me : (mustS T s [46]).I = s.I + 1 := by simp [mustS, hx]
 obtain ⟨t1, t2, t3, t4⟩ := word_f hE m1 1 (by decide)
 refine ⟨m, rfl, ⟨?_, fit_up h2 b2 b1 (fun _ => hc), fun h0 => by omega, fun h0 => by have := (b4 h0).2; have := h4 hc; omega, by have := h4 hc; omega⟩, by omega⟩
 rw [← h1]; conv => rhs; unfold postLS; rw [if_neg hq', if_pos hx]
theorem pinv_end {T : List Tok} {N : Nat} {E : S → Rs} {R : Rs} {m : Nat} {x : List Nd} {s : S} (h : PInv T N E R m x s) (hq : isS T s [91] = false) (hx : isS T s [46] = false) : (x, s) = R := by
 rw [← h.1]
 cases m with
 | zero => rfl
 | succ m => conv => rhs; unfold postLS; rw [if_neg (by rw [hq]; decide), if_neg (by rw [hx]; decide)]

set_option maxRecDepth 100000 in
set_option maxHeartbeats 10000000 in
theorem post_w {T : List Tok} {N : Nat} {E : S → Rs} (hE : Hid (Ends T)) (hB : Hid (Bd T N E)) (hA : Hid (Dos T (N + 1) 70 #[] (atomS T E (N + 1)))) (hX : Hid (Dos T N 14 #[.int .i64 1] E)) : Dos T (N + 1) 51 #[] (postS T E (N + 1)) := by
 intro w tb to n tc s h hf
 obtain ⟨Ia, da, ca, la, ka⟩ := s
 obtain ⟨⟨x1, ⟨I1, d1, c1, l1, k1⟩⟩, hx1⟩ : ∃ x1, atomS T E (N + 1) ⟨Ia, da, ca, la, ka⟩ = x1 := ⟨_, rfl⟩
 have HA := Lib.hid (fun w' (hb : Below w.heap.size w w') => hA.out (tc := tc) (h.carry hb) hf)
 have hn1 := h.ln
 have hn2 := h.en.tn
 have HV := Lib.hid h
 have HR : Hid (PInv T N E (postS T E (N + 1) ⟨Ia, da, ca, la, ka⟩) (N + 1) x1 ⟨I1, d1, c1, l1, k1⟩) := Lib.hid (by
  obtain ⟨a1, a2, a3, a4, a5⟩ := bnd_atom hE.out hB.out _ hf
  rw [hx1] at a1 a2 a3 a4 a5
  refine ⟨by rw [postS, hx1], fit_up hf a2 a1 (fun h => (a4 h).1), fun h0 => ?_, fun h0 => ?_, ?_⟩
  ·have y1 := a4 h0; have x2 := hf.2.2 y1.1; show T.length ≤ I1 + (N + 1); simp only at a1 x2; omega
  ·have y1 := (a4 h0).2; simp only at y1; show x1.length ≤ I1; omega
  ·show x1.length ≤ I1 + 3; simp only at a5; omega)
 rw [hx1] at HA
 generalize postS T E (N + 1) ⟨Ia, da, ca, la, ka⟩ = R at *
 clear hx1 hA
 go_enter Tryz.func51, Tryz.ntmps51
 go_wp2_with fail
 refine (HA.out _ (two_made w (.slice (some ⟨tb, to, none⟩) n tc) Ia da ca la ka).2.2).mono ?_
 rintro e w1 ⟨g, cap, rfl, HX, log, hb⟩
 have hbb : Below w.heap.size w w1 := below_step (two_made w (.slice (some ⟨tb, to, none⟩) n tc) Ia da ca la ka).2.2 hb
 have hP := (two_made w (.slice (some ⟨tb, to, none⟩) n tc) Ia da ca la ka).1.carry hb
 have hR := (two_made w (.slice (some ⟨tb, to, none⟩) n tc) Ia da ca la ka).2.1.carry hb
 replace HX := Lib.hid HX
 simp only [World.size_alloc] at log
 clear hb
 have lhP := hP.lt
 have lhR := hR.lt
 obtain ⟨hPc0, hPc1, hPc2, hPc3, hPc4, hPc5, hPf⟩ := id hP
 go_wp2_with (first | (rw [put_eq]; refine put_gen hP ?_; clear hP hPc0 hPc1 hPc2 hPc3 hPc4 hPc5 hPf; intro W hP hO; replace hbb := hO.below hbb (by omega); replace hR := hR.oth hO (by omega); replace HX := Lib.hid (HX.out.oth hO (by omega)); have hsW := hO.size; clear hO; obtain ⟨hPc0, hPc1, hPc2, hPc3, hPc4, hPc5, hPf⟩ := id hP))
 go_loopw [4] (fun v wr => PRel w tb to n tc T N E R v wr) (fun v wr => mea n w.heap.size wr)
 case atStart => exact ⟨N + 1, x1, I1, d1, c1, l1, k1, g, cap, rfl, HX.out, by omega, hP, hR, hbb, HR.out⟩
 case round =>
  clear HR HX hP hR hbb log HA
  obtain ⟨m, x, I, d, c, l, k, g, cap, rfl, HX, log, hP, hR, hbb, HI⟩ := hrel
  replace HX := Lib.hid HX
  have hI0 : I < n := by have := HI.2.1.1; simp only at this; omega
  have hxl : x.length ≤ 70003 := by have := HI.2.2.2.2; have := HI.2.1.1; simp only at *; omega
  obtain ⟨s0, hs0⟩ : ∃ s0 : S, s0 = ⟨I, d, c, l, k⟩ := ⟨_, rfl⟩
  have hm0 : Hid (c = 0 → mea n w.heap.size wr = n + 1 - I) := Lib.hid (fun h => by rw [mea_bx hP, if_pos h])
  obtain ⟨⟨kd, ln, cl, nm, tx⟩, ht⟩ : ∃ t, nowS T ⟨I, d, c, l, k⟩ = t := ⟨_, rfl⟩
  have HN := Lib.hid (fun w' (hb : Below w.heap.size w w') => now_p (tc := tc) (s := ⟨I, d, c, l, k⟩) ((HV.out.at hI0).carry hb) ht)
  obtain ⟨X, hX0⟩ : ∃ X, bs tx = X := ⟨_, rfl⟩
  rw [hX0] at HN
  have lhP0 := hP.lt
  have lhR0 := hR.lt
  cases q1 : isS T ⟨I, d, c, l, k⟩ [91] with
  | true =>
   have hc0 := Lib.hid (show c = 0 from (is_c q1).1)
   have htx : tx = [91] := by have := (is_c q1).2; rw [ht] at this; simp only [seesT, decide_eq_true_eq] at this; exact this.2
   have hxx : (X.toList == [91]) = true := by rw [← hX0, htx, bs_toList]; simp
   have HIa := Lib.hid (fun w' (hb : Below w.heap.size w w') => is_p (s := ⟨I, d, c, l, k⟩) (tc := tc) ((HV.out.at hI0).carry hb) { data := #[91] } [91] (by rw [ByteArray.toList_eq]) true q1)
   obtain ⟨⟨I2, d2, c2, l2, k2⟩, hs2⟩ : ∃ s, opensS T ⟨I, d, c, l, k⟩ [91] = s := ⟨_, rfl⟩
   have HO := Lib.hid (fun w' (hb : Below w.heap.size w w') => opens_p (tc := tc) (s := ⟨I, d, c, l, k⟩) ((HV.out.at hI0).carry hb) { data := #[91] } [91] (by rw [ByteArray.toList_eq]) _ hs2)
   have hf2 := fit_opens hE.out HI.2.1 q1
   rw [hs2] at hf2
   have hI2 : I2 < n := by have := hf2.1; simp only at this; omega
   obtain ⟨⟨y, ⟨I3, d3, c3, l3, k3⟩⟩, hy⟩ : ∃ q, E ⟨I2, d2, c2, l2, k2⟩ = q := ⟨_, rfl⟩
   have hI3 : I3 < n := by have := (hB.out _ hf2).2.1; rw [hy] at this; simp only at this; omega
   have HE2 : Hid (∀ w', Below w.heap.size w w' → Calls Tryz.prog 14 #[pQ tb to n tc I2 d2 c2 l2 k2, .int .i64 1] w' (RetQ w' y y.length (pQ tb to n tc I3 d3 c3 l3 k3))) := Lib.hid (fun w' hb => by
    have := hX.out (tc := tc) (s := ⟨I2, d2, c2, l2, k2⟩) ((HV.out.at hI2).carry hb) hf2
    rw [hy] at this
    exact this)
   obtain ⟨⟨I4, d4, c4, l4, k4⟩, hs4⟩ : ∃ s, shutsS T ⟨I3, d3, c3, l3, k3⟩ [93] = s := ⟨_, rfl⟩
   have HS := Lib.hid (fun w' (hb : Below w.heap.size w w') => shuts_p (tc := tc) (s := ⟨I3, d3, c3, l3, k3⟩) ((HV.out.at hI3).carry hb) { data := #[93] } [93] (by rw [ByteArray.toList_eq]) _ hs4)
   obtain ⟨m', rfl, hp1, hp2, hp3⟩ := pinv_idx hE.out hB.out HI q1
   rw [hs2, hy, hs4, ht] at hp1
   rw [hs2, hy, hs4] at hp2
   rw [hs2, hy] at hp3
   simp only at hp3
   replace hp1 := Lib.hid hp1
   replace hp2 := Lib.hid hp2
   clear hs0 s0 ht HI hs2 hs4 hy hf2 q1 htx
   obtain ⟨hPc0, hPc1, hPc2, hPc3, hPc4, hPc5, hPf⟩ := id hP
   go_wp2_with fail
   refine (HIa.out _ (hbb)).mono ?_
   rintro e w3 ⟨rfl, hb⟩
   clear hPc0 hPc1 hPc2 hPc3 hPc4 hPc5 hPf
   replace hP := hP.carry hb
   replace hR := hR.carry hb
   replace HX := Lib.hid (HX.out.carry hb)
   replace hbb := below_step hbb hb
   have hz3 := hb.size
   clear hb
   have lhP := hP.lt
   have lhR := hR.lt
   obtain ⟨hPc0, hPc1, hPc2, hPc3, hPc4, hPc5, hPf⟩ := id hP
   go_wp2_with fail
   refine (HN.out _ (hbb)).mono ?_
   rintro e w4 ⟨rfl, hb⟩
   clear hPc0 hPc1 hPc2 hPc3 hPc4 hPc5 hPf
   replace hP := hP.carry hb
   replace hR := hR.carry hb
   replace HX := Lib.hid (HX.out.carry hb)
   replace hbb := below_step hbb hb
   have hz4 := hb.size
   clear hb
   have lhP := hP.lt
   have lhR := hR.lt
   obtain ⟨hPc0, hPc1, hPc2, hPc3, hPc4, hPc5, hPf⟩ := id hP
   go_wp2_with fail
   refine (HO.out _ (below_step hbb (below_alloc _ _))).mono ?_
   rintro e w5 ⟨rfl, hb⟩
   clear hPc0 hPc1 hPc2 hPc3 hPc4 hPc5 hPf
   replace hP := (hP.carry (below_alloc _ _)).carry hb
   replace hR := (hR.carry (below_alloc _ _)).carry hb
   replace HX := Lib.hid ((HX.out.carry (below_alloc _ _)).carry hb)
   have hT := (Tx.made w4 kd ln cl nm X).carry hb
   replace hbb := below_step (below_step hbb (below_alloc _ _)) hb
   have hz5 := hb.size
   simp only [World.size_alloc] at hz5
   clear hb
   have lhP := hP.lt
   have lhR := hR.lt
   have lhT := hT.lt
   go_wp2_with fail
   refine (HE2.out _ (hbb)).mono ?_
   rintro e w6 ⟨g2, cap2, rfl, HY, log2, hb⟩
   replace hP := hP.carry hb
   replace hR := hR.carry hb
   replace hT := hT.carry hb
   replace HX := Lib.hid (HX.out.carry hb)
   replace hbb := below_step hbb hb
   replace HY := Lib.hid HY
   have hz6 := hb.size
   clear hb
   have lhP := hP.lt
   have lhR := hR.lt
   have lhT := hT.lt
   go_wp2_with fail
   refine (HS.out _ (below_step hbb (below_alloc _ _))).mono ?_
   rintro e w7 ⟨rfl, hb⟩
   replace hP := (hP.carry (below_alloc _ _)).carry hb
   replace hR := (hR.carry (below_alloc _ _)).carry hb
   replace hT := (hT.carry (below_alloc _ _)).carry hb
   replace HX := Lib.hid ((HX.out.carry (below_alloc _ _)).carry hb)
   replace HY := Lib.hid ((HY.out.carry (below_alloc _ _)).carry hb)
   have hQ := (Bx.made w6 (.slice (some ⟨tb, to, none⟩) n tc) I3 d3 c3 l3 k3).carry hb
   replace hbb := below_step (below_step hbb (below_alloc _ _)) hb
   have hz7 := hb.size
   simp only [World.size_alloc] at hz7
   clear hb
   have lhP := hP.lt
   have lhR := hR.lt
   have lhT := hT.lt
   have lhQ := hQ.lt
   obtain ⟨hPc0, hPc1, hPc2, hPc3, hPc4, hPc5, hPf⟩ := id hP
   obtain ⟨hTc0, hTc1, hTc2, hTc3, hTc4, hTf⟩ := id hT
   go_wp2_with (first | (rw [put_eq]; refine put_gen hP ?_; clear hP hPc0 hPc1 hPc2 hPc3 hPc4 hPc5 hPf hTc0 hTc1 hTc2 hTc3 hTc4 hTf; intro W hP hO; replace hbb := hO.below hbb (by omega); replace hR := hR.oth hO (by omega); replace hT := hT.oth hO (by omega); replace hQ := hQ.oth hO (by omega); replace HX := Lib.hid (HX.out.oth hO (by omega)); replace HY := Lib.hid (HY.out.oth hO (by omega)); have hsW := hO.size; clear hO; obtain ⟨hPc0, hPc1, hPc2, hPc3, hPc4, hPc5, hPf⟩ := id hP; obtain ⟨hTc0, hTc1, hTc2, hTc3, hTc4, hTf⟩ := id hT; have lhPW := hP.lt; have lhTW := hT.lt))
   go_region_held3 (fun w' => w'.cell? ⟨w4.heap.size, 0, none⟩ = some (.int .u8 kd) ∧ w'.cell? ⟨w4.heap.size, 1, none⟩ = some (.int .i64 ln) ∧ w'.cell? ⟨w4.heap.size, 2, none⟩ = some (.int .i64 cl) ∧ w'.cell? ⟨w4.heap.size, 3, none⟩ = some (.int .i64 nm) ∧ w'.cell? ⟨w4.heap.size, 4, none⟩ = some (.string X)) (first | go_keep | (rw [put_eq]; refine put_gen (G := fun w' => w'.cell? ⟨w4.heap.size, 0, none⟩ = some (.int .u8 kd) ∧ w'.cell? ⟨w4.heap.size, 1, none⟩ = some (.int .i64 ln) ∧ w'.cell? ⟨w4.heap.size, 2, none⟩ = some (.int .i64 cl) ∧ w'.cell? ⟨w4.heap.size, 3, none⟩ = some (.int .i64 nm) ∧ w'.cell? ⟨w4.heap.size, 4, none⟩ = some (.string X)) hR ?_; intro V _ hO; exact ⟨(hO.cell (by omega)).trans hT.c0, (hO.cell (by omega)).trans hT.c1, (hO.cell (by omega)).trans hT.c2, (hO.cell (by omega)).trans hT.c3, (hO.cell (by omega)).trans hT.c4⟩)) (first | (go_at_call 32; refine (join_q rfl rfl (Lib.hid (HX.out.carry (by go_grown))) (Lib.hid (HY.out.carry (by go_grown))) (by omega)).mono ?_; rintro e w8 ⟨g8, cap8, rfl, HZ, lo8, hb⟩; replace HZ := Lib.hid HZ; have hb9 := below_step (w := W) (by go_grown) hb; replace hP := hP.carry hb9; replace hR := hR.carry hb9; replace hT := hT.carry hb9; replace hbb := below_step hbb hb9; have hz9 := hb9.size; have lo8x : W.heap.size ≤ g8 := Nat.le_trans (by simp) lo8; clear hb hb9 lo8 hPc0 hPc1 hPc2 hPc3 hPc4 hPc5 hPf hTc0 hTc1 hTc2 hTc3 hTc4 hTf; obtain ⟨hPc0, hPc1, hPc2, hPc3, hPc4, hPc5, hPf⟩ := id hP; obtain ⟨hRc0, hRc1, hRc2, hRc3, hRc4, hRc5, hRf⟩ := id hR; obtain ⟨hTc0, hTc1, hTc2, hTc3, hTc4, hTf⟩ := id hT) | (go_at_call 31; refine (node_q List.length_append (Lib.hid (HZ.out.carry (by go_grown))) (by omega)).mono ?_; rintro e w9 ⟨g9, cap9, rfl, HY, lo9, hb⟩; replace HY := Lib.hid HY; have hb9 := below_step (w := w8) (by go_grown) hb; replace hP := hP.carry hb9; replace hR := hR.carry hb9; replace hT := hT.carry hb9; replace hbb := below_step hbb hb9; have hz9 := hb9.size; have lo9x : w8.heap.size ≤ g9 := Nat.le_trans (by simp) lo9; clear hb hb9 lo9 hPc0 hPc1 hPc2 hPc3 hPc4 hPc5 hPf hRc0 hRc1 hRc2 hRc3 hRc4 hRc5 hRf hTc0 hTc1 hTc2 hTc3 hTc4 hTf; obtain ⟨hPc0, hPc1, hPc2, hPc3, hPc4, hPc5, hPf⟩ := id hP; obtain ⟨hRc0, hRc1, hRc2, hRc3, hRc4, hRc5, hRf⟩ := id hR; obtain ⟨hTc0, hTc1, hTc2, hTc3, hTc4, hTf⟩ := id hT))
   all_goals (go_wp2_with fail; go_roundw)
   case rel => exact ⟨m', _, I4, d4, c4, l4, k4, g9, cap9, by simp [ndS], by simpa [ndS, bs] using HY.out, by omega, hP, hR, hbb, hp1.out⟩
   case measure => rw [hm0.out hc0.out, mea_bx hP]; split <;> (try omega); rename_i h0; have := hp2.out h0; omega
  | false =>
   cases q2 : isS T ⟨I, d, c, l, k⟩ [46] with
   | true =>
    have hc0 := Lib.hid (show c = 0 from (is_c q2).1)
    have htx : tx = [46] := by have := (is_c q2).2; rw [ht] at this; simp only [seesT, decide_eq_true_eq] at this; exact this.2
    have hxx : (X.toList == [91]) = false := by rw [← hX0, htx, bs_toList]; simp
    have HIa := Lib.hid (fun w' (hb : Below w.heap.size w w') => is_p (s := ⟨I, d, c, l, k⟩) (tc := tc) ((HV.out.at hI0).carry hb) { data := #[91] } [91] (by rw [ByteArray.toList_eq]) false q1)
    have HIb := Lib.hid (fun w' (hb : Below w.heap.size w w') => is_p (s := ⟨I, d, c, l, k⟩) (tc := tc) ((HV.out.at hI0).carry hb) { data := #[46] } [46] (by rw [ByteArray.toList_eq]) true q2)
    obtain ⟨⟨I2, d2, c2, l2, k2⟩, hs2⟩ : ∃ s, mustS T ⟨I, d, c, l, k⟩ [46] = s := ⟨_, rfl⟩
    have HM := Lib.hid (fun w' (hb : Below w.heap.size w w') => must_p (tc := tc) (s := ⟨I, d, c, l, k⟩) ((HV.out.at hI0).carry hb) { data := #[46] } [46] (by rw [ByteArray.toList_eq]) _ hs2)
    have hI2 : I2 < n := by have := (must_f hE.out HI.2.1.1 [46]).1; rw [hs2] at this; simp only at this; omega
    obtain ⟨⟨kd2, ln2, cl2, nm2, tx2⟩, ht2⟩ : ∃ t, nowS T ⟨I2, d2, c2, l2, k2⟩ = t := ⟨_, rfl⟩
    obtain ⟨⟨I3, d3, c3, l3, k3⟩, hs3⟩ : ∃ s, wordS T ⟨I2, d2, c2, l2, k2⟩ 1 = s := ⟨_, rfl⟩
    have HW := Lib.hid (fun w' (hb : Below w.heap.size w w') => word_p (tc := tc) (s := ⟨I2, d2, c2, l2, k2⟩) ((HV.out.at hI2).carry hb) 1 ht2 _ hs3)
    obtain ⟨X2, hX2⟩ : ∃ X, bs tx2 = X := ⟨_, rfl⟩
    rw [hX2] at HW
    obtain ⟨m', rfl, hp1, hp2⟩ := pinv_dot hE.out hB.out HI q1 q2
    rw [hs2, hs3, ht, ht2] at hp1
    rw [hs2, hs3] at hp2
    simp only at hp2
    replace hp1 := Lib.hid hp1
    replace hX2 := Lib.hid hX2
    clear hs0 s0 ht HI hs2 hs3 ht2 q1 q2 htx
    obtain ⟨hPc0, hPc1, hPc2, hPc3, hPc4, hPc5, hPf⟩ := id hP
    go_wp2_with fail
    refine (HIa.out _ (hbb)).mono ?_
    rintro e w3 ⟨rfl, hb⟩
    clear hPc0 hPc1 hPc2 hPc3 hPc4 hPc5 hPf
    replace hP := hP.carry hb
    replace hR := hR.carry hb
    replace HX := Lib.hid (HX.out.carry hb)
    replace hbb := below_step hbb hb
    have hz3 := hb.size
    clear hb
    have lhP := hP.lt
    have lhR := hR.lt
    obtain ⟨hPc0, hPc1, hPc2, hPc3, hPc4, hPc5, hPf⟩ := id hP
    go_wp2_with fail
    refine (HIb.out _ (hbb)).mono ?_
    rintro e w4 ⟨rfl, hb⟩
    clear hPc0 hPc1 hPc2 hPc3 hPc4 hPc5 hPf
    replace hP := hP.carry hb
    replace hR := hR.carry hb
    replace HX := Lib.hid (HX.out.carry hb)
    replace hbb := below_step hbb hb
    have hz4 := hb.size
    clear hb
    have lhP := hP.lt
    have lhR := hR.lt
    obtain ⟨hPc0, hPc1, hPc2, hPc3, hPc4, hPc5, hPf⟩ := id hP
    go_wp2_with fail
    refine (HN.out _ (hbb)).mono ?_
    rintro e w5 ⟨rfl, hb⟩
    clear hPc0 hPc1 hPc2 hPc3 hPc4 hPc5 hPf
    replace hP := hP.carry hb
    replace hR := hR.carry hb
    replace HX := Lib.hid (HX.out.carry hb)
    replace hbb := below_step hbb hb
    have hz5 := hb.size
    clear hb
    have lhP := hP.lt
    have lhR := hR.lt
    obtain ⟨hPc0, hPc1, hPc2, hPc3, hPc4, hPc5, hPf⟩ := id hP
    go_wp2_with fail
    refine (HM.out _ (below_step hbb (below_alloc _ _))).mono ?_
    rintro e w6 ⟨rfl, hb⟩
    clear hPc0 hPc1 hPc2 hPc3 hPc4 hPc5 hPf
    replace hP := (hP.carry (below_alloc _ _)).carry hb
    replace hR := (hR.carry (below_alloc _ _)).carry hb
    replace HX := Lib.hid ((HX.out.carry (below_alloc _ _)).carry hb)
    have hT := (Tx.made w5 kd ln cl nm X).carry hb
    replace hbb := below_step (below_step hbb (below_alloc _ _)) hb
    have hz6 := hb.size
    simp only [World.size_alloc] at hz6
    clear hb
    have lhP := hP.lt
    have lhR := hR.lt
    have lhT := hT.lt
    go_wp2_with fail
    refine (HW.out _ (hbb)).mono ?_
    rintro e w7 ⟨rfl, hb⟩
    replace hP := hP.carry hb
    replace hR := hR.carry hb
    replace hT := hT.carry hb
    replace HX := Lib.hid (HX.out.carry hb)
    replace hbb := below_step hbb hb
    have hz7 := hb.size
    clear hb
    have lhP := hP.lt
    have lhR := hR.lt
    have lhT := hT.lt
    obtain ⟨hPc0, hPc1, hPc2, hPc3, hPc4, hPc5, hPf⟩ := id hP
    obtain ⟨hTc0, hTc1, hTc2, hTc3, hTc4, hTf⟩ := id hT
    obtain ⟨W, hW, nhP, hO⟩ := put_ex hP (.slice (some ⟨tb, to, none⟩) n tc) I3 d3 c3 l3 k3
    have hsW := hO.size
    go_wp2_with fail
    rw [put_eq, hW.out]
    clear hPc0 hPc1 hPc2 hPc3 hPc4 hPc5 hPf hTc0 hTc1 hTc2 hTc3 hTc4 hTf
    replace hP := nhP
    replace hbb := hO.below hbb (by omega)
    replace hR := hR.oth hO (by omega)
    replace hT := hT.oth hO (by omega)
    replace HX := Lib.hid (HX.out.oth hO (by omega))
    clear hO nhP hW
    have lhP := hP.lt
    have lhR := hR.lt
    have lhT := hT.lt
    refine (node_q rfl (Lib.hid (HX.out.carry (by go_grown))) (by omega)).mono ?_
    rintro e w9 ⟨g9, cap9, rfl, HY, lo9, hb⟩
    replace hb := below_step (w := W) (by go_grown) hb; have lo9x : W.heap.size ≤ g9 := Nat.le_trans (by simp only [World.size_alloc]; omega) lo9
    replace hP := hP.carry hb
    replace hR := hR.carry hb
    replace hbb := below_step hbb hb
    replace HY := Lib.hid HY
    clear hb lo9
    go_wp2_with fail
    go_roundw
    case rel => exact ⟨m', _, I3, d3, c3, l3, k3, g9, cap9, by simp [ndS], by have := HY.out; rw [← hX2.out] at this; exact this, by omega, hP, hR, hbb, hp1.out⟩
    case measure => rw [hm0.out hc0.out, mea_bx hP]; split <;> omega
   | false =>
    have HIa := Lib.hid (fun w' (hb : Below w.heap.size w w') => is_p (s := ⟨I, d, c, l, k⟩) (tc := tc) ((HV.out.at hI0).carry hb) { data := #[91] } [91] (by rw [ByteArray.toList_eq]) false q1)
    have HIb := Lib.hid (fun w' (hb : Below w.heap.size w w') => is_p (s := ⟨I, d, c, l, k⟩) (tc := tc) ((HV.out.at hI0).carry hb) { data := #[46] } [46] (by rw [ByteArray.toList_eq]) false q2)
    obtain rfl := pinv_end HI q1 q2
    clear hs0 s0 ht HI q1 q2
    obtain ⟨hPc0, hPc1, hPc2, hPc3, hPc4, hPc5, hPf⟩ := id hP
    go_wp2_with fail
    refine (HIa.out _ (hbb)).mono ?_
    rintro e w3 ⟨rfl, hb⟩
    clear hPc0 hPc1 hPc2 hPc3 hPc4 hPc5 hPf
    replace hP := hP.carry hb
    replace hR := hR.carry hb
    replace HX := Lib.hid (HX.out.carry hb)
    replace hbb := below_step hbb hb
    have hz3 := hb.size
    clear hb
    have lhP := hP.lt
    have lhR := hR.lt
    obtain ⟨hPc0, hPc1, hPc2, hPc3, hPc4, hPc5, hPf⟩ := id hP
    go_wp2_with fail
    refine (HIb.out _ (hbb)).mono ?_
    rintro e w4 ⟨rfl, hb⟩
    clear hPc0 hPc1 hPc2 hPc3 hPc4 hPc5 hPf
    replace hP := hP.carry hb
    replace hR := hR.carry hb
    replace HX := Lib.hid (HX.out.carry hb)
    replace hbb := below_step hbb hb
    have hz4 := hb.size
    clear hb
    have lhP := hP.lt
    have lhR := hR.lt
    obtain ⟨hPc0, hPc1, hPc2, hPc3, hPc4, hPc5, hPf⟩ := id hP
    obtain ⟨hRc0, hRc1, hRc2, hRc3, hRc4, hRc5, hRf⟩ := id hR
    go_wp2_with fail
    go_region
    obtain ⟨V, hV, nR, hO⟩ := put_ex hR (.slice (some ⟨tb, to, none⟩) n tc) I d c l k
    rw [put_eq, hV.out]
    clear hR hRc0 hRc1 hRc2 hRc3 hRc4 hRc5 hRf
    have hR := nR
    replace hbb := hO.below hbb (by omega)
    replace HX := Lib.hid (HX.out.oth hO (by omega))
    clear hO nR
    obtain ⟨hRc0, hRc1, hRc2, hRc3, hRc4, hRc5, hRf⟩ := id hR
    go_wp2_with fail
    refine bodyPost_ret (v := .tuple #[.slice (some ⟨g, 0, none⟩) (x.length) cap, pQ tb to n tc I d c l k]) (by simp [results, Tryz.results51, go_sem, hRc0, hRc1, hRc2, hRc3, hRc4, hRc5]) rfl ⟨g, cap, rfl, HX.out, by omega, (by first | exact hbb | exact below_step hbb (by go_grown))⟩

end Go.Proofs.YtbknflaooemigaaGreat
