/-
 The document's Expression answers as said, level by level, if what it calls does. Conditions: those calls' contracts.
-/
import Derived.Test.YtbknflaooemigaaGreatDs
namespace Go.Proofs.YtbknflaooemigaaGreat
open Go.RowKit Go.Sort
set_option linter.unusedVariables false

theorem sign_any (lv : Nat) (h : 1 ≤ lv) (h6 : lv ≤ 6) (w : World) : Calls Tryz.prog 27 #[.int .i64 lv] w (SigR w (sg lv) (sg lv).length) := by
 rcases (show lv = 1 ∨ lv = 2 ∨ lv = 3 ∨ lv = 4 ∨ lv = 5 ∨ lv = 6 by omega) with rfl | rfl | rfl | rfl | rfl | rfl
 ·exact sign_1 w
 ·exact sign_2 w
 ·exact sign_3 w
 ·exact sign_4 w
 ·exact sign_5 w
 ·exact sign_6 w
theorem sg_len (lv : Nat) : 1 ≤ (sg lv).length ∧ (sg lv).length ≤ 4 := by
 unfold sg; split <;> decide
/-- What a level makes of what stands ahead: once, or as often as there are signs. -/
def contS (pr : Prop) [Decidable pr] (T : List Tok) (E : S → Rs) (L : List (List UInt8)) (m : Nat) (x : List Nd) (s : S) : Rs := if pr then (if anyIs T s L = true then stepS T E x s else (x, s)) else chainS T E L m x s
def CInv (pr : Prop) [Decidable pr] (T : List Tok) (N : Nat) (E : S → Rs) (L : List (List UInt8)) (R : Rs) (m : Nat) (x : List Nd) (s : S) : Prop := contS pr T E L m x s = R ∧ Fit T N s ∧ (s.c = 0 → T.length ≤ s.I + m) ∧ (s.c = 0 → x.length ≤ s.I) ∧ x.length ≤ s.I + 3
/-- Behind a round: the step was made, or none was there to make. -/
def Rnd (pr : Prop) [Decidable pr] (T : List Tok) (N : Nat) (E : S → Rs) (L : List (List UInt8)) (R : Rs) (b : Bool) (m : Nat) (x : List Nd) (s : S) : Prop := (b = true → CInv pr T N E L R m x s) ∧ (b = false → (x, s) = R) ∧ Fit T N s ∧ x.length ≤ s.I + 3

def OInv (w : World) (tb to n tc g h : Nat) (L : List (List UInt8)) (x : List Nd) (I : Nat) (d c l k : Int) (v : Value) (wr : World) : Prop :=
 ∃ (gx cap : Nat), v = .slice (some ⟨gx, 0, none⟩) x.length cap ∧ Lies (ndFlat x) gx wr ∧ w.heap.size + 1 + 1 ≤ gx ∧ Bx wr w.heap.size (.slice (some ⟨tb, to, none⟩) n tc) I d c l k ∧ Bx wr (w.heap.size + 1) (.slice none 0 0) 0 0 0 0 0 ∧ SRow wr g L ∧ IRow wr h (L.map opOf) ∧ Below w.heap.size w wr
def onM : Value → Nat
 | .bool true => 1
 | _ => 0
def ORel (pr : Prop) [Decidable pr] (w : World) (tb to n tc g h : Nat) (T : List Tok) (N : Nat) (E : S → Rs) (L : List (List UInt8)) (R : Rs) (v a : Value) (wr : World) : Prop :=
 ∃ (m : Nat) (x : List Nd) (I : Nat) (d c l k : Int) (b : Bool), OInv w tb to n tc g h L x I d c l k v wr ∧ a = .bool b ∧ Rnd pr T N E L R b m x ⟨I, d, c, l, k⟩
def NRel (w : World) (tb to n tc g h : Nat) (T : List Tok) (E : S → Rs) (L : List (List UInt8)) (x0 : List Nd) (s0 : S) (j v a : Value) (wr : World) : Prop :=
 ∃ (i : Nat) (x : List Nd) (I : Nat) (d c l k : Int) (b : Bool), i ≤ L.length ∧ j = .int .i64 i ∧ OInv w tb to n tc g h L x I d c l k v wr ∧ a = .bool b ∧ (b = false → x = x0 ∧ (⟨I, d, c, l, k⟩ : S) = s0 ∧ ∀ i' y, i' < i → L[i']? = some y → isS T s0 y = false) ∧ (b = true → ((x, ⟨I, d, c, l, k⟩) : Rs) = stepS T E x0 s0 ∧ anyIs T s0 L = true)

theorem bx_zero {W V : World} (hb : Below (W.alloc (.cells #[.slice none 0 0, .int .i64 0, .int .i64 0, .int .i64 0, .int .i64 0, .int .i64 0] 43)).heap.size (W.alloc (.cells #[.slice none 0 0, .int .i64 0, .int .i64 0, .int .i64 0, .int .i64 0, .int .i64 0] 43)) V) : Bx V W.heap.size (.slice none 0 0) 0 0 0 0 0 := (Bx.made W (.slice none 0 0) 0 0 0 0 0).carry hb
theorem bx_zero_drew {W V : World} (hb : Below (W.alloc (.cells #[.slice none 0 0, .int .i64 0, .int .i64 0, .int .i64 0, .int .i64 0, .int .i64 0] 43)).drew.heap.size (W.alloc (.cells #[.slice none 0 0, .int .i64 0, .int .i64 0, .int .i64 0, .int .i64 0, .int .i64 0] 43)).drew V) : Bx V W.heap.size (.slice none 0 0) 0 0 0 0 0 := ((Bx.made W (.slice none 0 0) 0 0 0 0 0).carry (below_alloc_drew _)).carry hb
theorem any_none {T : List Tok} {L : List (List UInt8)} {s : S} (h : ∀ i' y, i' < L.length → L[i']? = some y → isS T s y = false) : anyIs T s L = false := by
 unfold anyIs; rw [List.any_eq_false]; intro y hy
 obtain ⟨j, hj, rfl⟩ := List.getElem_of_mem hy
 rw [h j _ hj (List.getElem?_eq_getElem hj)]; decide
section
variable {pr : Prop} [Decidable pr] {T : List Tok} {N : Nat} {E : S → Rs} {L : List (List UInt8)} {R : Rs} {m : Nat} {x : List Nd} {s : S}
theorem cinv_end (h : CInv pr T N E L R m x s) (ha : anyIs T s L = false) : (x, s) = R := by
 rw [← h.1]; unfold contS
 split
 ·rw [ha, if_neg (by decide)]
 ·cases m with
  | zero => rfl
  | succ m => unfold chainS; rw [ha, if_neg (by decide)]
theorem cinv_pair (h : CInv pr T N E L R m x s) (hp : pr) (ha : anyIs T s L = true) : stepS T E x s = R := by
 rw [← h.1]; unfold contS; rw [if_pos hp, if_pos ha]
theorem cinv_step (hE : Ends T) (hB : Bd T N E) (h : CInv pr T N E L R m x s) (ha : anyIs T s L = true) : (stepS T E x s).2.I < T.length ∧ s.I + 1 ≤ (stepS T E x s).2.I ∧ s.c = 0 ∧ (stepS T E x s).1.length ≤ (stepS T E x s).2.I + 3 ∧ (¬ pr → ∃ m', CInv pr T N E L R m' (stepS T E x s).1 (stepS T E x s).2) := by
 obtain ⟨h1, h2, h3, h4, h5⟩ := h
 obtain ⟨a1, a2, a3⟩ := any_c ha
 obtain ⟨b1, b2, b3, b4⟩ := bnd_step (x := x) hE hB h2 a3
 have y3 := h3 a1
 have y4 := h4 a1
 refine ⟨b2, b1, a1, by omega, fun hp => ?_⟩
 have := h2.1
 obtain ⟨m, rfl⟩ : ∃ m', m = m' + 1 := ⟨m - 1, by omega⟩
 refine ⟨m, ?_, fit_up h2 b2 (by omega) (fun _ => a1), fun h0 => by omega, fun h0 => by have := b3 h0; omega, by omega⟩
 rw [← h1]; unfold contS; rw [if_neg hp, if_neg hp]; conv => rhs; unfold chainS; rw [if_pos ha]
end

set_option maxRecDepth 100000 in
set_option maxHeartbeats 10000000 in
theorem level_w {T : List Tok} {N : Nat} {E : S → Rs} {lv : Nat} (h1 : 1 ≤ lv) (h6 : lv ≤ 6) (hE : Hid (Ends T)) (hB : Hid (Bd T N E)) (hX : Hid (Dos T N 14 #[.int .i64 ((lv : Int) + 1)] E)) : Dos T N 14 #[.int .i64 lv] (fun s => contS (lv = 3 ∨ lv = 4) T E (sg lv) N (E s).1 (E s).2) := by
 intro w tb to n tc s h hf
 obtain ⟨Ia, da, ca, la, ka⟩ := s
 obtain ⟨⟨x1, ⟨I1, d1, c1, l1, k1⟩⟩, hx1⟩ : ∃ x1, E ⟨Ia, da, ca, la, ka⟩ = x1 := ⟨_, rfl⟩
 have HA : Hid (∀ w', Below w.heap.size w w' → Calls Tryz.prog 14 #[pQ tb to n tc Ia da ca la ka, .int .i64 ((lv : Int) + 1)] w' (RetQ w' x1 x1.length (pQ tb to n tc I1 d1 c1 l1 k1))) := Lib.hid (fun w' hb => by
  have := hX.out (tc := tc) (s := ⟨Ia, da, ca, la, ka⟩) (h.carry hb) hf
  rw [hx1] at this
  exact this)
 have hn1 := h.ln
 have hn2 := h.en.tn
 have HV := Lib.hid h
 have H27 := Lib.hid (fun w' => sign_any lv h1 h6 w')
 show Calls Tryz.prog 14 #[pQ tb to n tc Ia da ca la ka, .int .i64 lv] w (RetP w tb to n tc (contS (lv = 3 ∨ lv = 4) T E (sg lv) N (E ⟨Ia, da, ca, la, ka⟩).1 (E ⟨Ia, da, ca, la, ka⟩).2))
 have hb0 := hB.out _ hf
 rw [hx1] at hb0
 rw [hx1]
 obtain ⟨L, hL⟩ : ∃ L, sg lv = L := ⟨_, rfl⟩
 obtain ⟨kk, hk⟩ : ∃ kk, L.length = kk := ⟨_, rfl⟩
 have hk1 : 1 ≤ kk ∧ kk ≤ 4 := by rw [← hk, ← hL]; exact sg_len lv
 rw [hL, hk] at H27
 rw [hL]
 obtain ⟨R, hRR⟩ : ∃ R, contS (lv = 3 ∨ lv = 4) T E L N x1 ⟨I1, d1, c1, l1, k1⟩ = R := ⟨_, rfl⟩
 rw [hRR]
 have HR : Hid (CInv (lv = 3 ∨ lv = 4) T N E L R N x1 ⟨I1, d1, c1, l1, k1⟩) := Lib.hid (by
  obtain ⟨a1, a2, a3, a4, a5⟩ := hb0
  refine ⟨hRR, fit_up hf a2 a1 (fun h => (a4 h).1), fun h0 => ?_, fun h0 => ?_, ?_⟩
  ·have y1 := a4 h0; have x2 := hf.2.2 y1.1; show T.length ≤ I1 + N; simp only at a1 x2; omega
  ·have y1 := (a4 h0).2; simp only at y1; show x1.length ≤ I1; omega
  ·show x1.length ≤ I1 + 3; simp only at a5; omega)
 have hk' := Lib.hid hk
 have hn6 : ¬ (6 : Int) < lv := by omega
 clear hx1 hb0 h hRR hL hk
 go_enter Tryz.func14, Tryz.ntmps14
 go_wp2_with fail
 refine (HA.out _ (two_made w (.slice (some ⟨tb, to, none⟩) n tc) Ia da ca la ka).2.2).mono ?_
 rintro e w1 ⟨gx, cap, rfl, HX, log, hb⟩
 have hbb : Below w.heap.size w w1 := below_step (two_made w (.slice (some ⟨tb, to, none⟩) n tc) Ia da ca la ka).2.2 hb
 have hP := (two_made w (.slice (some ⟨tb, to, none⟩) n tc) Ia da ca la ka).1.carry hb
 have hR := (two_made w (.slice (some ⟨tb, to, none⟩) n tc) Ia da ca la ka).2.1.carry hb
 replace HX := Lib.hid HX
 simp only [World.size_alloc] at log
 clear hb
 have lhP := hP.lt
 have lhR := hR.lt
 obtain ⟨hPc0, hPc1, hPc2, hPc3, hPc4, hPc5, hPf⟩ := id hP
 obtain ⟨W, hW, nhP, hO⟩ := put_ex hP (.slice (some ⟨tb, to, none⟩) n tc) I1 d1 c1 l1 k1
 have hsW := hO.size
 go_wp2_with fail
 rw [put_eq, hW.out]
 clear hPc0 hPc1 hPc2 hPc3 hPc4 hPc5 hPf
 replace hP := nhP
 replace hbb := hO.below hbb (by omega)
 replace hR := hR.oth hO (by omega)
 replace HX := Lib.hid (HX.out.oth hO (by omega))
 clear hO nhP hW
 have lhP := hP.lt
 have lhR := hR.lt
 refine (H27.out _).mono ?_
 rintro e w2 ⟨g5, g6, rfl, HS, HO, lo5, lo6, hb⟩
 replace hP := hP.carry hb
 replace hR := hR.carry hb
 replace HX := Lib.hid (HX.out.carry hb)
 replace hbb := below_step hbb hb
 replace HS := Lib.hid HS
 replace HO := Lib.hid HO
 clear hb
 have lo5' : w.heap.size + 1 + 1 ≤ g5 := by omega
 have lo6' : w.heap.size + 1 + 1 ≤ g6 := by omega
 go_wp2_with fail
 go_loopw [6, 9] (fun v a wr => ORel (lv = 3 ∨ lv = 4) w tb to n tc g5 g6 T N E L R v a wr) (fun v a wr => 2 * mea n w.heap.size wr + onM a)
 case atStart => exact ⟨N, x1, I1, d1, c1, l1, k1, true, ⟨gx, cap, rfl, HX.out, by omega, hP, hR, HS.out, HO.out, hbb⟩, rfl, fun _ => HR.out, fun h => by simp at h, HR.out.2.1, HR.out.2.2.2.2⟩
 case round =>
  clear HR HX hP hR hbb log HA HS HO lhP lhR
  obtain ⟨m, x0, I0, d0, c0, l0, k0, b, ⟨gx0, cap0, rfl, HX, log, hP, hR, HS, HO, hbb⟩, rfl, HI1, HI2, hf0, hxl⟩ := hrel
  replace HX := Lib.hid HX
  replace HS := Lib.hid HS
  replace HO := Lib.hid HO
  have hI0 : I0 < n := by have := hf0.1; simp only at this; omega
  have hxl' : x0.length ≤ 70003 := by simp only at hxl; omega
  have lhP0 := hP.lt
  have lhR0 := hR.lt
  cases b with
  | false =>
   obtain rfl := HI2 rfl
   clear HI1 HI2
   obtain ⟨hPc0, hPc1, hPc2, hPc3, hPc4, hPc5, hPf⟩ := id hP
   obtain ⟨hRc0, hRc1, hRc2, hRc3, hRc4, hRc5, hRf⟩ := id hR
   go_wp2_with fail
   go_region
   obtain ⟨V, hV, nR, hO⟩ := put_ex hR (.slice (some ⟨tb, to, none⟩) n tc) I0 d0 c0 l0 k0
   rw [put_eq, hV.out]
   clear hR hRc0 hRc1 hRc2 hRc3 hRc4 hRc5 hRf
   have hR := nR
   replace hbb := hO.below hbb (by omega)
   replace HX := Lib.hid (HX.out.oth hO (by omega))
   clear hO nR
   obtain ⟨hRc0, hRc1, hRc2, hRc3, hRc4, hRc5, hRf⟩ := id hR
   go_wp2_with fail
   refine bodyPost_ret (v := .tuple #[.slice (some ⟨gx0, 0, none⟩) (x0.length) cap0, pQ tb to n tc I0 d0 c0 l0 k0]) (by simp [results, Tryz.results14, go_sem, hRc0, hRc1, hRc2, hRc3, hRc4, hRc5]) rfl ⟨gx0, cap0, rfl, HX.out, by omega, (by first | exact hbb | exact below_step hbb (by go_grown))⟩
  | true =>
   have hCI := Lib.hid (HI1 rfl)
   clear HI1 HI2 hxl
   obtain ⟨s0, hs0⟩ : ∃ s0 : S, (⟨I0, d0, c0, l0, k0⟩ : S) = s0 := ⟨_, rfl⟩
   have hm0 : Hid (2 * mea n w.heap.size wr + onM (.bool true) = 2 * (if s0.c = 0 then n + 1 - s0.I else 0) + 1) := Lib.hid (by rw [mea_bx hP, ← hs0]; rfl)
   rw [hs0] at hCI
   go_wp2_with fail
   go_loopw [35, 6, 9] (fun j v a wr => NRel w tb to n tc g5 g6 T E L x0 s0 j v a wr) (fun j v a wr => 4 - (intOf j).toNat)
   case atStart => exact ⟨0, x0, I0, d0, c0, l0, k0, false, Nat.zero_le _, rfl, ⟨gx0, cap0, rfl, HX.out, by omega, hP, hR, HS.out, HO.out, hbb⟩, rfl, fun _ => ⟨rfl, hs0, fun i' y h => absurd h (by omega)⟩, fun h => by simp at h⟩
   case round =>
    clear HX HS HO hP hR hbb log lhP0 lhR0 hs0 hI0 hf0
    obtain ⟨i, x, I, d, c, l, k, b, hi, rfl, ⟨gx, cap, rfl, HX, log, hP, hR, HS, HO, hbb⟩, rfl, HF, HT⟩ := hrel
    replace HX := Lib.hid HX
    replace HS := Lib.hid HS
    replace HO := Lib.hid HO
    rw [hk'.out] at hi
    have lhP0 := hP.lt
    have lhR0 := hR.lt
    rcases Nat.lt_or_ge i kk with hlt | hge
    ·cases b with
     | true =>
      obtain ⟨HT1, HT2⟩ := HT rfl
      clear HF HT
      obtain ⟨hPc0, hPc1, hPc2, hPc3, hPc4, hPc5, hPf⟩ := id hP
      go_wp2_with fail
      go_region
      go_wp2_with fail
      go_roundw
      case rel => exact ⟨i + 1, x, I, d, c, l, k, true, by rw [hk'.out]; omega, by go_num, ⟨gx, cap, rfl, HX.out.carry (by go_grown), log, hP.carry (by go_grown), hR.carry (by go_grown), HS.out.carry (by go_grown), HO.out.carry (by go_grown), below_step hbb (by go_grown)⟩, rfl, fun h => by simp at h, fun _ => ⟨HT1, HT2⟩⟩
      case measure => simp [intOf]; omega
     | false =>
      obtain ⟨rfl, hs0, hno⟩ := HF rfl
      replace hno := Lib.hid hno
      clear HF HT
      have hI0 : I < n := by have := hCI.out.2.1.1; rw [← hs0] at this; simp only at this; omega
      obtain ⟨y, hy⟩ : ∃ y, L[i]? = some y := ⟨L[i]'(by rw [hk'.out]; exact hlt), by simp [hk'.out, hlt]⟩
      obtain ⟨Y, hY⟩ : ∃ Y, bs y = Y := ⟨_, rfl⟩
      have hcx : wr.cell? ⟨g5, i, none⟩ = some (.string Y) := by rw [← hY]; exact HS.out.cell hy
      have hi0 : (0 : Int) ≤ (i : Int) := by omega
      have hi1 : (i : Int) < (kk : Int) := by omega
      cases q1 : isS T s0 y with
      | false =>
       have HI := Lib.hid (fun w' (hb : Below w.heap.size w w') => is_p (s := ⟨I, d, c, l, k⟩) (tc := tc) ((HV.out.at hI0).carry hb) Y y (by rw [← hY, bs_toList]) false (by rw [hs0]; exact q1))
       have hno' := Lib.hid (show ∀ i' z, i' < i + 1 → L[i']? = some z → isS T s0 z = false from fun i' z h hz => by
        by_cases e : i' = i
        ·subst e; rw [hy] at hz; cases hz; exact q1
        ·exact hno.out i' z (by omega) hz)
       clear q1 hno hy hY
       obtain ⟨hPc0, hPc1, hPc2, hPc3, hPc4, hPc5, hPf⟩ := id hP
       obtain ⟨hRc0, hRc1, hRc2, hRc3, hRc4, hRc5, hRf⟩ := id hR
       go_wp2_with fail
       go_region_held3 (fun w' => w'.cell? ⟨w.heap.size, 0, none⟩ = some (.slice (some ⟨tb, to, none⟩) n tc) ∧ w'.cell? ⟨w.heap.size, 1, none⟩ = some (.int .i64 I) ∧ w'.cell? ⟨w.heap.size, 2, none⟩ = some (.int .i64 d) ∧ w'.cell? ⟨w.heap.size, 3, none⟩ = some (.int .i64 c) ∧ w'.cell? ⟨w.heap.size, 4, none⟩ = some (.int .i64 l) ∧ w'.cell? ⟨w.heap.size, 5, none⟩ = some (.int .i64 k) ∧ w'.cell? ⟨g5, i, none⟩ = some (.string Y)) (first | (rw [put_eq]; refine put_gen (G := fun w' => w'.cell? ⟨w.heap.size, 0, none⟩ = some (.slice (some ⟨tb, to, none⟩) n tc) ∧ w'.cell? ⟨w.heap.size, 1, none⟩ = some (.int .i64 I) ∧ w'.cell? ⟨w.heap.size, 2, none⟩ = some (.int .i64 d) ∧ w'.cell? ⟨w.heap.size, 3, none⟩ = some (.int .i64 c) ∧ w'.cell? ⟨w.heap.size, 4, none⟩ = some (.int .i64 l) ∧ w'.cell? ⟨w.heap.size, 5, none⟩ = some (.int .i64 k) ∧ w'.cell? ⟨g5, i, none⟩ = some (.string Y)) hR ?_; intro V _ hO; exact ⟨(hO.cell (by omega)).trans hP.c0, (hO.cell (by omega)).trans hP.c1, (hO.cell (by omega)).trans hP.c2, (hO.cell (by omega)).trans hP.c3, (hO.cell (by omega)).trans hP.c4, (hO.cell (by omega)).trans hP.c5, (hO.cell (by omega)).trans hcx⟩) | go_keep) (first | (go_at_call 28; refine (HI.out _ (below_step hbb (by go_grown))).mono ?_; rintro e w90 ⟨rfl, hb⟩; have hzz := hb.size; (try simp only [World.size_drew] at hzz); (try simp only [World.size_alloc] at hzz); (try simp only [World.size_drew] at hzz); (try simp only [World.size_alloc] at hzz); have hlR := hR.lt; have hb9 := below_from hbb (by go_grown) hb; replace hP := hP.carry hb9; replace hR := hR.carry hb9; (try replace HX := Lib.hid (HX.out.carry hb9)); replace HS := Lib.hid (HS.out.carry hb9); replace HO := Lib.hid (HO.out.carry hb9); replace hcx := cell_carry hb9 hcx; replace hbb := below_step hbb hb9; clear hb hb9 hlR; (try clear hPc0); (try clear hPc1); (try clear hPc2); (try clear hPc3); (try clear hPc4); (try clear hPc5); (try clear hPf); (try clear hRc0); (try clear hRc1); (try clear hRc2); (try clear hRc3); (try clear hRc4); (try clear hRc5); (try clear hRf); obtain ⟨hPc0, hPc1, hPc2, hPc3, hPc4, hPc5, hPf⟩ := id hP; obtain ⟨hRc0, hRc1, hRc2, hRc3, hRc4, hRc5, hRf⟩ := id hR))
       all_goals (go_wp2_with fail; go_roundw)
       case rel => exact ⟨i + 1, x, I, d, c, l, k, false, by rw [hk'.out]; omega, by go_num, ⟨gx, cap, rfl, HX.out, log, hP, hR, HS.out, HO.out, hbb⟩, rfl, fun _ => ⟨rfl, hs0, hno'.out⟩, fun h => by simp at h⟩
       case measure => simp [intOf]; omega
      | true =>
       have HI := Lib.hid (fun w' (hb : Below w.heap.size w w') => is_p (s := ⟨I, d, c, l, k⟩) (tc := tc) ((HV.out.at hI0).carry hb) Y y (by rw [← hY, bs_toList]) true (by rw [hs0]; exact q1))
       have ha : anyIs T s0 L = true := List.any_eq_true.2 ⟨y, List.mem_of_getElem? hy, q1⟩
       obtain ⟨⟨kd, ln, cl, nm, tx⟩, ht⟩ : ∃ t, nowS T ⟨I, d, c, l, k⟩ = t := ⟨_, rfl⟩
       have htx : tx = y := by have q2 := (is_c q1).2; rw [← hs0, ht] at q2; simp only [seesT, decide_eq_true_eq] at q2; exact q2.2
       have HN := Lib.hid (fun w' (hb : Below w.heap.size w w') => now_p (tc := tc) (s := ⟨I, d, c, l, k⟩) ((HV.out.at hI0).carry hb) ht)
       obtain ⟨X, hX0⟩ : ∃ X, bs tx = X := ⟨_, rfl⟩
       rw [hX0] at HN
       obtain ⟨op, hop⟩ : ∃ op, opOf y = op := ⟨_, rfl⟩
       have hox : wr.cell? ⟨g6, i, none⟩ = some (.int .i64 op) := by rw [← hop]; exact HO.out.cell (by rw [List.getElem?_map, hy]; rfl)
       obtain ⟨⟨I2, d2, c2, l2, k2⟩, hs2⟩ : ∃ s, mustS T ⟨I, d, c, l, k⟩ y = s := ⟨_, rfl⟩
       have HM := Lib.hid (fun w' (hb : Below w.heap.size w w') => must_p (tc := tc) (s := ⟨I, d, c, l, k⟩) ((HV.out.at hI0).carry hb) Y y (by rw [← hY, bs_toList]) _ hs2)
       have hci := hCI.out
       rw [← hs0] at hci ha
       have hf2 : Fit T N ⟨I2, d2, c2, l2, k2⟩ := by
        obtain ⟨m1, m2, m3, m4, m5⟩ := must_f hE.out hci.2.1.1 y
        rw [← hs2]; exact fit_up hci.2.1 m1 m2 (fun _ => (any_c ha).1)
       have hI2 : I2 < n := by have := hf2.1; simp only at this; omega
       obtain ⟨⟨y3, ⟨I3, d3, c3, l3, k3⟩⟩, hy3⟩ : ∃ q, E ⟨I2, d2, c2, l2, k2⟩ = q := ⟨_, rfl⟩
       have HE2 : Hid (∀ w', Below w.heap.size w w' → Calls Tryz.prog 14 #[pQ tb to n tc I2 d2 c2 l2 k2, .int .i64 ((lv : Int) + 1)] w' (RetQ w' y3 y3.length (pQ tb to n tc I3 d3 c3 l3 k3))) := Lib.hid (fun w' hb => by
        have := hX.out (tc := tc) (s := ⟨I2, d2, c2, l2, k2⟩) ((HV.out.at hI2).carry hb) hf2
        rw [hy3] at this
        exact this)
       have hst : stepS T E x s0 = (ndS 31 ⟨kd, ln, cl, nm, tx⟩ [] op (x ++ y3), ⟨I3, d3, c3, l3, k3⟩) := by
        unfold stepS
        rw [← hs0, ht]
        simp only [htx, hs2, hy3, hop]
       have hy3l : y3.length ≤ 70003 := by
        obtain ⟨a1, a2, a3, a4, a5⟩ := hB.out _ hf2
        rw [hy3] at a2 a5; simp only at a2 a5; omega
       rw [hs0] at ha
       replace hst := Lib.hid hst
       replace ha := Lib.hid ha
       have hy' := hy
       have hY' := hY
       have hop' := hop
       clear q1 hno hy hY hs2 hci hf2 hy3 ht htx hX0 hop
       have HSc := Lib.hid (fun w' (h : SRow w' g5 L) => show w'.cell? ⟨g5, i, none⟩ = some (.string Y) by rw [← hY']; exact h.cell hy')
       have HOc := Lib.hid (fun w' (h : IRow w' g6 (L.map opOf)) => show w'.cell? ⟨g6, i, none⟩ = some (.int .i64 op) by rw [← hop']; exact h.cell (by rw [List.getElem?_map, hy']; rfl))
       clear hy' hY' hop' hox
       obtain ⟨hPc0, hPc1, hPc2, hPc3, hPc4, hPc5, hPf⟩ := id hP
       obtain ⟨hRc0, hRc1, hRc2, hRc3, hRc4, hRc5, hRf⟩ := id hR
       go_wp2_with fail
       go_region_held3 (fun w' => w'.cell? ⟨w.heap.size, 0, none⟩ = some (.slice (some ⟨tb, to, none⟩) n tc) ∧ w'.cell? ⟨w.heap.size, 1, none⟩ = some (.int .i64 I) ∧ w'.cell? ⟨w.heap.size, 2, none⟩ = some (.int .i64 d) ∧ w'.cell? ⟨w.heap.size, 3, none⟩ = some (.int .i64 c) ∧ w'.cell? ⟨w.heap.size, 4, none⟩ = some (.int .i64 l) ∧ w'.cell? ⟨w.heap.size, 5, none⟩ = some (.int .i64 k) ∧ w'.cell? ⟨g5, i, none⟩ = some (.string Y)) (first | (rw [put_eq]; refine put_gen (G := fun w' => w'.cell? ⟨w.heap.size, 0, none⟩ = some (.slice (some ⟨tb, to, none⟩) n tc) ∧ w'.cell? ⟨w.heap.size, 1, none⟩ = some (.int .i64 I) ∧ w'.cell? ⟨w.heap.size, 2, none⟩ = some (.int .i64 d) ∧ w'.cell? ⟨w.heap.size, 3, none⟩ = some (.int .i64 c) ∧ w'.cell? ⟨w.heap.size, 4, none⟩ = some (.int .i64 l) ∧ w'.cell? ⟨w.heap.size, 5, none⟩ = some (.int .i64 k) ∧ w'.cell? ⟨g5, i, none⟩ = some (.string Y)) hR ?_; intro V _ hO; exact ⟨(hO.cell (by omega)).trans hP.c0, (hO.cell (by omega)).trans hP.c1, (hO.cell (by omega)).trans hP.c2, (hO.cell (by omega)).trans hP.c3, (hO.cell (by omega)).trans hP.c4, (hO.cell (by omega)).trans hP.c5, (hO.cell (by omega)).trans hcx⟩) | go_keep) (first | (go_at_call 28; refine (HI.out _ (below_step hbb (by go_grown))).mono ?_; rintro e w90 ⟨rfl, hb⟩; have hzz := hb.size; (try simp only [World.size_drew] at hzz); (try simp only [World.size_alloc] at hzz); (try simp only [World.size_drew] at hzz); (try simp only [World.size_alloc] at hzz); have hlR := hR.lt; have hb9 := below_from hbb (by go_grown) hb; replace hP := hP.carry hb9; replace hR := hR.carry hb9; (try replace HX := Lib.hid (HX.out.carry hb9)); replace HS := Lib.hid (HS.out.carry hb9); replace HO := Lib.hid (HO.out.carry hb9); replace hcx := cell_carry hb9 hcx; replace hbb := below_step hbb hb9; clear hb hb9 hlR; (try clear hPc0); (try clear hPc1); (try clear hPc2); (try clear hPc3); (try clear hPc4); (try clear hPc5); (try clear hPf); (try clear hRc0); (try clear hRc1); (try clear hRc2); (try clear hRc3); (try clear hRc4); (try clear hRc5); (try clear hRf); obtain ⟨hPc0, hPc1, hPc2, hPc3, hPc4, hPc5, hPf⟩ := id hP; obtain ⟨hRc0, hRc1, hRc2, hRc3, hRc4, hRc5, hRf⟩ := id hR))
       go_wp2_with fail
       refine (HN.out _ (hbb)).mono ?_
       rintro e w5 ⟨rfl, hb⟩
       clear hPc0 hPc1 hPc2 hPc3 hPc4 hPc5 hPf hRc0 hRc1 hRc2 hRc3 hRc4 hRc5 hRf
       replace hP := hP.carry hb
       replace hR := hR.carry hb
       replace HX := Lib.hid (HX.out.carry hb)
       replace HS := Lib.hid (HS.out.carry hb)
       replace HO := Lib.hid (HO.out.carry hb)
       replace hbb := below_step hbb hb
       have hz5 := hb.size
       clear hb
       have lhP := hP.lt
       have lhR := hR.lt
       obtain ⟨hPc0, hPc1, hPc2, hPc3, hPc4, hPc5, hPf⟩ := id hP
       obtain ⟨hRc0, hRc1, hRc2, hRc3, hRc4, hRc5, hRf⟩ := id hR
       go_wp2_with fail
       clear hPc0 hPc1 hPc2 hPc3 hPc4 hPc5 hPf hRc0 hRc1 hRc2 hRc3 hRc4 hRc5 hRf
       obtain ⟨W, hW⟩ : ∃ W, W = (w5.alloc (.cells #[.int .u8 kd, .int .i64 ln, .int .i64 cl, .int .i64 nm, .string X] 38)) := ⟨_, rfl⟩
       rw [← hW]
       have hbW : Below w5.heap.size w5 W := by rw [hW]; go_grown
       replace hbb := below_step hbb hbW
       replace hP := hP.carry hbW
       replace hR := hR.carry hbW
       replace HX := Lib.hid (HX.out.carry hbW)
       replace HS := Lib.hid (HS.out.carry hbW)
       replace HO := Lib.hid (HO.out.carry hbW)
       have hT : Tx W w5.heap.size kd ln cl nm X := by rw [hW]; exact (Tx.made w5 kd ln cl nm X)
       clear hbW
       have hzW : W.heap.size = w5.heap.size + 1 := by rw [hW]; simp
       clear hW
       have lhP := hP.lt
       have lhR := hR.lt
       have lhT := hT.lt
       replace hcx := HSc.out _ HS.out
       have hwr : IntKind.i64.wrap ((lv : Int) + 1) = (lv : Int) + 1 := by rw [IntKind.wrap_i64]; omega
       have hwr2 : wrap64 ((lv : Int) + 1) = (lv : Int) + 1 := by unfold wrap64; omega
       have lgx := HX.out.1
       have lg5 := lt_of_heap HS.out
       have lg6 := lt_of_heap HO.out
       obtain ⟨hPc0, hPc1, hPc2, hPc3, hPc4, hPc5, hPf⟩ := id hP
       obtain ⟨hRc0, hRc1, hRc2, hRc3, hRc4, hRc5, hRf⟩ := id hR
       obtain ⟨hTc0, hTc1, hTc2, hTc3, hTc4, hTf⟩ := id hT
       go_region_held3 (fun w' => w'.cell? ⟨w.heap.size, 0, none⟩ = some (.slice (some ⟨tb, to, none⟩) n tc) ∧ w'.cell? ⟨w.heap.size, 1, none⟩ = some (.int .i64 I) ∧ w'.cell? ⟨w.heap.size, 2, none⟩ = some (.int .i64 d) ∧ w'.cell? ⟨w.heap.size, 3, none⟩ = some (.int .i64 c) ∧ w'.cell? ⟨w.heap.size, 4, none⟩ = some (.int .i64 l) ∧ w'.cell? ⟨w.heap.size, 5, none⟩ = some (.int .i64 k) ∧ w'.cell? ⟨g5, i, none⟩ = some (.string Y)) (first | (rw [put_eq]; refine put_gen (G := fun w' => w'.cell? ⟨w.heap.size, 0, none⟩ = some (.slice (some ⟨tb, to, none⟩) n tc) ∧ w'.cell? ⟨w.heap.size, 1, none⟩ = some (.int .i64 I) ∧ w'.cell? ⟨w.heap.size, 2, none⟩ = some (.int .i64 d) ∧ w'.cell? ⟨w.heap.size, 3, none⟩ = some (.int .i64 c) ∧ w'.cell? ⟨w.heap.size, 4, none⟩ = some (.int .i64 l) ∧ w'.cell? ⟨w.heap.size, 5, none⟩ = some (.int .i64 k) ∧ w'.cell? ⟨g5, i, none⟩ = some (.string Y)) hQ ?_; intro V _ hO; exact ⟨(hO.cell (by omega)).trans hP.c0, (hO.cell (by omega)).trans hP.c1, (hO.cell (by omega)).trans hP.c2, (hO.cell (by omega)).trans hP.c3, (hO.cell (by omega)).trans hP.c4, (hO.cell (by omega)).trans hP.c5, (hO.cell (by omega)).trans hcx⟩) | (rw [put_eq]; refine put_gen (G := fun w' => w'.cell? ⟨w.heap.size, 0, none⟩ = some (.slice (some ⟨tb, to, none⟩) n tc) ∧ w'.cell? ⟨w.heap.size, 1, none⟩ = some (.int .i64 I) ∧ w'.cell? ⟨w.heap.size, 2, none⟩ = some (.int .i64 d) ∧ w'.cell? ⟨w.heap.size, 3, none⟩ = some (.int .i64 c) ∧ w'.cell? ⟨w.heap.size, 4, none⟩ = some (.int .i64 l) ∧ w'.cell? ⟨w.heap.size, 5, none⟩ = some (.int .i64 k) ∧ w'.cell? ⟨g5, i, none⟩ = some (.string Y)) (Bx.made _ (.slice none 0 0) 0 0 0 0 0) ?_; intro V _ hO; exact ⟨(hO.cell (by omega)).trans (hP.carry (below_alloc _ _)).c0, (hO.cell (by omega)).trans (hP.carry (below_alloc _ _)).c1, (hO.cell (by omega)).trans (hP.carry (below_alloc _ _)).c2, (hO.cell (by omega)).trans (hP.carry (below_alloc _ _)).c3, (hO.cell (by omega)).trans (hP.carry (below_alloc _ _)).c4, (hO.cell (by omega)).trans (hP.carry (below_alloc _ _)).c5, (hO.cell (by omega)).trans (cell_carry (below_alloc _ _) hcx)⟩) | (exact ⟨(hP.carry (by go_grown)).c0, (hP.carry (by go_grown)).c1, (hP.carry (by go_grown)).c2, (hP.carry (by go_grown)).c3, (hP.carry (by go_grown)).c4, (hP.carry (by go_grown)).c5, cell_carry (by go_grown) hcx⟩) | go_keep) (first | (go_at_call 30; refine (HM.out _ (below_step hbb (by go_grown))).mono ?_; rintro e wm ⟨rfl, hb⟩; have hzz := hb.size; (try simp only [World.size_drew] at hzz); (try simp only [World.size_alloc] at hzz); (try simp only [World.size_drew] at hzz); (try simp only [World.size_alloc] at hzz); have hlR := hR.lt; have hb9 := below_from hbb (by go_grown) hb; replace hP := hP.carry hb9; replace hR := hR.carry hb9; replace hT := hT.carry hb9; (try replace HX := Lib.hid (HX.out.carry hb9)); (try replace HS := Lib.hid (HS.out.carry hb9)); (try replace HO := Lib.hid (HO.out.carry hb9)); replace hcx := cell_carry hb9 hcx; (first | (with_reducible have hQ := bx_zero hb) | (with_reducible have hQ := bx_zero_drew hb; rw [hzW] at hQ) | (with_reducible replace hQ := hQ.carry hb) | skip); replace hbb := below_step hbb hb9; have lgx := HX.out.1; have lg5 := lt_of_heap HS.out; have lg6 := lt_of_heap HO.out; clear hb hb9 hlR; (try clear hPc0); (try clear hPc1); (try clear hPc2); (try clear hPc3); (try clear hPc4); (try clear hPc5); (try clear hPf); (try clear hRc0); (try clear hRc1); (try clear hRc2); (try clear hRc3); (try clear hRc4); (try clear hRc5); (try clear hRf); (try clear hTc0); (try clear hTc1); (try clear hTc2); (try clear hTc3); (try clear hTc4); (try clear hTf); obtain ⟨hPc0, hPc1, hPc2, hPc3, hPc4, hPc5, hPf⟩ := id hP; obtain ⟨hRc0, hRc1, hRc2, hRc3, hRc4, hRc5, hRf⟩ := id hR; obtain ⟨hTc0, hTc1, hTc2, hTc3, hTc4, hTf⟩ := id hT; (try clear hQc0 hQc1 hQc2 hQc3 hQc4 hQc5 hQf); (try obtain ⟨hQc0, hQc1, hQc2, hQc3, hQc4, hQc5, hQf⟩ := id hQ); have lhPz := hP.lt; have lhRz := hR.lt; have lhTz := hT.lt; (try have lhQz := hQ.lt)) | (go_at_call 14; refine (HE2.out _ (below_step hbb (by go_grown))).mono ?_; rintro e we ⟨g3, cap3, rfl, HY, lo, hb⟩; have hzz := hb.size; (try simp only [World.size_drew] at hzz); (try simp only [World.size_alloc] at hzz); (try simp only [World.size_drew] at hzz); (try simp only [World.size_alloc] at hzz); have hlR := hR.lt; replace HY := Lib.hid HY; have loHY : w.heap.size + 1 + 1 ≤ g3 := Nat.le_trans (by (try simp only [World.size_drew]); (try simp only [World.size_alloc]); (try simp only [World.size_drew]); (try simp only [World.size_alloc]); omega) lo; have lo3 := lo; (try simp only [World.size_drew] at lo3); (try simp only [World.size_alloc] at lo3); clear lo; have hb9 := below_from hbb (by go_grown) hb; replace hP := hP.carry hb9; replace hR := hR.carry hb9; replace hT := hT.carry hb9; (try replace HX := Lib.hid (HX.out.carry hb9)); (try replace HS := Lib.hid (HS.out.carry hb9)); (try replace HO := Lib.hid (HO.out.carry hb9)); replace hcx := cell_carry hb9 hcx; (first | (with_reducible have hQ := bx_zero hb) | (with_reducible have hQ := bx_zero_drew hb; rw [hzW] at hQ) | (with_reducible replace hQ := hQ.carry hb) | skip); replace hbb := below_step hbb hb9; have lgx := HX.out.1; have lg5 := lt_of_heap HS.out; have lg6 := lt_of_heap HO.out; clear hb hb9 hlR; (try clear hPc0); (try clear hPc1); (try clear hPc2); (try clear hPc3); (try clear hPc4); (try clear hPc5); (try clear hPf); (try clear hRc0); (try clear hRc1); (try clear hRc2); (try clear hRc3); (try clear hRc4); (try clear hRc5); (try clear hRf); (try clear hTc0); (try clear hTc1); (try clear hTc2); (try clear hTc3); (try clear hTc4); (try clear hTf); obtain ⟨hPc0, hPc1, hPc2, hPc3, hPc4, hPc5, hPf⟩ := id hP; obtain ⟨hRc0, hRc1, hRc2, hRc3, hRc4, hRc5, hRf⟩ := id hR; obtain ⟨hTc0, hTc1, hTc2, hTc3, hTc4, hTf⟩ := id hT; (try clear hQc0 hQc1 hQc2 hQc3 hQc4 hQc5 hQf); (try obtain ⟨hQc0, hQc1, hQc2, hQc3, hQc4, hQc5, hQf⟩ := id hQ); have lhPz := hP.lt; have lhRz := hR.lt; have lhTz := hT.lt; (try have lhQz := hQ.lt)))
       all_goals (first | (obtain ⟨V, hV, nQ, hO⟩ := put_ex hQ (.slice (some ⟨tb, to, none⟩) n tc) I3 d3 c3 l3 k3; rw [put_eq, hV.out]; (try clear hPc0 hPc1 hPc2 hPc3 hPc4 hPc5 hPf); (try clear hRc0 hRc1 hRc2 hRc3 hRc4 hRc5 hRf); (try clear hTc0 hTc1 hTc2 hTc3 hTc4 hTf); (try clear hQc0 hQc1 hQc2 hQc3 hQc4 hQc5 hQf); replace hQ := nQ; replace hbb := hO.below hbb (by omega); replace hP := hP.oth hO (by omega); replace hR := hR.oth hO (by omega); replace hT := hT.oth hO (by omega); replace HX := Lib.hid (HX.out.oth hO (by omega)); replace HS := Lib.hid (HS.out.oth hO (by omega)); replace HO := Lib.hid (HO.out.oth hO (by omega)); replace HY := Lib.hid (HY.out.oth hO (by omega)); have hsV := hO.size; clear hO nQ hV) | (obtain ⟨V, hV⟩ : ∃ V, V = we.alloc (.cells #[(.slice (some ⟨tb, to, none⟩) n tc), .int .i64 I3, .int .i64 d3, .int .i64 c3, .int .i64 l3, .int .i64 k3] 43) := ⟨_, rfl⟩; rw [← hV]; have hbV : Below we.heap.size we V := (by subst hV; exact below_alloc _ _); (try clear hPc0 hPc1 hPc2 hPc3 hPc4 hPc5 hPf); (try clear hRc0 hRc1 hRc2 hRc3 hRc4 hRc5 hRf); (try clear hTc0 hTc1 hTc2 hTc3 hTc4 hTf); (try clear hQc0 hQc1 hQc2 hQc3 hQc4 hQc5 hQf); have hQ : Bx V we.heap.size (.slice (some ⟨tb, to, none⟩) n tc) I3 d3 c3 l3 k3 := (by subst hV; exact Bx.made we (.slice (some ⟨tb, to, none⟩) n tc) I3 d3 c3 l3 k3); replace hbb := below_step hbb hbV; replace hP := hP.carry hbV; replace hR := hR.carry hbV; replace hT := hT.carry hbV; replace HX := Lib.hid (HX.out.carry hbV); replace HS := Lib.hid (HS.out.carry hbV); replace HO := Lib.hid (HO.out.carry hbV); replace HY := Lib.hid (HY.out.carry hbV); have hsV := hbV.size; clear hbV hV))
       all_goals
        clear hcx
        have hox := HOc.out _ HO.out
        have lhP9 := hP.lt
        have lhR9 := hR.lt
        have lhT9 := hT.lt
        have lhQ9 := hQ.lt
        have hlg9 := HX.out.1
        obtain ⟨hPc0, hPc1, hPc2, hPc3, hPc4, hPc5, hPf⟩ := id hP
        obtain ⟨hRc0, hRc1, hRc2, hRc3, hRc4, hRc5, hRf⟩ := id hR
        obtain ⟨hTc0, hTc1, hTc2, hTc3, hTc4, hTf⟩ := id hT
        obtain ⟨hQc0, hQc1, hQc2, hQc3, hQc4, hQc5, hQf⟩ := id hQ
        go_wp2_with fail
        go_region_held3 (fun w' => w'.cell? ⟨w5.heap.size, 0, none⟩ = some (.int .u8 kd) ∧ w'.cell? ⟨w5.heap.size, 1, none⟩ = some (.int .i64 ln) ∧ w'.cell? ⟨w5.heap.size, 2, none⟩ = some (.int .i64 cl) ∧ w'.cell? ⟨w5.heap.size, 3, none⟩ = some (.int .i64 nm) ∧ w'.cell? ⟨w5.heap.size, 4, none⟩ = some (.string X) ∧ w'.cell? ⟨g6, i, none⟩ = some (.int .i64 op)) (first | go_keep) (first | (go_at_call 32; refine (join_q rfl rfl (Lib.hid (HX.out.carry (by go_grown))) (Lib.hid (HY.out.carry (by go_grown))) (by omega)).mono ?_; rintro e wj ⟨g8, cap8, rfl, HJ, lo, hb⟩; have hzz := hb.size; (try simp only [World.size_drew] at hzz); (try simp only [World.size_alloc] at hzz); (try simp only [World.size_drew] at hzz); (try simp only [World.size_alloc] at hzz); have hlR := hR.lt; replace HJ := Lib.hid HJ; have loHJ : w.heap.size + 1 + 1 ≤ g8 := Nat.le_trans (by (try simp only [World.size_drew]); (try simp only [World.size_alloc]); (try simp only [World.size_drew]); (try simp only [World.size_alloc]); omega) lo; clear lo; have hb9 := below_from hbb (by go_grown) hb; replace hP := hP.carry hb9; replace hR := hR.carry hb9; replace hT := hT.carry hb9; replace hQ := hQ.carry hb9; (try replace HX := Lib.hid (HX.out.carry hb9)); (try replace HS := Lib.hid (HS.out.carry hb9)); (try replace HO := Lib.hid (HO.out.carry hb9)); (try replace HY := Lib.hid (HY.out.carry hb9)); (try replace HK := Lib.hid (HK.out.carry hb9)); replace hox := cell_carry hb9 hox; replace hbb := below_step hbb hb9; clear hb hb9 hlR; (try clear hPc0); (try clear hPc1); (try clear hPc2); (try clear hPc3); (try clear hPc4); (try clear hPc5); (try clear hPf); (try clear hRc0); (try clear hRc1); (try clear hRc2); (try clear hRc3); (try clear hRc4); (try clear hRc5); (try clear hRf); (try clear hTc0); (try clear hTc1); (try clear hTc2); (try clear hTc3); (try clear hTc4); (try clear hTf); (try clear hQc0); (try clear hQc1); (try clear hQc2); (try clear hQc3); (try clear hQc4); (try clear hQc5); (try clear hQf); obtain ⟨hPc0, hPc1, hPc2, hPc3, hPc4, hPc5, hPf⟩ := id hP; obtain ⟨hRc0, hRc1, hRc2, hRc3, hRc4, hRc5, hRf⟩ := id hR; obtain ⟨hTc0, hTc1, hTc2, hTc3, hTc4, hTf⟩ := id hT; obtain ⟨hQc0, hQc1, hQc2, hQc3, hQc4, hQc5, hQf⟩ := id hQ) | (go_at_call 31; refine (node_q List.length_append (Lib.hid (HJ.out.carry (by go_grown))) (by omega)).mono ?_; rintro e wn ⟨g9, cap9, rfl, HK, lo, hb⟩; have hzz := hb.size; (try simp only [World.size_drew] at hzz); (try simp only [World.size_alloc] at hzz); (try simp only [World.size_drew] at hzz); (try simp only [World.size_alloc] at hzz); have hlR := hR.lt; replace HK := Lib.hid HK; have loHK : w.heap.size + 1 + 1 ≤ g9 := Nat.le_trans (by (try simp only [World.size_drew]); (try simp only [World.size_alloc]); (try simp only [World.size_drew]); (try simp only [World.size_alloc]); omega) lo; clear lo; have hb9 := below_from hbb (by go_grown) hb; replace hP := hP.carry hb9; replace hR := hR.carry hb9; replace hT := hT.carry hb9; replace hQ := hQ.carry hb9; (try replace HX := Lib.hid (HX.out.carry hb9)); (try replace HS := Lib.hid (HS.out.carry hb9)); (try replace HO := Lib.hid (HO.out.carry hb9)); (try replace HY := Lib.hid (HY.out.carry hb9)); (try replace HJ := Lib.hid (HJ.out.carry hb9)); replace hox := cell_carry hb9 hox; replace hbb := below_step hbb hb9; clear hb hb9 hlR; (try clear hPc0); (try clear hPc1); (try clear hPc2); (try clear hPc3); (try clear hPc4); (try clear hPc5); (try clear hPf); (try clear hRc0); (try clear hRc1); (try clear hRc2); (try clear hRc3); (try clear hRc4); (try clear hRc5); (try clear hRf); (try clear hTc0); (try clear hTc1); (try clear hTc2); (try clear hTc3); (try clear hTc4); (try clear hTf); (try clear hQc0); (try clear hQc1); (try clear hQc2); (try clear hQc3); (try clear hQc4); (try clear hQc5); (try clear hQf); obtain ⟨hPc0, hPc1, hPc2, hPc3, hPc4, hPc5, hPf⟩ := id hP; obtain ⟨hRc0, hRc1, hRc2, hRc3, hRc4, hRc5, hRf⟩ := id hR; obtain ⟨hTc0, hTc1, hTc2, hTc3, hTc4, hTf⟩ := id hT; obtain ⟨hQc0, hQc1, hQc2, hQc3, hQc4, hQc5, hQf⟩ := id hQ))
        obtain ⟨V2, hV2, nP, hO⟩ := put_ex hP (.slice (some ⟨tb, to, none⟩) n tc) I3 d3 c3 l3 k3
        have hsV2 := hO.size
        go_wp2_with fail
        rw [put_eq, hV2.out]
        replace hbb := hO.below hbb (by omega)
        replace hR := hR.oth hO (by omega)
        replace HK := Lib.hid (HK.out.oth hO (by omega))
        replace HS := Lib.hid (HS.out.oth hO (by omega))
        replace HO := Lib.hid (HO.out.oth hO (by omega))
        clear hO
        go_roundw
        case rel => exact ⟨i + 1, ndS 31 ⟨kd, ln, cl, nm, tx⟩ [] op (x ++ y3), I3, d3, c3, l3, k3, true, (by rw [hk'.out]; omega), (by go_num), ⟨g9, cap9, (by rw [ndS_len, List.length_append]), (by have z := HK.out; rw [← List.length_append] at z; exact z), (by omega), nP, hR, HS.out, HO.out, hbb⟩, rfl, (fun h => (by simp at h)), (fun _ => ⟨hst.out.symm, ha.out⟩)⟩
        case measure => (simp [intOf]; omega)
    ·have hik : i = kk := by omega
     subst hik
     cases b with
     | true =>
      obtain ⟨HT1, HT2⟩ := HT rfl
      clear HF HT
      by_cases e3 : lv = 3
      ·obtain rfl : ((x, ⟨I, d, c, l, k⟩) : Rs) = R := HT1.trans (cinv_pair hCI.out (Or.inl e3) HT2)
       clear HT1 HT2 hCI
       have e3' : ((lv : Int) == 3) = true := by rw [beq_iff_eq]; omega
       obtain ⟨hPc0, hPc1, hPc2, hPc3, hPc4, hPc5, hPf⟩ := id hP
       obtain ⟨hRc0, hRc1, hRc2, hRc3, hRc4, hRc5, hRf⟩ := id hR
       go_wp2_with fail
       go_region
       obtain ⟨V, hV, nR, hO⟩ := put_ex hR (.slice (some ⟨tb, to, none⟩) n tc) I d c l k
       rw [put_eq, hV.out]
       clear hR hRc0 hRc1 hRc2 hRc3 hRc4 hRc5 hRf
       have hR := nR
       replace hbb := hO.below hbb (by omega)
       replace HX := Lib.hid (HX.out.oth hO (by omega))
       clear hO nR
       obtain ⟨hRc0, hRc1, hRc2, hRc3, hRc4, hRc5, hRf⟩ := id hR
       go_wp2_with fail
       refine bodyPost_ret (v := .tuple #[.slice (some ⟨gx, 0, none⟩) (x.length) cap, pQ tb to n tc I d c l k]) (by simp [results, Tryz.results14, go_sem, hRc0, hRc1, hRc2, hRc3, hRc4, hRc5]) rfl ⟨gx, cap, rfl, HX.out, by omega, (by first | exact hbb | exact below_step hbb (by go_grown))⟩
      ·by_cases e4 : lv = 4
       ·obtain rfl : ((x, ⟨I, d, c, l, k⟩) : Rs) = R := HT1.trans (cinv_pair hCI.out (Or.inr e4) HT2)
        clear HT1 HT2 hCI
        have e3' : ((lv : Int) == 3) = false := by rw [beq_eq_false_iff_ne]; omega
        have e4' : ((lv : Int) == 4) = true := by rw [beq_iff_eq]; omega
        obtain ⟨hPc0, hPc1, hPc2, hPc3, hPc4, hPc5, hPf⟩ := id hP
        obtain ⟨hRc0, hRc1, hRc2, hRc3, hRc4, hRc5, hRf⟩ := id hR
        go_wp2_with fail
        go_region
        obtain ⟨V, hV, nR, hO⟩ := put_ex hR (.slice (some ⟨tb, to, none⟩) n tc) I d c l k
        rw [put_eq, hV.out]
        clear hR hRc0 hRc1 hRc2 hRc3 hRc4 hRc5 hRf
        have hR := nR
        replace hbb := hO.below hbb (by omega)
        replace HX := Lib.hid (HX.out.oth hO (by omega))
        clear hO nR
        obtain ⟨hRc0, hRc1, hRc2, hRc3, hRc4, hRc5, hRf⟩ := id hR
        go_wp2_with fail
        refine bodyPost_ret (v := .tuple #[.slice (some ⟨gx, 0, none⟩) (x.length) cap, pQ tb to n tc I d c l k]) (by simp [results, Tryz.results14, go_sem, hRc0, hRc1, hRc2, hRc3, hRc4, hRc5]) rfl ⟨gx, cap, rfl, HX.out, by omega, (by first | exact hbb | exact below_step hbb (by go_grown))⟩
       ·have e3' : ((lv : Int) == 3) = false := by rw [beq_eq_false_iff_ne]; omega
        have e4' : ((lv : Int) == 4) = false := by rw [beq_eq_false_iff_ne]; omega
        obtain ⟨b2, b1, a1, b3, hstep⟩ := cinv_step hE.out hB.out hCI.out HT2
        obtain ⟨m', hci⟩ := hstep (by omega)
        rw [← HT1] at hci b1 b2
        simp only at b1 b2
        have hci' := Lib.hid hci
        clear hci hstep HT1 HT2 b3
        replace b1 := Lib.hid b1
        replace b2 := Lib.hid b2
        replace a1 := Lib.hid a1
        go_wp2_with fail
        go_roundw
        case rel => exact ⟨m', x, I, d, c, l, k, true, ⟨gx, cap, rfl, HX.out, log, hP, hR, HS.out, HO.out, hbb⟩, rfl, fun _ => hci'.out, fun h => by simp at h, hci'.out.2.1, hci'.out.2.2.2.2⟩
        case measure => rw [hm0.out, if_pos a1.out, mea_bx hP]; have b1' := b1.out; have b2' := b2.out; simp only [onM]; split <;> omega
     | false =>
      obtain ⟨rfl, rfl, hno⟩ := HF rfl
      have hany := any_none (T := T) (L := L) (s := ⟨I, d, c, l, k⟩) (fun i' y h hy => hno i' y (by rw [hk'.out] at h; exact h) hy)
      clear HF HT hno
      by_cases e3 : lv = 3
      ·obtain rfl := cinv_end hCI.out hany
       clear hany hCI
       have e3' : ((lv : Int) == 3) = true := by rw [beq_iff_eq]; omega
       obtain ⟨hPc0, hPc1, hPc2, hPc3, hPc4, hPc5, hPf⟩ := id hP
       obtain ⟨hRc0, hRc1, hRc2, hRc3, hRc4, hRc5, hRf⟩ := id hR
       go_wp2_with fail
       go_region
       obtain ⟨V, hV, nR, hO⟩ := put_ex hR (.slice (some ⟨tb, to, none⟩) n tc) I d c l k
       rw [put_eq, hV.out]
       clear hR hRc0 hRc1 hRc2 hRc3 hRc4 hRc5 hRf
       have hR := nR
       replace hbb := hO.below hbb (by omega)
       replace HX := Lib.hid (HX.out.oth hO (by omega))
       clear hO nR
       obtain ⟨hRc0, hRc1, hRc2, hRc3, hRc4, hRc5, hRf⟩ := id hR
       go_wp2_with fail
       refine bodyPost_ret (v := .tuple #[.slice (some ⟨gx, 0, none⟩) (x.length) cap, pQ tb to n tc I d c l k]) (by simp [results, Tryz.results14, go_sem, hRc0, hRc1, hRc2, hRc3, hRc4, hRc5]) rfl ⟨gx, cap, rfl, HX.out, by omega, (by first | exact hbb | exact below_step hbb (by go_grown))⟩
      ·by_cases e4 : lv = 4
       ·obtain rfl := cinv_end hCI.out hany
        clear hany hCI
        have e3' : ((lv : Int) == 3) = false := by rw [beq_eq_false_iff_ne]; omega
        have e4' : ((lv : Int) == 4) = true := by rw [beq_iff_eq]; omega
        obtain ⟨hPc0, hPc1, hPc2, hPc3, hPc4, hPc5, hPf⟩ := id hP
        obtain ⟨hRc0, hRc1, hRc2, hRc3, hRc4, hRc5, hRf⟩ := id hR
        go_wp2_with fail
        go_region
        obtain ⟨V, hV, nR, hO⟩ := put_ex hR (.slice (some ⟨tb, to, none⟩) n tc) I d c l k
        rw [put_eq, hV.out]
        clear hR hRc0 hRc1 hRc2 hRc3 hRc4 hRc5 hRf
        have hR := nR
        replace hbb := hO.below hbb (by omega)
        replace HX := Lib.hid (HX.out.oth hO (by omega))
        clear hO nR
        obtain ⟨hRc0, hRc1, hRc2, hRc3, hRc4, hRc5, hRf⟩ := id hR
        go_wp2_with fail
        refine bodyPost_ret (v := .tuple #[.slice (some ⟨gx, 0, none⟩) (x.length) cap, pQ tb to n tc I d c l k]) (by simp [results, Tryz.results14, go_sem, hRc0, hRc1, hRc2, hRc3, hRc4, hRc5]) rfl ⟨gx, cap, rfl, HX.out, by omega, (by first | exact hbb | exact below_step hbb (by go_grown))⟩
       ·have e3' : ((lv : Int) == 3) = false := by rw [beq_eq_false_iff_ne]; omega
        have e4' : ((lv : Int) == 4) = false := by rw [beq_eq_false_iff_ne]; omega
        have hend := Lib.hid (cinv_end hCI.out hany)
        have hf9 := Lib.hid hCI.out.2.1
        have hl9 := Lib.hid hCI.out.2.2.2.2
        clear hany
        go_wp2_with fail
        go_roundw
        case rel => exact ⟨m, x, I, d, c, l, k, false, ⟨gx, cap, rfl, HX.out, log, hP, hR, HS.out, HO.out, hbb⟩, rfl, fun h => by simp at h, fun _ => hend.out, hf9.out, hl9.out⟩
        case measure => rw [hm0.out, mea_bx hP]; simp only [onM]; omega

end Go.Proofs.YtbknflaooemigaaGreat
