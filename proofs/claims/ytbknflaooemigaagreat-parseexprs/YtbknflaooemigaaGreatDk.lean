/-
 The document's kind answers as said. Conditions: tokens that lie in memory.
-/
import Derived.Test.YtbknflaooemigaaGreatDq
import Derived.Test.YtbknflaooemigaaGreatRd2
namespace Go.Proofs.YtbknflaooemigaaGreat
open Go.RowKit Go.Sort
set_option linter.unusedVariables false

theorem below_from {w W V V' : World} (h : Below w.heap.size w W) (h1 : Below W.heap.size W V) (h2 : Below V.heap.size V V') : Below W.heap.size W V' := below_step h1 h2
theorem lies_nil {g : Nat} {w : World} (h : g < w.heap.size) : Lies (ndFlat []) g w := ⟨h, fun j u hj => by simp [ndFlat] at hj⟩
theorem SRow.oth {b g : Nat} {w w' : World} {L : List (List UInt8)} (h : SRow w g L) (ho : Oth b w w') (hg : g ≠ b) : SRow w' g L := (ho.block g hg).trans h
theorem SRow.carry {w w' : World} {g : Nat} {L : List (List UInt8)} (h : SRow w g L) (hb : Below w.heap.size w w') : SRow w' g L := h.below hb
theorem srow_made (w : World) (L : List (List UInt8)) : SRow (w.alloc (.cells (L.map fun x => Value.string (bs x)).toArray 9)) w.heap.size L := by
 unfold SRow World.alloc
 simp
def wds : List (List UInt8) := [wInt, wBool, wStr, wComp]
def KRel (w : World) (tb to n tc : Nat) (T : List Tok) (I : Nat) (d c l k : Int) (z : Nat) (kd ln cl : Nat) (nm : Int) (X : ByteArray) (j : Value) (wr : World) : Prop :=
 ∃ i : Nat, i ≤ 4 ∧ j = .int .i64 i ∧ Bx wr w.heap.size (.slice (some ⟨tb, to, none⟩) n tc) I d c l k ∧ Bx wr (w.heap.size + 1) (.slice none 0 0) 0 0 0 0 0 ∧ Tx wr z kd ln cl nm X ∧ SRow wr (z + 1) wds ∧ Below w.heap.size w wr ∧ ∀ i' x, i' < i → wds[i']? = some x → isS T ⟨I, d, c, l, k⟩ x = false

theorem putT_ex {w : World} {b kd0 : Nat} {ln0 cl0 nm0 : Int} {X0 : ByteArray} (h : Tx w b kd0 ln0 cl0 nm0 X0) (kd : Nat) (ln cl nm : Int) (X : ByteArray) : ∃ W, Hid (PutT w b kd ln cl nm X = W) ∧ Tx W b kd ln cl nm X ∧ Oth b w W :=
 putT_gen (G := fun Y => ∃ W, Hid (Y = W) ∧ Tx W b kd ln cl nm X ∧ Oth b w W) h (fun W h1 h2 => ⟨W, Lib.hid rfl, h1, h2⟩)

set_option maxRecDepth 100000 in
set_option maxHeartbeats 20000000 in
theorem kind_w {T : List Tok} {N : Nat} (hE : Hid (Ends T)) (hK : Hid (Dos T N 93 #[] (kindS T N))) : Dos T (N + 1) 93 #[] (kindS T (N + 1)) := by
 intro w tb to n tc s h hf
 obtain ⟨I, d, c, l, k⟩ := s
 obtain ⟨R, hRk⟩ : ∃ R, kindS T (N + 1) ⟨I, d, c, l, k⟩ = R := ⟨_, rfl⟩
 rw [hRk]
 have hn1 := h.ln
 have hn2 := h.en.tn
 have hI0 : I < n := by have := hf.1; simp only at this; omega
 have HV := Lib.hid h
 obtain ⟨⟨kd, ln, cl, nm, tx⟩, ht⟩ : ∃ t, nowS T ⟨I, d, c, l, k⟩ = t := ⟨_, rfl⟩
 have HN := Lib.hid (fun w' (hb : Below w.heap.size w w') => now_p (tc := tc) (s := ⟨I, d, c, l, k⟩) (HV.out.carry hb) ht)
 obtain ⟨X, hX0⟩ : ∃ X, bs tx = X := ⟨_, rfl⟩
 rw [hX0] at HN
 replace hX0 := Lib.hid hX0
 replace ht := Lib.hid ht
 replace hRk := Lib.hid hRk
 replace hf := Lib.hid hf
 clear h
 go_enter Tryz.func93, Tryz.ntmps93
 go_wp2_with fail
 refine (HN.out _ (two_made w (.slice (some ⟨tb, to, none⟩) n tc) I d c l k).2.2).mono ?_
 rintro e w1 ⟨rfl, hb⟩
 have hbb : Below w.heap.size w w1 := below_step (two_made w (.slice (some ⟨tb, to, none⟩) n tc) I d c l k).2.2 hb
 have hP := (two_made w (.slice (some ⟨tb, to, none⟩) n tc) I d c l k).1.carry hb
 have hR := (two_made w (.slice (some ⟨tb, to, none⟩) n tc) I d c l k).2.1.carry hb
 clear hb
 have lhP := hP.lt
 have lhR := hR.lt
 go_wp2_with fail
 obtain ⟨W, hW⟩ : ∃ W, W = (w1.alloc (.cells #[.int .u8 kd, .int .i64 ln, .int .i64 cl, .int .i64 nm, .string X] 38)).alloc (.cells #[.string { data := #[105, 110, 116] }, .string { data := #[98, 111, 111, 108] }, .string { data := #[115, 116, 114] }, .string { data := #[99, 111, 109, 112] }] 9) := ⟨_, rfl⟩
 rw [← hW]
 have hT : Tx W w1.heap.size kd ln cl nm X := by rw [hW]; exact (Tx.made w1 kd ln cl nm X).carry (below_alloc _ _)
 have HS : Hid (SRow W (w1.heap.size + 1) wds) := Lib.hid (by rw [hW]; have z := srow_made (w1.alloc (.cells #[.int .u8 kd, .int .i64 ln, .int .i64 cl, .int .i64 nm, .string X] 38)) wds; rw [World.size_alloc] at z; exact z)
 have hbW : Below w1.heap.size w1 W := by rw [hW]; go_grown
 replace hP := hP.carry hbW
 replace hR := hR.carry hbW
 replace hbb := below_step hbb hbW
 obtain ⟨z, hz⟩ : ∃ z, z = w1.heap.size := ⟨_, rfl⟩
 rw [← hz] at hT HS lhP lhR
 rw [← hz]
 clear hbW hW hz HN
 go_loopw [14] (fun j wr => KRel w tb to n tc T I d c l k z kd ln cl nm X j wr) (fun j _ => 4 - (intOf j).toNat)
 case atStart => exact ⟨0, Nat.zero_le _, rfl, hP, hR, hT, HS.out, hbb, fun i' x h => absurd h (by omega)⟩
 case round =>
  clear HS hP hR hbb hT
  obtain ⟨i, hi, rfl, hP, hR, hT, HS, hbb, hno⟩ := hrel
  replace HS := Lib.hid HS
  replace hno := Lib.hid hno
  have lhP0 := hP.lt
  have lhR0 := hR.lt
  have lhT0 := hT.lt
  rcases (show i = 0 ∨ i = 1 ∨ i = 2 ∨ i = 3 ∨ i = 4 by omega) with rfl | rfl | rfl | rfl | rfl
  ·cases q1 : isS T ⟨I, d, c, l, k⟩ wInt with
   | true =>
    obtain ⟨⟨I2, d2, c2, l2, k2⟩, hs2⟩ : ∃ s, mustS T ⟨I, d, c, l, k⟩ wInt = s := ⟨_, rfl⟩
    have HM := Lib.hid (fun w' (hb : Below w.heap.size w w') => must_p (tc := tc) (s := ⟨I, d, c, l, k⟩) (HV.out.carry hb) { data := #[105, 110, 116] } wInt (by rw [ByteArray.toList_eq]; rfl) _ hs2)
    obtain rfl : (ndS 15 ⟨kd, ln, cl, nm, tx⟩ [] 0 [], (⟨I2, d2, c2, l2, k2⟩ : S)) = R := by
     rw [← hRk.out, kindS, if_pos q1, hs2, ht.out]
    have HI := Lib.hid (fun w' (hb : Below w.heap.size w w') => is_p (s := ⟨I, d, c, l, k⟩) (tc := tc) (HV.out.carry hb) { data := #[105, 110, 116] } wInt (by rw [ByteArray.toList_eq]; rfl) true q1)
    have hcx : wr.cell? ⟨z + 1, 0, none⟩ = some (.string { data := #[105, 110, 116] }) := HS.out.cell (x := wInt) rfl
    have lSR := lt_of_heap HS.out
    clear hs2 q1
    obtain ⟨hPc0, hPc1, hPc2, hPc3, hPc4, hPc5, hPf⟩ := id hP
    obtain ⟨hRc0, hRc1, hRc2, hRc3, hRc4, hRc5, hRf⟩ := id hR
    obtain ⟨hTc0, hTc1, hTc2, hTc3, hTc4, hTf⟩ := id hT
    go_wp2_with fail
    go_region_held3 (fun w' => w'.cell? ⟨w.heap.size, 0, none⟩ = some (.slice (some ⟨tb, to, none⟩) n tc) ∧ w'.cell? ⟨w.heap.size, 1, none⟩ = some (.int .i64 I) ∧ w'.cell? ⟨w.heap.size, 2, none⟩ = some (.int .i64 d) ∧ w'.cell? ⟨w.heap.size, 3, none⟩ = some (.int .i64 c) ∧ w'.cell? ⟨w.heap.size, 4, none⟩ = some (.int .i64 l) ∧ w'.cell? ⟨w.heap.size, 5, none⟩ = some (.int .i64 k) ∧ w'.cell? ⟨z + 1, 0, none⟩ = some (.string { data := #[105, 110, 116] })) (first | (rw [put_eq]; refine put_gen (G := fun w' => w'.cell? ⟨w.heap.size, 0, none⟩ = some (.slice (some ⟨tb, to, none⟩) n tc) ∧ w'.cell? ⟨w.heap.size, 1, none⟩ = some (.int .i64 I) ∧ w'.cell? ⟨w.heap.size, 2, none⟩ = some (.int .i64 d) ∧ w'.cell? ⟨w.heap.size, 3, none⟩ = some (.int .i64 c) ∧ w'.cell? ⟨w.heap.size, 4, none⟩ = some (.int .i64 l) ∧ w'.cell? ⟨w.heap.size, 5, none⟩ = some (.int .i64 k) ∧ w'.cell? ⟨z + 1, 0, none⟩ = some (.string { data := #[105, 110, 116] })) hR ?_; intro V _ hO; exact ⟨(hO.cell (by omega)).trans hP.c0, (hO.cell (by omega)).trans hP.c1, (hO.cell (by omega)).trans hP.c2, (hO.cell (by omega)).trans hP.c3, (hO.cell (by omega)).trans hP.c4, (hO.cell (by omega)).trans hP.c5, (hO.cell (by omega)).trans hcx⟩) | go_keep) (first | (go_at_call 28; refine (HI.out _ (below_step hbb (by go_grown))).mono ?_; rintro e w90 ⟨rfl, hb⟩; have hzz := hb.size; (try simp only [World.size_drew] at hzz); (try simp only [World.size_alloc] at hzz); (try simp only [World.size_drew] at hzz); (try simp only [World.size_alloc] at hzz); have hlR := hR.lt; have hb9 := below_from hbb (by go_grown) hb; replace hP := hP.carry hb9; replace hR := hR.carry hb9; replace hT := hT.carry hb9; replace HS := Lib.hid (HS.out.carry hb9); replace hcx := cell_carry hb9 hcx; replace hbb := below_step hbb hb9; clear hb hb9 hlR; (try clear hPc0); (try clear hPc1); (try clear hPc2); (try clear hPc3); (try clear hPc4); (try clear hPc5); (try clear hPf); (try clear hRc0); (try clear hRc1); (try clear hRc2); (try clear hRc3); (try clear hRc4); (try clear hRc5); (try clear hRf); (try clear hTc0); (try clear hTc1); (try clear hTc2); (try clear hTc3); (try clear hTc4); (try clear hTf); obtain ⟨hPc0, hPc1, hPc2, hPc3, hPc4, hPc5, hPf⟩ := id hP; obtain ⟨hRc0, hRc1, hRc2, hRc3, hRc4, hRc5, hRf⟩ := id hR; obtain ⟨hTc0, hTc1, hTc2, hTc3, hTc4, hTf⟩ := id hT))
    go_wp2_with fail
    go_region_held3 (fun w' => w'.cell? ⟨w.heap.size, 0, none⟩ = some (.slice (some ⟨tb, to, none⟩) n tc) ∧ w'.cell? ⟨w.heap.size, 1, none⟩ = some (.int .i64 I) ∧ w'.cell? ⟨w.heap.size, 2, none⟩ = some (.int .i64 d) ∧ w'.cell? ⟨w.heap.size, 3, none⟩ = some (.int .i64 c) ∧ w'.cell? ⟨w.heap.size, 4, none⟩ = some (.int .i64 l) ∧ w'.cell? ⟨w.heap.size, 5, none⟩ = some (.int .i64 k) ∧ w'.cell? ⟨z, 0, none⟩ = some (.int .u8 kd) ∧ w'.cell? ⟨z, 1, none⟩ = some (.int .i64 ln) ∧ w'.cell? ⟨z, 2, none⟩ = some (.int .i64 cl) ∧ w'.cell? ⟨z, 3, none⟩ = some (.int .i64 nm) ∧ w'.cell? ⟨z, 4, none⟩ = some (.string X) ∧ w'.cell? ⟨z + 1, 0, none⟩ = some (.string { data := #[105, 110, 116] })) (first | (rw [put_eq]; refine put_gen (G := fun w' => w'.cell? ⟨w.heap.size, 0, none⟩ = some (.slice (some ⟨tb, to, none⟩) n tc) ∧ w'.cell? ⟨w.heap.size, 1, none⟩ = some (.int .i64 I) ∧ w'.cell? ⟨w.heap.size, 2, none⟩ = some (.int .i64 d) ∧ w'.cell? ⟨w.heap.size, 3, none⟩ = some (.int .i64 c) ∧ w'.cell? ⟨w.heap.size, 4, none⟩ = some (.int .i64 l) ∧ w'.cell? ⟨w.heap.size, 5, none⟩ = some (.int .i64 k) ∧ w'.cell? ⟨z, 0, none⟩ = some (.int .u8 kd) ∧ w'.cell? ⟨z, 1, none⟩ = some (.int .i64 ln) ∧ w'.cell? ⟨z, 2, none⟩ = some (.int .i64 cl) ∧ w'.cell? ⟨z, 3, none⟩ = some (.int .i64 nm) ∧ w'.cell? ⟨z, 4, none⟩ = some (.string X) ∧ w'.cell? ⟨z + 1, 0, none⟩ = some (.string { data := #[105, 110, 116] })) hR ?_; intro V _ hO; exact ⟨(hO.cell (by omega)).trans hP.c0, (hO.cell (by omega)).trans hP.c1, (hO.cell (by omega)).trans hP.c2, (hO.cell (by omega)).trans hP.c3, (hO.cell (by omega)).trans hP.c4, (hO.cell (by omega)).trans hP.c5, (hO.cell (by omega)).trans hT.c0, (hO.cell (by omega)).trans hT.c1, (hO.cell (by omega)).trans hT.c2, (hO.cell (by omega)).trans hT.c3, (hO.cell (by omega)).trans hT.c4, (hO.cell (by omega)).trans hcx⟩) | go_keep) (first | (go_at_call 30; refine (HM.out _ (below_step hbb (by go_grown))).mono ?_; rintro e w90 ⟨rfl, hb⟩; have hzz := hb.size; (try simp only [World.size_drew] at hzz); (try simp only [World.size_alloc] at hzz); (try simp only [World.size_drew] at hzz); (try simp only [World.size_alloc] at hzz); have hlR := hR.lt; have hb9 := below_from hbb (by go_grown) hb; replace hP := hP.carry hb9; replace hR := hR.carry hb9; replace hT := hT.carry hb9; (try replace HY := Lib.hid (HY.out.carry hb9)); replace HS := Lib.hid (HS.out.carry hb9); replace hcx := cell_carry hb9 hcx; replace hbb := below_step hbb hb9; clear hb hb9 hlR; (try clear hPc0); (try clear hPc1); (try clear hPc2); (try clear hPc3); (try clear hPc4); (try clear hPc5); (try clear hPf); (try clear hRc0); (try clear hRc1); (try clear hRc2); (try clear hRc3); (try clear hRc4); (try clear hRc5); (try clear hRf); (try clear hTc0); (try clear hTc1); (try clear hTc2); (try clear hTc3); (try clear hTc4); (try clear hTf); obtain ⟨hPc0, hPc1, hPc2, hPc3, hPc4, hPc5, hPf⟩ := id hP; obtain ⟨hRc0, hRc1, hRc2, hRc3, hRc4, hRc5, hRf⟩ := id hR; obtain ⟨hTc0, hTc1, hTc2, hTc3, hTc4, hTf⟩ := id hT) | (go_at_call 31; refine (node_q (l := []) (n := 0) rfl (Lib.hid (lies_nil (by (try simp only [World.size_drew]); (try simp only [World.size_alloc]); (try simp only [World.size_drew]); (try simp only [World.size_alloc]); omega))) (by omega)).mono ?_; rintro e w91 ⟨g9, cap9, rfl, HY, lo, hb⟩; have hzz := hb.size; (try simp only [World.size_drew] at hzz); (try simp only [World.size_alloc] at hzz); (try simp only [World.size_drew] at hzz); (try simp only [World.size_alloc] at hzz); have hlR := hR.lt; replace HY := Lib.hid HY; have loHY : w.heap.size + 1 + 1 ≤ g9 := Nat.le_trans (by (try simp only [World.size_drew]); (try simp only [World.size_alloc]); (try simp only [World.size_drew]); (try simp only [World.size_alloc]); omega) lo; clear lo; have hb9 := below_from hbb (by go_grown) hb; replace hP := hP.carry hb9; replace hR := hR.carry hb9; replace hT := hT.carry hb9; replace HS := Lib.hid (HS.out.carry hb9); replace hcx := cell_carry hb9 hcx; replace hbb := below_step hbb hb9; clear hb hb9 hlR; (try clear hPc0); (try clear hPc1); (try clear hPc2); (try clear hPc3); (try clear hPc4); (try clear hPc5); (try clear hPf); (try clear hRc0); (try clear hRc1); (try clear hRc2); (try clear hRc3); (try clear hRc4); (try clear hRc5); (try clear hRf); (try clear hTc0); (try clear hTc1); (try clear hTc2); (try clear hTc3); (try clear hTc4); (try clear hTf); obtain ⟨hPc0, hPc1, hPc2, hPc3, hPc4, hPc5, hPf⟩ := id hP; obtain ⟨hRc0, hRc1, hRc2, hRc3, hRc4, hRc5, hRf⟩ := id hR; obtain ⟨hTc0, hTc1, hTc2, hTc3, hTc4, hTf⟩ := id hT))
    all_goals (obtain ⟨V, hV, nR, hO⟩ := put_ex hR (.slice (some ⟨tb, to, none⟩) n tc) I2 d2 c2 l2 k2; (first | (rw [put_eq, hV.out]) | (go_wp2_with (first | (rw [put_eq, hV.out])))); replace hbb := hO.below hbb (by omega); replace HY := Lib.hid (HY.out.oth hO (by omega)); clear hO; (try clear hRc0 hRc1 hRc2 hRc3 hRc4 hRc5 hRf); obtain ⟨hRc0, hRc1, hRc2, hRc3, hRc4, hRc5, hRf⟩ := id nR; go_wp2_with fail; refine bodyPost_ret (v := .tuple #[.slice (some ⟨g9, 0, none⟩) (0 + 1) cap9, pQ tb to n tc I2 d2 c2 l2 k2]) (by simp [results, Tryz.results93, go_sem, hRc0, hRc1, hRc2, hRc3, hRc4, hRc5]) rfl ⟨g9, cap9, rfl, HY.out, by omega, (by first | exact hbb | exact below_step hbb (by go_grown))⟩)
   | false =>
    have HI := Lib.hid (fun w' (hb : Below w.heap.size w w') => is_p (s := ⟨I, d, c, l, k⟩) (tc := tc) (HV.out.carry hb) { data := #[105, 110, 116] } wInt (by rw [ByteArray.toList_eq]; rfl) false q1)
    have hcx : wr.cell? ⟨z + 1, 0, none⟩ = some (.string { data := #[105, 110, 116] }) := HS.out.cell (x := wInt) rfl
    have hno' := Lib.hid (show ∀ i' x, i' < 0 + 1 → wds[i']? = some x → isS T ⟨I, d, c, l, k⟩ x = false from fun i' y h hy => by
     by_cases e : i' = 0
     ·subst e; cases hy; exact q1
     ·exact hno.out i' y (by omega) hy)
    clear q1
    obtain ⟨hPc0, hPc1, hPc2, hPc3, hPc4, hPc5, hPf⟩ := id hP
    obtain ⟨hRc0, hRc1, hRc2, hRc3, hRc4, hRc5, hRf⟩ := id hR
    obtain ⟨hTc0, hTc1, hTc2, hTc3, hTc4, hTf⟩ := id hT
    go_wp2_with fail
    go_region_held3 (fun w' => w'.cell? ⟨w.heap.size, 0, none⟩ = some (.slice (some ⟨tb, to, none⟩) n tc) ∧ w'.cell? ⟨w.heap.size, 1, none⟩ = some (.int .i64 I) ∧ w'.cell? ⟨w.heap.size, 2, none⟩ = some (.int .i64 d) ∧ w'.cell? ⟨w.heap.size, 3, none⟩ = some (.int .i64 c) ∧ w'.cell? ⟨w.heap.size, 4, none⟩ = some (.int .i64 l) ∧ w'.cell? ⟨w.heap.size, 5, none⟩ = some (.int .i64 k) ∧ w'.cell? ⟨z + 1, 0, none⟩ = some (.string { data := #[105, 110, 116] })) (first | (rw [put_eq]; refine put_gen (G := fun w' => w'.cell? ⟨w.heap.size, 0, none⟩ = some (.slice (some ⟨tb, to, none⟩) n tc) ∧ w'.cell? ⟨w.heap.size, 1, none⟩ = some (.int .i64 I) ∧ w'.cell? ⟨w.heap.size, 2, none⟩ = some (.int .i64 d) ∧ w'.cell? ⟨w.heap.size, 3, none⟩ = some (.int .i64 c) ∧ w'.cell? ⟨w.heap.size, 4, none⟩ = some (.int .i64 l) ∧ w'.cell? ⟨w.heap.size, 5, none⟩ = some (.int .i64 k) ∧ w'.cell? ⟨z + 1, 0, none⟩ = some (.string { data := #[105, 110, 116] })) hR ?_; intro V _ hO; exact ⟨(hO.cell (by omega)).trans hP.c0, (hO.cell (by omega)).trans hP.c1, (hO.cell (by omega)).trans hP.c2, (hO.cell (by omega)).trans hP.c3, (hO.cell (by omega)).trans hP.c4, (hO.cell (by omega)).trans hP.c5, (hO.cell (by omega)).trans hcx⟩) | go_keep) (first | (go_at_call 28; refine (HI.out _ (below_step hbb (by go_grown))).mono ?_; rintro e w90 ⟨rfl, hb⟩; have hzz := hb.size; (try simp only [World.size_drew] at hzz); (try simp only [World.size_alloc] at hzz); (try simp only [World.size_drew] at hzz); (try simp only [World.size_alloc] at hzz); have hlR := hR.lt; have hb9 := below_from hbb (by go_grown) hb; replace hP := hP.carry hb9; replace hR := hR.carry hb9; replace hT := hT.carry hb9; replace HS := Lib.hid (HS.out.carry hb9); replace hcx := cell_carry hb9 hcx; replace hbb := below_step hbb hb9; clear hb hb9 hlR; (try clear hPc0); (try clear hPc1); (try clear hPc2); (try clear hPc3); (try clear hPc4); (try clear hPc5); (try clear hPf); (try clear hRc0); (try clear hRc1); (try clear hRc2); (try clear hRc3); (try clear hRc4); (try clear hRc5); (try clear hRf); (try clear hTc0); (try clear hTc1); (try clear hTc2); (try clear hTc3); (try clear hTc4); (try clear hTf); obtain ⟨hPc0, hPc1, hPc2, hPc3, hPc4, hPc5, hPf⟩ := id hP; obtain ⟨hRc0, hRc1, hRc2, hRc3, hRc4, hRc5, hRf⟩ := id hR; obtain ⟨hTc0, hTc1, hTc2, hTc3, hTc4, hTf⟩ := id hT))
    all_goals (go_wp2_with fail; go_roundw)
    case rel => exact ⟨0 + 1, by omega, rfl, hP, hR, hT, HS.out, hbb, hno'.out⟩
    case measure => simp [intOf]
  ·cases q1 : isS T ⟨I, d, c, l, k⟩ wBool with
   | true =>
    obtain ⟨⟨I2, d2, c2, l2, k2⟩, hs2⟩ : ∃ s, mustS T ⟨I, d, c, l, k⟩ wBool = s := ⟨_, rfl⟩
    have HM := Lib.hid (fun w' (hb : Below w.heap.size w w') => must_p (tc := tc) (s := ⟨I, d, c, l, k⟩) (HV.out.carry hb) { data := #[98, 111, 111, 108] } wBool (by rw [ByteArray.toList_eq]; rfl) _ hs2)
    obtain rfl : (ndS 16 ⟨kd, ln, cl, nm, tx⟩ [] 0 [], (⟨I2, d2, c2, l2, k2⟩ : S)) = R := by
     rw [← hRk.out, kindS, if_neg (by rw [hno.out 0 wInt (by omega) rfl]; decide), if_pos q1, hs2, ht.out]
    have HI := Lib.hid (fun w' (hb : Below w.heap.size w w') => is_p (s := ⟨I, d, c, l, k⟩) (tc := tc) (HV.out.carry hb) { data := #[98, 111, 111, 108] } wBool (by rw [ByteArray.toList_eq]; rfl) true q1)
    have hcx : wr.cell? ⟨z + 1, 1, none⟩ = some (.string { data := #[98, 111, 111, 108] }) := HS.out.cell (x := wBool) rfl
    have lSR := lt_of_heap HS.out
    clear hs2 q1
    obtain ⟨hPc0, hPc1, hPc2, hPc3, hPc4, hPc5, hPf⟩ := id hP
    obtain ⟨hRc0, hRc1, hRc2, hRc3, hRc4, hRc5, hRf⟩ := id hR
    obtain ⟨hTc0, hTc1, hTc2, hTc3, hTc4, hTf⟩ := id hT
    go_wp2_with fail
    go_region_held3 (fun w' => w'.cell? ⟨w.heap.size, 0, none⟩ = some (.slice (some ⟨tb, to, none⟩) n tc) ∧ w'.cell? ⟨w.heap.size, 1, none⟩ = some (.int .i64 I) ∧ w'.cell? ⟨w.heap.size, 2, none⟩ = some (.int .i64 d) ∧ w'.cell? ⟨w.heap.size, 3, none⟩ = some (.int .i64 c) ∧ w'.cell? ⟨w.heap.size, 4, none⟩ = some (.int .i64 l) ∧ w'.cell? ⟨w.heap.size, 5, none⟩ = some (.int .i64 k) ∧ w'.cell? ⟨z + 1, 1, none⟩ = some (.string { data := #[98, 111, 111, 108] })) (first | (rw [put_eq]; refine put_gen (G := fun w' => w'.cell? ⟨w.heap.size, 0, none⟩ = some (.slice (some ⟨tb, to, none⟩) n tc) ∧ w'.cell? ⟨w.heap.size, 1, none⟩ = some (.int .i64 I) ∧ w'.cell? ⟨w.heap.size, 2, none⟩ = some (.int .i64 d) ∧ w'.cell? ⟨w.heap.size, 3, none⟩ = some (.int .i64 c) ∧ w'.cell? ⟨w.heap.size, 4, none⟩ = some (.int .i64 l) ∧ w'.cell? ⟨w.heap.size, 5, none⟩ = some (.int .i64 k) ∧ w'.cell? ⟨z + 1, 1, none⟩ = some (.string { data := #[98, 111, 111, 108] })) hR ?_; intro V _ hO; exact ⟨(hO.cell (by omega)).trans hP.c0, (hO.cell (by omega)).trans hP.c1, (hO.cell (by omega)).trans hP.c2, (hO.cell (by omega)).trans hP.c3, (hO.cell (by omega)).trans hP.c4, (hO.cell (by omega)).trans hP.c5, (hO.cell (by omega)).trans hcx⟩) | go_keep) (first | (go_at_call 28; refine (HI.out _ (below_step hbb (by go_grown))).mono ?_; rintro e w90 ⟨rfl, hb⟩; have hzz := hb.size; (try simp only [World.size_drew] at hzz); (try simp only [World.size_alloc] at hzz); (try simp only [World.size_drew] at hzz); (try simp only [World.size_alloc] at hzz); have hlR := hR.lt; have hb9 := below_from hbb (by go_grown) hb; replace hP := hP.carry hb9; replace hR := hR.carry hb9; replace hT := hT.carry hb9; replace HS := Lib.hid (HS.out.carry hb9); replace hcx := cell_carry hb9 hcx; replace hbb := below_step hbb hb9; clear hb hb9 hlR; (try clear hPc0); (try clear hPc1); (try clear hPc2); (try clear hPc3); (try clear hPc4); (try clear hPc5); (try clear hPf); (try clear hRc0); (try clear hRc1); (try clear hRc2); (try clear hRc3); (try clear hRc4); (try clear hRc5); (try clear hRf); (try clear hTc0); (try clear hTc1); (try clear hTc2); (try clear hTc3); (try clear hTc4); (try clear hTf); obtain ⟨hPc0, hPc1, hPc2, hPc3, hPc4, hPc5, hPf⟩ := id hP; obtain ⟨hRc0, hRc1, hRc2, hRc3, hRc4, hRc5, hRf⟩ := id hR; obtain ⟨hTc0, hTc1, hTc2, hTc3, hTc4, hTf⟩ := id hT))
    go_wp2_with fail
    go_region_held3 (fun w' => w'.cell? ⟨w.heap.size, 0, none⟩ = some (.slice (some ⟨tb, to, none⟩) n tc) ∧ w'.cell? ⟨w.heap.size, 1, none⟩ = some (.int .i64 I) ∧ w'.cell? ⟨w.heap.size, 2, none⟩ = some (.int .i64 d) ∧ w'.cell? ⟨w.heap.size, 3, none⟩ = some (.int .i64 c) ∧ w'.cell? ⟨w.heap.size, 4, none⟩ = some (.int .i64 l) ∧ w'.cell? ⟨w.heap.size, 5, none⟩ = some (.int .i64 k) ∧ w'.cell? ⟨z, 0, none⟩ = some (.int .u8 kd) ∧ w'.cell? ⟨z, 1, none⟩ = some (.int .i64 ln) ∧ w'.cell? ⟨z, 2, none⟩ = some (.int .i64 cl) ∧ w'.cell? ⟨z, 3, none⟩ = some (.int .i64 nm) ∧ w'.cell? ⟨z, 4, none⟩ = some (.string X) ∧ w'.cell? ⟨z + 1, 1, none⟩ = some (.string { data := #[98, 111, 111, 108] })) (first | (rw [put_eq]; refine put_gen (G := fun w' => w'.cell? ⟨w.heap.size, 0, none⟩ = some (.slice (some ⟨tb, to, none⟩) n tc) ∧ w'.cell? ⟨w.heap.size, 1, none⟩ = some (.int .i64 I) ∧ w'.cell? ⟨w.heap.size, 2, none⟩ = some (.int .i64 d) ∧ w'.cell? ⟨w.heap.size, 3, none⟩ = some (.int .i64 c) ∧ w'.cell? ⟨w.heap.size, 4, none⟩ = some (.int .i64 l) ∧ w'.cell? ⟨w.heap.size, 5, none⟩ = some (.int .i64 k) ∧ w'.cell? ⟨z, 0, none⟩ = some (.int .u8 kd) ∧ w'.cell? ⟨z, 1, none⟩ = some (.int .i64 ln) ∧ w'.cell? ⟨z, 2, none⟩ = some (.int .i64 cl) ∧ w'.cell? ⟨z, 3, none⟩ = some (.int .i64 nm) ∧ w'.cell? ⟨z, 4, none⟩ = some (.string X) ∧ w'.cell? ⟨z + 1, 1, none⟩ = some (.string { data := #[98, 111, 111, 108] })) hR ?_; intro V _ hO; exact ⟨(hO.cell (by omega)).trans hP.c0, (hO.cell (by omega)).trans hP.c1, (hO.cell (by omega)).trans hP.c2, (hO.cell (by omega)).trans hP.c3, (hO.cell (by omega)).trans hP.c4, (hO.cell (by omega)).trans hP.c5, (hO.cell (by omega)).trans hT.c0, (hO.cell (by omega)).trans hT.c1, (hO.cell (by omega)).trans hT.c2, (hO.cell (by omega)).trans hT.c3, (hO.cell (by omega)).trans hT.c4, (hO.cell (by omega)).trans hcx⟩) | go_keep) (first | (go_at_call 30; refine (HM.out _ (below_step hbb (by go_grown))).mono ?_; rintro e w90 ⟨rfl, hb⟩; have hzz := hb.size; (try simp only [World.size_drew] at hzz); (try simp only [World.size_alloc] at hzz); (try simp only [World.size_drew] at hzz); (try simp only [World.size_alloc] at hzz); have hlR := hR.lt; have hb9 := below_from hbb (by go_grown) hb; replace hP := hP.carry hb9; replace hR := hR.carry hb9; replace hT := hT.carry hb9; (try replace HY := Lib.hid (HY.out.carry hb9)); replace HS := Lib.hid (HS.out.carry hb9); replace hcx := cell_carry hb9 hcx; replace hbb := below_step hbb hb9; clear hb hb9 hlR; (try clear hPc0); (try clear hPc1); (try clear hPc2); (try clear hPc3); (try clear hPc4); (try clear hPc5); (try clear hPf); (try clear hRc0); (try clear hRc1); (try clear hRc2); (try clear hRc3); (try clear hRc4); (try clear hRc5); (try clear hRf); (try clear hTc0); (try clear hTc1); (try clear hTc2); (try clear hTc3); (try clear hTc4); (try clear hTf); obtain ⟨hPc0, hPc1, hPc2, hPc3, hPc4, hPc5, hPf⟩ := id hP; obtain ⟨hRc0, hRc1, hRc2, hRc3, hRc4, hRc5, hRf⟩ := id hR; obtain ⟨hTc0, hTc1, hTc2, hTc3, hTc4, hTf⟩ := id hT) | (go_at_call 31; refine (node_q (l := []) (n := 0) rfl (Lib.hid (lies_nil (by (try simp only [World.size_drew]); (try simp only [World.size_alloc]); (try simp only [World.size_drew]); (try simp only [World.size_alloc]); omega))) (by omega)).mono ?_; rintro e w91 ⟨g9, cap9, rfl, HY, lo, hb⟩; have hzz := hb.size; (try simp only [World.size_drew] at hzz); (try simp only [World.size_alloc] at hzz); (try simp only [World.size_drew] at hzz); (try simp only [World.size_alloc] at hzz); have hlR := hR.lt; replace HY := Lib.hid HY; have loHY : w.heap.size + 1 + 1 ≤ g9 := Nat.le_trans (by (try simp only [World.size_drew]); (try simp only [World.size_alloc]); (try simp only [World.size_drew]); (try simp only [World.size_alloc]); omega) lo; clear lo; have hb9 := below_from hbb (by go_grown) hb; replace hP := hP.carry hb9; replace hR := hR.carry hb9; replace hT := hT.carry hb9; replace HS := Lib.hid (HS.out.carry hb9); replace hcx := cell_carry hb9 hcx; replace hbb := below_step hbb hb9; clear hb hb9 hlR; (try clear hPc0); (try clear hPc1); (try clear hPc2); (try clear hPc3); (try clear hPc4); (try clear hPc5); (try clear hPf); (try clear hRc0); (try clear hRc1); (try clear hRc2); (try clear hRc3); (try clear hRc4); (try clear hRc5); (try clear hRf); (try clear hTc0); (try clear hTc1); (try clear hTc2); (try clear hTc3); (try clear hTc4); (try clear hTf); obtain ⟨hPc0, hPc1, hPc2, hPc3, hPc4, hPc5, hPf⟩ := id hP; obtain ⟨hRc0, hRc1, hRc2, hRc3, hRc4, hRc5, hRf⟩ := id hR; obtain ⟨hTc0, hTc1, hTc2, hTc3, hTc4, hTf⟩ := id hT))
    all_goals (obtain ⟨V, hV, nR, hO⟩ := put_ex hR (.slice (some ⟨tb, to, none⟩) n tc) I2 d2 c2 l2 k2; (first | (rw [put_eq, hV.out]) | (go_wp2_with (first | (rw [put_eq, hV.out])))); replace hbb := hO.below hbb (by omega); replace HY := Lib.hid (HY.out.oth hO (by omega)); clear hO; (try clear hRc0 hRc1 hRc2 hRc3 hRc4 hRc5 hRf); obtain ⟨hRc0, hRc1, hRc2, hRc3, hRc4, hRc5, hRf⟩ := id nR; go_wp2_with fail; refine bodyPost_ret (v := .tuple #[.slice (some ⟨g9, 0, none⟩) (0 + 1) cap9, pQ tb to n tc I2 d2 c2 l2 k2]) (by simp [results, Tryz.results93, go_sem, hRc0, hRc1, hRc2, hRc3, hRc4, hRc5]) rfl ⟨g9, cap9, rfl, HY.out, by omega, (by first | exact hbb | exact below_step hbb (by go_grown))⟩)
   | false =>
    have HI := Lib.hid (fun w' (hb : Below w.heap.size w w') => is_p (s := ⟨I, d, c, l, k⟩) (tc := tc) (HV.out.carry hb) { data := #[98, 111, 111, 108] } wBool (by rw [ByteArray.toList_eq]; rfl) false q1)
    have hcx : wr.cell? ⟨z + 1, 1, none⟩ = some (.string { data := #[98, 111, 111, 108] }) := HS.out.cell (x := wBool) rfl
    have hno' := Lib.hid (show ∀ i' x, i' < 1 + 1 → wds[i']? = some x → isS T ⟨I, d, c, l, k⟩ x = false from fun i' y h hy => by
     by_cases e : i' = 1
     ·subst e; cases hy; exact q1
     ·exact hno.out i' y (by omega) hy)
    clear q1
    obtain ⟨hPc0, hPc1, hPc2, hPc3, hPc4, hPc5, hPf⟩ := id hP
    obtain ⟨hRc0, hRc1, hRc2, hRc3, hRc4, hRc5, hRf⟩ := id hR
    obtain ⟨hTc0, hTc1, hTc2, hTc3, hTc4, hTf⟩ := id hT
    go_wp2_with fail
    go_region_held3 (fun w' => w'.cell? ⟨w.heap.size, 0, none⟩ = some (.slice (some ⟨tb, to, none⟩) n tc) ∧ w'.cell? ⟨w.heap.size, 1, none⟩ = some (.int .i64 I) ∧ w'.cell? ⟨w.heap.size, 2, none⟩ = some (.int .i64 d) ∧ w'.cell? ⟨w.heap.size, 3, none⟩ = some (.int .i64 c) ∧ w'.cell? ⟨w.heap.size, 4, none⟩ = some (.int .i64 l) ∧ w'.cell? ⟨w.heap.size, 5, none⟩ = some (.int .i64 k) ∧ w'.cell? ⟨z + 1, 1, none⟩ = some (.string { data := #[98, 111, 111, 108] })) (first | (rw [put_eq]; refine put_gen (G := fun w' => w'.cell? ⟨w.heap.size, 0, none⟩ = some (.slice (some ⟨tb, to, none⟩) n tc) ∧ w'.cell? ⟨w.heap.size, 1, none⟩ = some (.int .i64 I) ∧ w'.cell? ⟨w.heap.size, 2, none⟩ = some (.int .i64 d) ∧ w'.cell? ⟨w.heap.size, 3, none⟩ = some (.int .i64 c) ∧ w'.cell? ⟨w.heap.size, 4, none⟩ = some (.int .i64 l) ∧ w'.cell? ⟨w.heap.size, 5, none⟩ = some (.int .i64 k) ∧ w'.cell? ⟨z + 1, 1, none⟩ = some (.string { data := #[98, 111, 111, 108] })) hR ?_; intro V _ hO; exact ⟨(hO.cell (by omega)).trans hP.c0, (hO.cell (by omega)).trans hP.c1, (hO.cell (by omega)).trans hP.c2, (hO.cell (by omega)).trans hP.c3, (hO.cell (by omega)).trans hP.c4, (hO.cell (by omega)).trans hP.c5, (hO.cell (by omega)).trans hcx⟩) | go_keep) (first | (go_at_call 28; refine (HI.out _ (below_step hbb (by go_grown))).mono ?_; rintro e w90 ⟨rfl, hb⟩; have hzz := hb.size; (try simp only [World.size_drew] at hzz); (try simp only [World.size_alloc] at hzz); (try simp only [World.size_drew] at hzz); (try simp only [World.size_alloc] at hzz); have hlR := hR.lt; have hb9 := below_from hbb (by go_grown) hb; replace hP := hP.carry hb9; replace hR := hR.carry hb9; replace hT := hT.carry hb9; replace HS := Lib.hid (HS.out.carry hb9); replace hcx := cell_carry hb9 hcx; replace hbb := below_step hbb hb9; clear hb hb9 hlR; (try clear hPc0); (try clear hPc1); (try clear hPc2); (try clear hPc3); (try clear hPc4); (try clear hPc5); (try clear hPf); (try clear hRc0); (try clear hRc1); (try clear hRc2); (try clear hRc3); (try clear hRc4); (try clear hRc5); (try clear hRf); (try clear hTc0); (try clear hTc1); (try clear hTc2); (try clear hTc3); (try clear hTc4); (try clear hTf); obtain ⟨hPc0, hPc1, hPc2, hPc3, hPc4, hPc5, hPf⟩ := id hP; obtain ⟨hRc0, hRc1, hRc2, hRc3, hRc4, hRc5, hRf⟩ := id hR; obtain ⟨hTc0, hTc1, hTc2, hTc3, hTc4, hTf⟩ := id hT))
    all_goals (go_wp2_with fail; go_roundw)
    case rel => exact ⟨1 + 1, by omega, rfl, hP, hR, hT, HS.out, hbb, hno'.out⟩
    case measure => simp [intOf]
  ·cases q1 : isS T ⟨I, d, c, l, k⟩ wStr with
   | true =>
    obtain ⟨⟨I2, d2, c2, l2, k2⟩, hs2⟩ : ∃ s, mustS T ⟨I, d, c, l, k⟩ wStr = s := ⟨_, rfl⟩
    have HM := Lib.hid (fun w' (hb : Below w.heap.size w w') => must_p (tc := tc) (s := ⟨I, d, c, l, k⟩) (HV.out.carry hb) { data := #[115, 116, 114] } wStr (by rw [ByteArray.toList_eq]; rfl) _ hs2)
    obtain rfl : (ndS 17 ⟨kd, ln, cl, nm, tx⟩ [] 0 [], (⟨I2, d2, c2, l2, k2⟩ : S)) = R := by
     rw [← hRk.out, kindS, if_neg (by rw [hno.out 0 wInt (by omega) rfl]; decide), if_neg (by rw [hno.out 1 wBool (by omega) rfl]; decide), if_pos q1, hs2, ht.out]
    have HI := Lib.hid (fun w' (hb : Below w.heap.size w w') => is_p (s := ⟨I, d, c, l, k⟩) (tc := tc) (HV.out.carry hb) { data := #[115, 116, 114] } wStr (by rw [ByteArray.toList_eq]; rfl) true q1)
    have hcx : wr.cell? ⟨z + 1, 2, none⟩ = some (.string { data := #[115, 116, 114] }) := HS.out.cell (x := wStr) rfl
    have lSR := lt_of_heap HS.out
    clear hs2 q1
    obtain ⟨hPc0, hPc1, hPc2, hPc3, hPc4, hPc5, hPf⟩ := id hP
    obtain ⟨hRc0, hRc1, hRc2, hRc3, hRc4, hRc5, hRf⟩ := id hR
    obtain ⟨hTc0, hTc1, hTc2, hTc3, hTc4, hTf⟩ := id hT
    go_wp2_with fail
    go_region_held3 (fun w' => w'.cell? ⟨w.heap.size, 0, none⟩ = some (.slice (some ⟨tb, to, none⟩) n tc) ∧ w'.cell? ⟨w.heap.size, 1, none⟩ = some (.int .i64 I) ∧ w'.cell? ⟨w.heap.size, 2, none⟩ = some (.int .i64 d) ∧ w'.cell? ⟨w.heap.size, 3, none⟩ = some (.int .i64 c) ∧ w'.cell? ⟨w.heap.size, 4, none⟩ = some (.int .i64 l) ∧ w'.cell? ⟨w.heap.size, 5, none⟩ = some (.int .i64 k) ∧ w'.cell? ⟨z + 1, 2, none⟩ = some (.string { data := #[115, 116, 114] })) (first | (rw [put_eq]; refine put_gen (G := fun w' => w'.cell? ⟨w.heap.size, 0, none⟩ = some (.slice (some ⟨tb, to, none⟩) n tc) ∧ w'.cell? ⟨w.heap.size, 1, none⟩ = some (.int .i64 I) ∧ w'.cell? ⟨w.heap.size, 2, none⟩ = some (.int .i64 d) ∧ w'.cell? ⟨w.heap.size, 3, none⟩ = some (.int .i64 c) ∧ w'.cell? ⟨w.heap.size, 4, none⟩ = some (.int .i64 l) ∧ w'.cell? ⟨w.heap.size, 5, none⟩ = some (.int .i64 k) ∧ w'.cell? ⟨z + 1, 2, none⟩ = some (.string { data := #[115, 116, 114] })) hR ?_; intro V _ hO; exact ⟨(hO.cell (by omega)).trans hP.c0, (hO.cell (by omega)).trans hP.c1, (hO.cell (by omega)).trans hP.c2, (hO.cell (by omega)).trans hP.c3, (hO.cell (by omega)).trans hP.c4, (hO.cell (by omega)).trans hP.c5, (hO.cell (by omega)).trans hcx⟩) | go_keep) (first | (go_at_call 28; refine (HI.out _ (below_step hbb (by go_grown))).mono ?_; rintro e w90 ⟨rfl, hb⟩; have hzz := hb.size; (try simp only [World.size_drew] at hzz); (try simp only [World.size_alloc] at hzz); (try simp only [World.size_drew] at hzz); (try simp only [World.size_alloc] at hzz); have hlR := hR.lt; have hb9 := below_from hbb (by go_grown) hb; replace hP := hP.carry hb9; replace hR := hR.carry hb9; replace hT := hT.carry hb9; replace HS := Lib.hid (HS.out.carry hb9); replace hcx := cell_carry hb9 hcx; replace hbb := below_step hbb hb9; clear hb hb9 hlR; (try clear hPc0); (try clear hPc1); (try clear hPc2); (try clear hPc3); (try clear hPc4); (try clear hPc5); (try clear hPf); (try clear hRc0); (try clear hRc1); (try clear hRc2); (try clear hRc3); (try clear hRc4); (try clear hRc5); (try clear hRf); (try clear hTc0); (try clear hTc1); (try clear hTc2); (try clear hTc3); (try clear hTc4); (try clear hTf); obtain ⟨hPc0, hPc1, hPc2, hPc3, hPc4, hPc5, hPf⟩ := id hP; obtain ⟨hRc0, hRc1, hRc2, hRc3, hRc4, hRc5, hRf⟩ := id hR; obtain ⟨hTc0, hTc1, hTc2, hTc3, hTc4, hTf⟩ := id hT))
    go_wp2_with fail
    go_region_held3 (fun w' => w'.cell? ⟨w.heap.size, 0, none⟩ = some (.slice (some ⟨tb, to, none⟩) n tc) ∧ w'.cell? ⟨w.heap.size, 1, none⟩ = some (.int .i64 I) ∧ w'.cell? ⟨w.heap.size, 2, none⟩ = some (.int .i64 d) ∧ w'.cell? ⟨w.heap.size, 3, none⟩ = some (.int .i64 c) ∧ w'.cell? ⟨w.heap.size, 4, none⟩ = some (.int .i64 l) ∧ w'.cell? ⟨w.heap.size, 5, none⟩ = some (.int .i64 k) ∧ w'.cell? ⟨z, 0, none⟩ = some (.int .u8 kd) ∧ w'.cell? ⟨z, 1, none⟩ = some (.int .i64 ln) ∧ w'.cell? ⟨z, 2, none⟩ = some (.int .i64 cl) ∧ w'.cell? ⟨z, 3, none⟩ = some (.int .i64 nm) ∧ w'.cell? ⟨z, 4, none⟩ = some (.string X) ∧ w'.cell? ⟨z + 1, 2, none⟩ = some (.string { data := #[115, 116, 114] })) (first | (rw [put_eq]; refine put_gen (G := fun w' => w'.cell? ⟨w.heap.size, 0, none⟩ = some (.slice (some ⟨tb, to, none⟩) n tc) ∧ w'.cell? ⟨w.heap.size, 1, none⟩ = some (.int .i64 I) ∧ w'.cell? ⟨w.heap.size, 2, none⟩ = some (.int .i64 d) ∧ w'.cell? ⟨w.heap.size, 3, none⟩ = some (.int .i64 c) ∧ w'.cell? ⟨w.heap.size, 4, none⟩ = some (.int .i64 l) ∧ w'.cell? ⟨w.heap.size, 5, none⟩ = some (.int .i64 k) ∧ w'.cell? ⟨z, 0, none⟩ = some (.int .u8 kd) ∧ w'.cell? ⟨z, 1, none⟩ = some (.int .i64 ln) ∧ w'.cell? ⟨z, 2, none⟩ = some (.int .i64 cl) ∧ w'.cell? ⟨z, 3, none⟩ = some (.int .i64 nm) ∧ w'.cell? ⟨z, 4, none⟩ = some (.string X) ∧ w'.cell? ⟨z + 1, 2, none⟩ = some (.string { data := #[115, 116, 114] })) hR ?_; intro V _ hO; exact ⟨(hO.cell (by omega)).trans hP.c0, (hO.cell (by omega)).trans hP.c1, (hO.cell (by omega)).trans hP.c2, (hO.cell (by omega)).trans hP.c3, (hO.cell (by omega)).trans hP.c4, (hO.cell (by omega)).trans hP.c5, (hO.cell (by omega)).trans hT.c0, (hO.cell (by omega)).trans hT.c1, (hO.cell (by omega)).trans hT.c2, (hO.cell (by omega)).trans hT.c3, (hO.cell (by omega)).trans hT.c4, (hO.cell (by omega)).trans hcx⟩) | go_keep) (first | (go_at_call 30; refine (HM.out _ (below_step hbb (by go_grown))).mono ?_; rintro e w90 ⟨rfl, hb⟩; have hzz := hb.size; (try simp only [World.size_drew] at hzz); (try simp only [World.size_alloc] at hzz); (try simp only [World.size_drew] at hzz); (try simp only [World.size_alloc] at hzz); have hlR := hR.lt; have hb9 := below_from hbb (by go_grown) hb; replace hP := hP.carry hb9; replace hR := hR.carry hb9; replace hT := hT.carry hb9; (try replace HY := Lib.hid (HY.out.carry hb9)); replace HS := Lib.hid (HS.out.carry hb9); replace hcx := cell_carry hb9 hcx; replace hbb := below_step hbb hb9; clear hb hb9 hlR; (try clear hPc0); (try clear hPc1); (try clear hPc2); (try clear hPc3); (try clear hPc4); (try clear hPc5); (try clear hPf); (try clear hRc0); (try clear hRc1); (try clear hRc2); (try clear hRc3); (try clear hRc4); (try clear hRc5); (try clear hRf); (try clear hTc0); (try clear hTc1); (try clear hTc2); (try clear hTc3); (try clear hTc4); (try clear hTf); obtain ⟨hPc0, hPc1, hPc2, hPc3, hPc4, hPc5, hPf⟩ := id hP; obtain ⟨hRc0, hRc1, hRc2, hRc3, hRc4, hRc5, hRf⟩ := id hR; obtain ⟨hTc0, hTc1, hTc2, hTc3, hTc4, hTf⟩ := id hT) | (go_at_call 31; refine (node_q (l := []) (n := 0) rfl (Lib.hid (lies_nil (by (try simp only [World.size_drew]); (try simp only [World.size_alloc]); (try simp only [World.size_drew]); (try simp only [World.size_alloc]); omega))) (by omega)).mono ?_; rintro e w91 ⟨g9, cap9, rfl, HY, lo, hb⟩; have hzz := hb.size; (try simp only [World.size_drew] at hzz); (try simp only [World.size_alloc] at hzz); (try simp only [World.size_drew] at hzz); (try simp only [World.size_alloc] at hzz); have hlR := hR.lt; replace HY := Lib.hid HY; have loHY : w.heap.size + 1 + 1 ≤ g9 := Nat.le_trans (by (try simp only [World.size_drew]); (try simp only [World.size_alloc]); (try simp only [World.size_drew]); (try simp only [World.size_alloc]); omega) lo; clear lo; have hb9 := below_from hbb (by go_grown) hb; replace hP := hP.carry hb9; replace hR := hR.carry hb9; replace hT := hT.carry hb9; replace HS := Lib.hid (HS.out.carry hb9); replace hcx := cell_carry hb9 hcx; replace hbb := below_step hbb hb9; clear hb hb9 hlR; (try clear hPc0); (try clear hPc1); (try clear hPc2); (try clear hPc3); (try clear hPc4); (try clear hPc5); (try clear hPf); (try clear hRc0); (try clear hRc1); (try clear hRc2); (try clear hRc3); (try clear hRc4); (try clear hRc5); (try clear hRf); (try clear hTc0); (try clear hTc1); (try clear hTc2); (try clear hTc3); (try clear hTc4); (try clear hTf); obtain ⟨hPc0, hPc1, hPc2, hPc3, hPc4, hPc5, hPf⟩ := id hP; obtain ⟨hRc0, hRc1, hRc2, hRc3, hRc4, hRc5, hRf⟩ := id hR; obtain ⟨hTc0, hTc1, hTc2, hTc3, hTc4, hTf⟩ := id hT))
    all_goals (obtain ⟨V, hV, nR, hO⟩ := put_ex hR (.slice (some ⟨tb, to, none⟩) n tc) I2 d2 c2 l2 k2; (first | (rw [put_eq, hV.out]) | (go_wp2_with (first | (rw [put_eq, hV.out])))); replace hbb := hO.below hbb (by omega); replace HY := Lib.hid (HY.out.oth hO (by omega)); clear hO; (try clear hRc0 hRc1 hRc2 hRc3 hRc4 hRc5 hRf); obtain ⟨hRc0, hRc1, hRc2, hRc3, hRc4, hRc5, hRf⟩ := id nR; go_wp2_with fail; refine bodyPost_ret (v := .tuple #[.slice (some ⟨g9, 0, none⟩) (0 + 1) cap9, pQ tb to n tc I2 d2 c2 l2 k2]) (by simp [results, Tryz.results93, go_sem, hRc0, hRc1, hRc2, hRc3, hRc4, hRc5]) rfl ⟨g9, cap9, rfl, HY.out, by omega, (by first | exact hbb | exact below_step hbb (by go_grown))⟩)
   | false =>
    have HI := Lib.hid (fun w' (hb : Below w.heap.size w w') => is_p (s := ⟨I, d, c, l, k⟩) (tc := tc) (HV.out.carry hb) { data := #[115, 116, 114] } wStr (by rw [ByteArray.toList_eq]; rfl) false q1)
    have hcx : wr.cell? ⟨z + 1, 2, none⟩ = some (.string { data := #[115, 116, 114] }) := HS.out.cell (x := wStr) rfl
    have hno' := Lib.hid (show ∀ i' x, i' < 2 + 1 → wds[i']? = some x → isS T ⟨I, d, c, l, k⟩ x = false from fun i' y h hy => by
     by_cases e : i' = 2
     ·subst e; cases hy; exact q1
     ·exact hno.out i' y (by omega) hy)
    clear q1
    obtain ⟨hPc0, hPc1, hPc2, hPc3, hPc4, hPc5, hPf⟩ := id hP
    obtain ⟨hRc0, hRc1, hRc2, hRc3, hRc4, hRc5, hRf⟩ := id hR
    obtain ⟨hTc0, hTc1, hTc2, hTc3, hTc4, hTf⟩ := id hT
    go_wp2_with fail
    go_region_held3 (fun w' => w'.cell? ⟨w.heap.size, 0, none⟩ = some (.slice (some ⟨tb, to, none⟩) n tc) ∧ w'.cell? ⟨w.heap.size, 1, none⟩ = some (.int .i64 I) ∧ w'.cell? ⟨w.heap.size, 2, none⟩ = some (.int .i64 d) ∧ w'.cell? ⟨w.heap.size, 3, none⟩ = some (.int .i64 c) ∧ w'.cell? ⟨w.heap.size, 4, none⟩ = some (.int .i64 l) ∧ w'.cell? ⟨w.heap.size, 5, none⟩ = some (.int .i64 k) ∧ w'.cell? ⟨z + 1, 2, none⟩ = some (.string { data := #[115, 116, 114] })) (first | (rw [put_eq]; refine put_gen (G := fun w' => w'.cell? ⟨w.heap.size, 0, none⟩ = some (.slice (some ⟨tb, to, none⟩) n tc) ∧ w'.cell? ⟨w.heap.size, 1, none⟩ = some (.int .i64 I) ∧ w'.cell? ⟨w.heap.size, 2, none⟩ = some (.int .i64 d) ∧ w'.cell? ⟨w.heap.size, 3, none⟩ = some (.int .i64 c) ∧ w'.cell? ⟨w.heap.size, 4, none⟩ = some (.int .i64 l) ∧ w'.cell? ⟨w.heap.size, 5, none⟩ = some (.int .i64 k) ∧ w'.cell? ⟨z + 1, 2, none⟩ = some (.string { data := #[115, 116, 114] })) hR ?_; intro V _ hO; exact ⟨(hO.cell (by omega)).trans hP.c0, (hO.cell (by omega)).trans hP.c1, (hO.cell (by omega)).trans hP.c2, (hO.cell (by omega)).trans hP.c3, (hO.cell (by omega)).trans hP.c4, (hO.cell (by omega)).trans hP.c5, (hO.cell (by omega)).trans hcx⟩) | go_keep) (first | (go_at_call 28; refine (HI.out _ (below_step hbb (by go_grown))).mono ?_; rintro e w90 ⟨rfl, hb⟩; have hzz := hb.size; (try simp only [World.size_drew] at hzz); (try simp only [World.size_alloc] at hzz); (try simp only [World.size_drew] at hzz); (try simp only [World.size_alloc] at hzz); have hlR := hR.lt; have hb9 := below_from hbb (by go_grown) hb; replace hP := hP.carry hb9; replace hR := hR.carry hb9; replace hT := hT.carry hb9; replace HS := Lib.hid (HS.out.carry hb9); replace hcx := cell_carry hb9 hcx; replace hbb := below_step hbb hb9; clear hb hb9 hlR; (try clear hPc0); (try clear hPc1); (try clear hPc2); (try clear hPc3); (try clear hPc4); (try clear hPc5); (try clear hPf); (try clear hRc0); (try clear hRc1); (try clear hRc2); (try clear hRc3); (try clear hRc4); (try clear hRc5); (try clear hRf); (try clear hTc0); (try clear hTc1); (try clear hTc2); (try clear hTc3); (try clear hTc4); (try clear hTf); obtain ⟨hPc0, hPc1, hPc2, hPc3, hPc4, hPc5, hPf⟩ := id hP; obtain ⟨hRc0, hRc1, hRc2, hRc3, hRc4, hRc5, hRf⟩ := id hR; obtain ⟨hTc0, hTc1, hTc2, hTc3, hTc4, hTf⟩ := id hT))
    all_goals (go_wp2_with fail; go_roundw)
    case rel => exact ⟨2 + 1, by omega, rfl, hP, hR, hT, HS.out, hbb, hno'.out⟩
    case measure => simp [intOf]
  ·cases q1 : isS T ⟨I, d, c, l, k⟩ wComp with
   | true =>
    obtain ⟨⟨I2, d2, c2, l2, k2⟩, hs2⟩ : ∃ s, mustS T ⟨I, d, c, l, k⟩ wComp = s := ⟨_, rfl⟩
    have HM := Lib.hid (fun w' (hb : Below w.heap.size w w') => must_p (tc := tc) (s := ⟨I, d, c, l, k⟩) (HV.out.carry hb) { data := #[99, 111, 109, 112] } wComp (by rw [ByteArray.toList_eq]; rfl) _ hs2)
    obtain rfl : (ndS 18 ⟨kd, ln, cl, nm, tx⟩ [] 0 [], (⟨I2, d2, c2, l2, k2⟩ : S)) = R := by
     rw [← hRk.out, kindS, if_neg (by rw [hno.out 0 wInt (by omega) rfl]; decide), if_neg (by rw [hno.out 1 wBool (by omega) rfl]; decide), if_neg (by rw [hno.out 2 wStr (by omega) rfl]; decide), if_pos q1, hs2, ht.out]
    have HI := Lib.hid (fun w' (hb : Below w.heap.size w w') => is_p (s := ⟨I, d, c, l, k⟩) (tc := tc) (HV.out.carry hb) { data := #[99, 111, 109, 112] } wComp (by rw [ByteArray.toList_eq]; rfl) true q1)
    have hcx : wr.cell? ⟨z + 1, 3, none⟩ = some (.string { data := #[99, 111, 109, 112] }) := HS.out.cell (x := wComp) rfl
    have lSR := lt_of_heap HS.out
    clear hs2 q1
    obtain ⟨hPc0, hPc1, hPc2, hPc3, hPc4, hPc5, hPf⟩ := id hP
    obtain ⟨hRc0, hRc1, hRc2, hRc3, hRc4, hRc5, hRf⟩ := id hR
    obtain ⟨hTc0, hTc1, hTc2, hTc3, hTc4, hTf⟩ := id hT
    go_wp2_with fail
    go_region_held3 (fun w' => w'.cell? ⟨w.heap.size, 0, none⟩ = some (.slice (some ⟨tb, to, none⟩) n tc) ∧ w'.cell? ⟨w.heap.size, 1, none⟩ = some (.int .i64 I) ∧ w'.cell? ⟨w.heap.size, 2, none⟩ = some (.int .i64 d) ∧ w'.cell? ⟨w.heap.size, 3, none⟩ = some (.int .i64 c) ∧ w'.cell? ⟨w.heap.size, 4, none⟩ = some (.int .i64 l) ∧ w'.cell? ⟨w.heap.size, 5, none⟩ = some (.int .i64 k) ∧ w'.cell? ⟨z + 1, 3, none⟩ = some (.string { data := #[99, 111, 109, 112] })) (first | (rw [put_eq]; refine put_gen (G := fun w' => w'.cell? ⟨w.heap.size, 0, none⟩ = some (.slice (some ⟨tb, to, none⟩) n tc) ∧ w'.cell? ⟨w.heap.size, 1, none⟩ = some (.int .i64 I) ∧ w'.cell? ⟨w.heap.size, 2, none⟩ = some (.int .i64 d) ∧ w'.cell? ⟨w.heap.size, 3, none⟩ = some (.int .i64 c) ∧ w'.cell? ⟨w.heap.size, 4, none⟩ = some (.int .i64 l) ∧ w'.cell? ⟨w.heap.size, 5, none⟩ = some (.int .i64 k) ∧ w'.cell? ⟨z + 1, 3, none⟩ = some (.string { data := #[99, 111, 109, 112] })) hR ?_; intro V _ hO; exact ⟨(hO.cell (by omega)).trans hP.c0, (hO.cell (by omega)).trans hP.c1, (hO.cell (by omega)).trans hP.c2, (hO.cell (by omega)).trans hP.c3, (hO.cell (by omega)).trans hP.c4, (hO.cell (by omega)).trans hP.c5, (hO.cell (by omega)).trans hcx⟩) | go_keep) (first | (go_at_call 28; refine (HI.out _ (below_step hbb (by go_grown))).mono ?_; rintro e w90 ⟨rfl, hb⟩; have hzz := hb.size; (try simp only [World.size_drew] at hzz); (try simp only [World.size_alloc] at hzz); (try simp only [World.size_drew] at hzz); (try simp only [World.size_alloc] at hzz); have hlR := hR.lt; have hb9 := below_from hbb (by go_grown) hb; replace hP := hP.carry hb9; replace hR := hR.carry hb9; replace hT := hT.carry hb9; replace HS := Lib.hid (HS.out.carry hb9); replace hcx := cell_carry hb9 hcx; replace hbb := below_step hbb hb9; clear hb hb9 hlR; (try clear hPc0); (try clear hPc1); (try clear hPc2); (try clear hPc3); (try clear hPc4); (try clear hPc5); (try clear hPf); (try clear hRc0); (try clear hRc1); (try clear hRc2); (try clear hRc3); (try clear hRc4); (try clear hRc5); (try clear hRf); (try clear hTc0); (try clear hTc1); (try clear hTc2); (try clear hTc3); (try clear hTc4); (try clear hTf); obtain ⟨hPc0, hPc1, hPc2, hPc3, hPc4, hPc5, hPf⟩ := id hP; obtain ⟨hRc0, hRc1, hRc2, hRc3, hRc4, hRc5, hRf⟩ := id hR; obtain ⟨hTc0, hTc1, hTc2, hTc3, hTc4, hTf⟩ := id hT))
    go_wp2_with fail
    go_region_held3 (fun w' => w'.cell? ⟨w.heap.size, 0, none⟩ = some (.slice (some ⟨tb, to, none⟩) n tc) ∧ w'.cell? ⟨w.heap.size, 1, none⟩ = some (.int .i64 I) ∧ w'.cell? ⟨w.heap.size, 2, none⟩ = some (.int .i64 d) ∧ w'.cell? ⟨w.heap.size, 3, none⟩ = some (.int .i64 c) ∧ w'.cell? ⟨w.heap.size, 4, none⟩ = some (.int .i64 l) ∧ w'.cell? ⟨w.heap.size, 5, none⟩ = some (.int .i64 k) ∧ w'.cell? ⟨z, 0, none⟩ = some (.int .u8 kd) ∧ w'.cell? ⟨z, 1, none⟩ = some (.int .i64 ln) ∧ w'.cell? ⟨z, 2, none⟩ = some (.int .i64 cl) ∧ w'.cell? ⟨z, 3, none⟩ = some (.int .i64 nm) ∧ w'.cell? ⟨z, 4, none⟩ = some (.string X) ∧ w'.cell? ⟨z + 1, 3, none⟩ = some (.string { data := #[99, 111, 109, 112] })) (first | (rw [put_eq]; refine put_gen (G := fun w' => w'.cell? ⟨w.heap.size, 0, none⟩ = some (.slice (some ⟨tb, to, none⟩) n tc) ∧ w'.cell? ⟨w.heap.size, 1, none⟩ = some (.int .i64 I) ∧ w'.cell? ⟨w.heap.size, 2, none⟩ = some (.int .i64 d) ∧ w'.cell? ⟨w.heap.size, 3, none⟩ = some (.int .i64 c) ∧ w'.cell? ⟨w.heap.size, 4, none⟩ = some (.int .i64 l) ∧ w'.cell? ⟨w.heap.size, 5, none⟩ = some (.int .i64 k) ∧ w'.cell? ⟨z, 0, none⟩ = some (.int .u8 kd) ∧ w'.cell? ⟨z, 1, none⟩ = some (.int .i64 ln) ∧ w'.cell? ⟨z, 2, none⟩ = some (.int .i64 cl) ∧ w'.cell? ⟨z, 3, none⟩ = some (.int .i64 nm) ∧ w'.cell? ⟨z, 4, none⟩ = some (.string X) ∧ w'.cell? ⟨z + 1, 3, none⟩ = some (.string { data := #[99, 111, 109, 112] })) hR ?_; intro V _ hO; exact ⟨(hO.cell (by omega)).trans hP.c0, (hO.cell (by omega)).trans hP.c1, (hO.cell (by omega)).trans hP.c2, (hO.cell (by omega)).trans hP.c3, (hO.cell (by omega)).trans hP.c4, (hO.cell (by omega)).trans hP.c5, (hO.cell (by omega)).trans hT.c0, (hO.cell (by omega)).trans hT.c1, (hO.cell (by omega)).trans hT.c2, (hO.cell (by omega)).trans hT.c3, (hO.cell (by omega)).trans hT.c4, (hO.cell (by omega)).trans hcx⟩) | go_keep) (first | (go_at_call 30; refine (HM.out _ (below_step hbb (by go_grown))).mono ?_; rintro e w90 ⟨rfl, hb⟩; have hzz := hb.size; (try simp only [World.size_drew] at hzz); (try simp only [World.size_alloc] at hzz); (try simp only [World.size_drew] at hzz); (try simp only [World.size_alloc] at hzz); have hlR := hR.lt; have hb9 := below_from hbb (by go_grown) hb; replace hP := hP.carry hb9; replace hR := hR.carry hb9; replace hT := hT.carry hb9; (try replace HY := Lib.hid (HY.out.carry hb9)); replace HS := Lib.hid (HS.out.carry hb9); replace hcx := cell_carry hb9 hcx; replace hbb := below_step hbb hb9; clear hb hb9 hlR; (try clear hPc0); (try clear hPc1); (try clear hPc2); (try clear hPc3); (try clear hPc4); (try clear hPc5); (try clear hPf); (try clear hRc0); (try clear hRc1); (try clear hRc2); (try clear hRc3); (try clear hRc4); (try clear hRc5); (try clear hRf); (try clear hTc0); (try clear hTc1); (try clear hTc2); (try clear hTc3); (try clear hTc4); (try clear hTf); obtain ⟨hPc0, hPc1, hPc2, hPc3, hPc4, hPc5, hPf⟩ := id hP; obtain ⟨hRc0, hRc1, hRc2, hRc3, hRc4, hRc5, hRf⟩ := id hR; obtain ⟨hTc0, hTc1, hTc2, hTc3, hTc4, hTf⟩ := id hT) | (go_at_call 31; refine (node_q (l := []) (n := 0) rfl (Lib.hid (lies_nil (by (try simp only [World.size_drew]); (try simp only [World.size_alloc]); (try simp only [World.size_drew]); (try simp only [World.size_alloc]); omega))) (by omega)).mono ?_; rintro e w91 ⟨g9, cap9, rfl, HY, lo, hb⟩; have hzz := hb.size; (try simp only [World.size_drew] at hzz); (try simp only [World.size_alloc] at hzz); (try simp only [World.size_drew] at hzz); (try simp only [World.size_alloc] at hzz); have hlR := hR.lt; replace HY := Lib.hid HY; have loHY : w.heap.size + 1 + 1 ≤ g9 := Nat.le_trans (by (try simp only [World.size_drew]); (try simp only [World.size_alloc]); (try simp only [World.size_drew]); (try simp only [World.size_alloc]); omega) lo; clear lo; have hb9 := below_from hbb (by go_grown) hb; replace hP := hP.carry hb9; replace hR := hR.carry hb9; replace hT := hT.carry hb9; replace HS := Lib.hid (HS.out.carry hb9); replace hcx := cell_carry hb9 hcx; replace hbb := below_step hbb hb9; clear hb hb9 hlR; (try clear hPc0); (try clear hPc1); (try clear hPc2); (try clear hPc3); (try clear hPc4); (try clear hPc5); (try clear hPf); (try clear hRc0); (try clear hRc1); (try clear hRc2); (try clear hRc3); (try clear hRc4); (try clear hRc5); (try clear hRf); (try clear hTc0); (try clear hTc1); (try clear hTc2); (try clear hTc3); (try clear hTc4); (try clear hTf); obtain ⟨hPc0, hPc1, hPc2, hPc3, hPc4, hPc5, hPf⟩ := id hP; obtain ⟨hRc0, hRc1, hRc2, hRc3, hRc4, hRc5, hRf⟩ := id hR; obtain ⟨hTc0, hTc1, hTc2, hTc3, hTc4, hTf⟩ := id hT))
    all_goals (obtain ⟨V, hV, nR, hO⟩ := put_ex hR (.slice (some ⟨tb, to, none⟩) n tc) I2 d2 c2 l2 k2; (first | (rw [put_eq, hV.out]) | (go_wp2_with (first | (rw [put_eq, hV.out])))); replace hbb := hO.below hbb (by omega); replace HY := Lib.hid (HY.out.oth hO (by omega)); clear hO; (try clear hRc0 hRc1 hRc2 hRc3 hRc4 hRc5 hRf); obtain ⟨hRc0, hRc1, hRc2, hRc3, hRc4, hRc5, hRf⟩ := id nR; go_wp2_with fail; refine bodyPost_ret (v := .tuple #[.slice (some ⟨g9, 0, none⟩) (0 + 1) cap9, pQ tb to n tc I2 d2 c2 l2 k2]) (by simp [results, Tryz.results93, go_sem, hRc0, hRc1, hRc2, hRc3, hRc4, hRc5]) rfl ⟨g9, cap9, rfl, HY.out, by omega, (by first | exact hbb | exact below_step hbb (by go_grown))⟩)
   | false =>
    have HI := Lib.hid (fun w' (hb : Below w.heap.size w w') => is_p (s := ⟨I, d, c, l, k⟩) (tc := tc) (HV.out.carry hb) { data := #[99, 111, 109, 112] } wComp (by rw [ByteArray.toList_eq]; rfl) false q1)
    have hcx : wr.cell? ⟨z + 1, 3, none⟩ = some (.string { data := #[99, 111, 109, 112] }) := HS.out.cell (x := wComp) rfl
    have hno' := Lib.hid (show ∀ i' x, i' < 3 + 1 → wds[i']? = some x → isS T ⟨I, d, c, l, k⟩ x = false from fun i' y h hy => by
     by_cases e : i' = 3
     ·subst e; cases hy; exact q1
     ·exact hno.out i' y (by omega) hy)
    clear q1
    obtain ⟨hPc0, hPc1, hPc2, hPc3, hPc4, hPc5, hPf⟩ := id hP
    obtain ⟨hRc0, hRc1, hRc2, hRc3, hRc4, hRc5, hRf⟩ := id hR
    obtain ⟨hTc0, hTc1, hTc2, hTc3, hTc4, hTf⟩ := id hT
    go_wp2_with fail
    go_region_held3 (fun w' => w'.cell? ⟨w.heap.size, 0, none⟩ = some (.slice (some ⟨tb, to, none⟩) n tc) ∧ w'.cell? ⟨w.heap.size, 1, none⟩ = some (.int .i64 I) ∧ w'.cell? ⟨w.heap.size, 2, none⟩ = some (.int .i64 d) ∧ w'.cell? ⟨w.heap.size, 3, none⟩ = some (.int .i64 c) ∧ w'.cell? ⟨w.heap.size, 4, none⟩ = some (.int .i64 l) ∧ w'.cell? ⟨w.heap.size, 5, none⟩ = some (.int .i64 k) ∧ w'.cell? ⟨z + 1, 3, none⟩ = some (.string { data := #[99, 111, 109, 112] })) (first | (rw [put_eq]; refine put_gen (G := fun w' => w'.cell? ⟨w.heap.size, 0, none⟩ = some (.slice (some ⟨tb, to, none⟩) n tc) ∧ w'.cell? ⟨w.heap.size, 1, none⟩ = some (.int .i64 I) ∧ w'.cell? ⟨w.heap.size, 2, none⟩ = some (.int .i64 d) ∧ w'.cell? ⟨w.heap.size, 3, none⟩ = some (.int .i64 c) ∧ w'.cell? ⟨w.heap.size, 4, none⟩ = some (.int .i64 l) ∧ w'.cell? ⟨w.heap.size, 5, none⟩ = some (.int .i64 k) ∧ w'.cell? ⟨z + 1, 3, none⟩ = some (.string { data := #[99, 111, 109, 112] })) hR ?_; intro V _ hO; exact ⟨(hO.cell (by omega)).trans hP.c0, (hO.cell (by omega)).trans hP.c1, (hO.cell (by omega)).trans hP.c2, (hO.cell (by omega)).trans hP.c3, (hO.cell (by omega)).trans hP.c4, (hO.cell (by omega)).trans hP.c5, (hO.cell (by omega)).trans hcx⟩) | go_keep) (first | (go_at_call 28; refine (HI.out _ (below_step hbb (by go_grown))).mono ?_; rintro e w90 ⟨rfl, hb⟩; have hzz := hb.size; (try simp only [World.size_drew] at hzz); (try simp only [World.size_alloc] at hzz); (try simp only [World.size_drew] at hzz); (try simp only [World.size_alloc] at hzz); have hlR := hR.lt; have hb9 := below_from hbb (by go_grown) hb; replace hP := hP.carry hb9; replace hR := hR.carry hb9; replace hT := hT.carry hb9; replace HS := Lib.hid (HS.out.carry hb9); replace hcx := cell_carry hb9 hcx; replace hbb := below_step hbb hb9; clear hb hb9 hlR; (try clear hPc0); (try clear hPc1); (try clear hPc2); (try clear hPc3); (try clear hPc4); (try clear hPc5); (try clear hPf); (try clear hRc0); (try clear hRc1); (try clear hRc2); (try clear hRc3); (try clear hRc4); (try clear hRc5); (try clear hRf); (try clear hTc0); (try clear hTc1); (try clear hTc2); (try clear hTc3); (try clear hTc4); (try clear hTf); obtain ⟨hPc0, hPc1, hPc2, hPc3, hPc4, hPc5, hPf⟩ := id hP; obtain ⟨hRc0, hRc1, hRc2, hRc3, hRc4, hRc5, hRf⟩ := id hR; obtain ⟨hTc0, hTc1, hTc2, hTc3, hTc4, hTf⟩ := id hT))
    all_goals (go_wp2_with fail; go_roundw)
    case rel => exact ⟨3 + 1, by omega, rfl, hP, hR, hT, HS.out, hbb, hno'.out⟩
    case measure => simp [intOf]
  ·cases q1 : isS T ⟨I, d, c, l, k⟩ [91] with
   | true =>
    obtain ⟨⟨I2, d2, c2, l2, k2⟩, hs2⟩ : ∃ s, opensS T ⟨I, d, c, l, k⟩ [91] = s := ⟨_, rfl⟩
    have HO := Lib.hid (fun w' (hb : Below w.heap.size w w') => opens_p (tc := tc) (s := ⟨I, d, c, l, k⟩) (HV.out.carry hb) { data := #[91] } [91] (by rw [ByteArray.toList_eq]) _ hs2)
    have hf2 := fit_opens hE.out hf.out q1
    rw [hs2] at hf2
    have hI2 : I2 < n := by have := hf2.1; simp only at this; omega
    obtain ⟨⟨y, ⟨I3, d3, c3, l3, k3⟩⟩, hy⟩ : ∃ q, kindS T N ⟨I2, d2, c2, l2, k2⟩ = q := ⟨_, rfl⟩
    have hbd := bnd_kind hE.out N _ hf2
    rw [hy] at hbd
    have hI3 : I3 < n := by have := hbd.1.2.1; simp only at this; omega
    have hyl : y.length ≤ 70003 := by have := hbd.2; simp only at this; omega
    have HK2 : Hid (∀ w', Below w.heap.size w w' → Calls Tryz.prog 93 #[pQ tb to n tc I2 d2 c2 l2 k2] w' (RetQ w' y y.length (pQ tb to n tc I3 d3 c3 l3 k3))) := Lib.hid (fun w' hb => by
     have := hK.out (tc := tc) (s := ⟨I2, d2, c2, l2, k2⟩) ((HV.out.at hI2).carry hb) hf2
     rw [hy] at this
     exact this)
    obtain ⟨⟨I4, d4, c4, l4, k4⟩, hs4⟩ : ∃ s, shutsS T ⟨I3, d3, c3, l3, k3⟩ [93] = s := ⟨_, rfl⟩
    have HH := Lib.hid (fun w' (hb : Below w.heap.size w w') => shuts_p (tc := tc) (s := ⟨I3, d3, c3, l3, k3⟩) ((HV.out.at hI3).carry hb) { data := #[93] } [93] (by rw [ByteArray.toList_eq]) _ hs4)
    obtain rfl : (ndS 20 ⟨kd, ln, cl, nm, tx⟩ [] 0 y, (⟨I4, d4, c4, l4, k4⟩ : S)) = R := by
     rw [← hRk.out, kindS, if_neg (by rw [hno.out 0 wInt (by omega) rfl]; decide), if_neg (by rw [hno.out 1 wBool (by omega) rfl]; decide), if_neg (by rw [hno.out 2 wStr (by omega) rfl]; decide), if_neg (by rw [hno.out 3 wComp (by omega) rfl]; decide), if_pos q1, hs2, hy, hs4, ht.out]
    have HI := Lib.hid (fun w' (hb : Below w.heap.size w w') => is_p (s := ⟨I, d, c, l, k⟩) (tc := tc) (HV.out.carry hb) { data := #[91] } [91] (by rw [ByteArray.toList_eq]) true q1)
    clear hs2 q1 hf2 hy hbd hs4 hno
    obtain ⟨hPc0, hPc1, hPc2, hPc3, hPc4, hPc5, hPf⟩ := id hP
    go_wp2_with fail
    refine (HI.out _ (hbb)).mono ?_
    rintro e w3 ⟨rfl, hb⟩
    clear hPc0 hPc1 hPc2 hPc3 hPc4 hPc5 hPf
    replace hP := hP.carry hb
    replace hR := hR.carry hb
    replace hT := hT.carry hb
    replace HS := Lib.hid (HS.out.carry hb)
    replace hbb := below_step hbb hb
    have hz3 := hb.size
    clear hb
    have lhP := hP.lt
    have lhR := hR.lt
    have lhT := hT.lt
    obtain ⟨hPc0, hPc1, hPc2, hPc3, hPc4, hPc5, hPf⟩ := id hP
    go_wp2_with fail
    refine (HO.out _ (hbb)).mono ?_
    rintro e w4 ⟨rfl, hb⟩
    clear hPc0 hPc1 hPc2 hPc3 hPc4 hPc5 hPf
    replace hP := hP.carry hb
    replace hR := hR.carry hb
    replace hT := hT.carry hb
    replace HS := Lib.hid (HS.out.carry hb)
    replace hbb := below_step hbb hb
    have hz4 := hb.size
    clear hb
    have lhP := hP.lt
    have lhR := hR.lt
    have lhT := hT.lt
    go_wp2_with fail
    refine (HK2.out _ (hbb)).mono ?_
    rintro e w5 ⟨g2, cap2, rfl, HX, log2, hb⟩
    replace hP := hP.carry hb
    replace hR := hR.carry hb
    replace hT := hT.carry hb
    replace HS := Lib.hid (HS.out.carry hb)
    replace hbb := below_step hbb hb
    replace HX := Lib.hid HX
    have hz5 := hb.size
    clear hb
    have lhP := hP.lt
    have lhR := hR.lt
    have lhT := hT.lt
    go_wp2_with fail
    obtain ⟨W, hW⟩ : ∃ W, W = (w5.alloc (.cells #[(.slice (some ⟨tb, to, none⟩) n tc), .int .i64 I3, .int .i64 d3, .int .i64 c3, .int .i64 l3, .int .i64 k3] 43)) := ⟨_, rfl⟩
    rw [← hW]
    have hbW : Below w5.heap.size w5 W := by rw [hW]; go_grown
    replace hbb := below_step hbb hbW
    replace hP := hP.carry hbW
    replace hR := hR.carry hbW
    replace hT := hT.carry hbW
    replace HS := Lib.hid (HS.out.carry hbW)
    replace HX := Lib.hid (HX.out.carry hbW)
    have hQ : Bx W w5.heap.size (.slice (some ⟨tb, to, none⟩) n tc) I3 d3 c3 l3 k3 := by rw [hW]; exact (Bx.made w5 (.slice (some ⟨tb, to, none⟩) n tc) I3 d3 c3 l3 k3)
    clear hbW
    have hzW : W.heap.size = w5.heap.size + 1 := by rw [hW]; simp
    clear hW
    have lhP := hP.lt
    have lhR := hR.lt
    have lhT := hT.lt
    have lhQ := hQ.lt
    obtain ⟨hPc0, hPc1, hPc2, hPc3, hPc4, hPc5, hPf⟩ := id hP
    obtain ⟨hRc0, hRc1, hRc2, hRc3, hRc4, hRc5, hRf⟩ := id hR
    obtain ⟨hTc0, hTc1, hTc2, hTc3, hTc4, hTf⟩ := id hT
    obtain ⟨hQc0, hQc1, hQc2, hQc3, hQc4, hQc5, hQf⟩ := id hQ
    go_region_held3 (fun w' => w'.cell? ⟨z, 0, none⟩ = some (.int .u8 kd) ∧ w'.cell? ⟨z, 1, none⟩ = some (.int .i64 ln) ∧ w'.cell? ⟨z, 2, none⟩ = some (.int .i64 cl) ∧ w'.cell? ⟨z, 3, none⟩ = some (.int .i64 nm) ∧ w'.cell? ⟨z, 4, none⟩ = some (.string X) ∧ w'.cell? ⟨w5.heap.size, 0, none⟩ = some (.slice (some ⟨tb, to, none⟩) n tc) ∧ w'.cell? ⟨w5.heap.size, 1, none⟩ = some (.int .i64 I3) ∧ w'.cell? ⟨w5.heap.size, 2, none⟩ = some (.int .i64 d3) ∧ w'.cell? ⟨w5.heap.size, 3, none⟩ = some (.int .i64 c3) ∧ w'.cell? ⟨w5.heap.size, 4, none⟩ = some (.int .i64 l3) ∧ w'.cell? ⟨w5.heap.size, 5, none⟩ = some (.int .i64 k3)) (first | (rw [put_eq]; refine put_gen (G := fun w' => w'.cell? ⟨z, 0, none⟩ = some (.int .u8 kd) ∧ w'.cell? ⟨z, 1, none⟩ = some (.int .i64 ln) ∧ w'.cell? ⟨z, 2, none⟩ = some (.int .i64 cl) ∧ w'.cell? ⟨z, 3, none⟩ = some (.int .i64 nm) ∧ w'.cell? ⟨z, 4, none⟩ = some (.string X) ∧ w'.cell? ⟨w5.heap.size, 0, none⟩ = some (.slice (some ⟨tb, to, none⟩) n tc) ∧ w'.cell? ⟨w5.heap.size, 1, none⟩ = some (.int .i64 I3) ∧ w'.cell? ⟨w5.heap.size, 2, none⟩ = some (.int .i64 d3) ∧ w'.cell? ⟨w5.heap.size, 3, none⟩ = some (.int .i64 c3) ∧ w'.cell? ⟨w5.heap.size, 4, none⟩ = some (.int .i64 l3) ∧ w'.cell? ⟨w5.heap.size, 5, none⟩ = some (.int .i64 k3)) hR ?_; intro V _ hO; exact ⟨(hO.cell (by omega)).trans hT.c0, (hO.cell (by omega)).trans hT.c1, (hO.cell (by omega)).trans hT.c2, (hO.cell (by omega)).trans hT.c3, (hO.cell (by omega)).trans hT.c4, (hO.cell (by omega)).trans hQ.c0, (hO.cell (by omega)).trans hQ.c1, (hO.cell (by omega)).trans hQ.c2, (hO.cell (by omega)).trans hQ.c3, (hO.cell (by omega)).trans hQ.c4, (hO.cell (by omega)).trans hQ.c5⟩) | go_keep) (first | (go_at_call 31; refine (node_q rfl (Lib.hid (HX.out.carry (by go_grown))) (by omega)).mono ?_; rintro e w90 ⟨g9, cap9, rfl, HY, lo, hb⟩; have hzz := hb.size; (try simp only [World.size_drew] at hzz); (try simp only [World.size_alloc] at hzz); (try simp only [World.size_drew] at hzz); (try simp only [World.size_alloc] at hzz); have hlR := hR.lt; replace HY := Lib.hid HY; have loHY : w.heap.size + 1 + 1 ≤ g9 := Nat.le_trans (by (try simp only [World.size_drew]); (try simp only [World.size_alloc]); (try simp only [World.size_drew]); (try simp only [World.size_alloc]); omega) lo; clear lo; have hb9 := below_from hbb (by go_grown) hb; replace hP := hP.carry hb9; replace hR := hR.carry hb9; replace hT := hT.carry hb9; replace hQ := hQ.carry hb9; (try replace HX := Lib.hid (HX.out.carry hb9)); replace hbb := below_step hbb hb9; clear hb hb9 hlR; (try clear hPc0); (try clear hPc1); (try clear hPc2); (try clear hPc3); (try clear hPc4); (try clear hPc5); (try clear hPf); (try clear hRc0); (try clear hRc1); (try clear hRc2); (try clear hRc3); (try clear hRc4); (try clear hRc5); (try clear hRf); (try clear hTc0); (try clear hTc1); (try clear hTc2); (try clear hTc3); (try clear hTc4); (try clear hTf); (try clear hQc0); (try clear hQc1); (try clear hQc2); (try clear hQc3); (try clear hQc4); (try clear hQc5); (try clear hQf); obtain ⟨hPc0, hPc1, hPc2, hPc3, hPc4, hPc5, hPf⟩ := id hP; obtain ⟨hRc0, hRc1, hRc2, hRc3, hRc4, hRc5, hRf⟩ := id hR; obtain ⟨hTc0, hTc1, hTc2, hTc3, hTc4, hTf⟩ := id hT; obtain ⟨hQc0, hQc1, hQc2, hQc3, hQc4, hQc5, hQf⟩ := id hQ) | (go_at_call 71; refine (HH.out _ (below_step hbb (by go_grown))).mono ?_; rintro e w91 ⟨rfl, hb⟩; have hzz := hb.size; (try simp only [World.size_drew] at hzz); (try simp only [World.size_alloc] at hzz); (try simp only [World.size_drew] at hzz); (try simp only [World.size_alloc] at hzz); have hlR := hR.lt; have hb9 := below_from hbb (by go_grown) hb; replace hP := hP.carry hb9; replace hR := hR.carry hb9; replace hT := hT.carry hb9; replace hQ := hQ.carry hb9; (try replace HX := Lib.hid (HX.out.carry hb9)); (try replace HY := Lib.hid (HY.out.carry hb9)); replace hbb := below_step hbb hb9; clear hb hb9 hlR; (try clear hPc0); (try clear hPc1); (try clear hPc2); (try clear hPc3); (try clear hPc4); (try clear hPc5); (try clear hPf); (try clear hRc0); (try clear hRc1); (try clear hRc2); (try clear hRc3); (try clear hRc4); (try clear hRc5); (try clear hRf); (try clear hTc0); (try clear hTc1); (try clear hTc2); (try clear hTc3); (try clear hTc4); (try clear hTf); (try clear hQc0); (try clear hQc1); (try clear hQc2); (try clear hQc3); (try clear hQc4); (try clear hQc5); (try clear hQf); obtain ⟨hPc0, hPc1, hPc2, hPc3, hPc4, hPc5, hPf⟩ := id hP; obtain ⟨hRc0, hRc1, hRc2, hRc3, hRc4, hRc5, hRf⟩ := id hR; obtain ⟨hTc0, hTc1, hTc2, hTc3, hTc4, hTf⟩ := id hT; obtain ⟨hQc0, hQc1, hQc2, hQc3, hQc4, hQc5, hQf⟩ := id hQ))
    all_goals (obtain ⟨V, hV, nR, hO⟩ := put_ex hR (.slice (some ⟨tb, to, none⟩) n tc) I4 d4 c4 l4 k4; (first | (rw [put_eq, hV.out]) | (go_wp2_with (first | (rw [put_eq, hV.out])))); replace hbb := hO.below hbb (by omega); replace HY := Lib.hid (HY.out.oth hO (by omega)); clear hO; (try clear hRc0 hRc1 hRc2 hRc3 hRc4 hRc5 hRf); obtain ⟨hRc0, hRc1, hRc2, hRc3, hRc4, hRc5, hRf⟩ := id nR; go_wp2_with fail; refine bodyPost_ret (v := .tuple #[.slice (some ⟨g9, 0, none⟩) (y.length + 1) cap9, pQ tb to n tc I4 d4 c4 l4 k4]) (by simp [results, Tryz.results93, go_sem, hRc0, hRc1, hRc2, hRc3, hRc4, hRc5]) rfl ⟨g9, cap9, rfl, HY.out, by omega, (by first | exact hbb | exact below_step hbb (by go_grown))⟩)
   | false =>
    obtain ⟨⟨I2, d2, c2, l2, k2⟩, hs2⟩ : ∃ s, wordS T ⟨I, d, c, l, k⟩ 2 = s := ⟨_, rfl⟩
    have HW := Lib.hid (fun w' (hb : Below w.heap.size w w') => word_p (tc := tc) (s := ⟨I, d, c, l, k⟩) (HV.out.carry hb) 2 ht.out _ hs2)
    rw [hX0.out] at HW
    obtain rfl : (ndS 19 ⟨kd, ln, cl, nm, tx⟩ tx 0 [], (⟨I2, d2, c2, l2, k2⟩ : S)) = R := by
     rw [← hRk.out, kindS, if_neg (by rw [hno.out 0 wInt (by omega) rfl]; decide), if_neg (by rw [hno.out 1 wBool (by omega) rfl]; decide), if_neg (by rw [hno.out 2 wStr (by omega) rfl]; decide), if_neg (by rw [hno.out 3 wComp (by omega) rfl]; decide), if_neg (by rw [q1]; decide), hs2, ht.out]
    have HI := Lib.hid (fun w' (hb : Below w.heap.size w w') => is_p (s := ⟨I, d, c, l, k⟩) (tc := tc) (HV.out.carry hb) { data := #[91] } [91] (by rw [ByteArray.toList_eq]) false q1)
    clear hs2 q1 hno
    obtain ⟨hPc0, hPc1, hPc2, hPc3, hPc4, hPc5, hPf⟩ := id hP
    go_wp2_with fail
    refine (HI.out _ (hbb)).mono ?_
    rintro e w3 ⟨rfl, hb⟩
    clear hPc0 hPc1 hPc2 hPc3 hPc4 hPc5 hPf
    replace hP := hP.carry hb
    replace hR := hR.carry hb
    replace hT := hT.carry hb
    replace HS := Lib.hid (HS.out.carry hb)
    replace hbb := below_step hbb hb
    have hz3 := hb.size
    clear hb
    have lhP := hP.lt
    have lhR := hR.lt
    have lhT := hT.lt
    obtain ⟨hPc0, hPc1, hPc2, hPc3, hPc4, hPc5, hPf⟩ := id hP
    go_wp2_with fail
    refine (HW.out _ (hbb)).mono ?_
    rintro e w4 ⟨rfl, hb⟩
    clear hPc0 hPc1 hPc2 hPc3 hPc4 hPc5 hPf
    replace hP := hP.carry hb
    replace hR := hR.carry hb
    replace hT := hT.carry hb
    replace HS := Lib.hid (HS.out.carry hb)
    replace hbb := below_step hbb hb
    have hz4 := hb.size
    clear hb
    have lhP := hP.lt
    have lhR := hR.lt
    have lhT := hT.lt
    obtain ⟨hPc0, hPc1, hPc2, hPc3, hPc4, hPc5, hPf⟩ := id hP
    obtain ⟨hTc0, hTc1, hTc2, hTc3, hTc4, hTf⟩ := id hT
    obtain ⟨hRc0, hRc1, hRc2, hRc3, hRc4, hRc5, hRf⟩ := id hR
    obtain ⟨Wa, hWa, nT, hOt⟩ := putT_ex hT kd ln cl nm X
    obtain ⟨Wb, hWb, nP, hO⟩ := put_ex (hP.oth hOt (by omega)) (.slice (some ⟨tb, to, none⟩) n tc) I2 d2 c2 l2 k2
    have hsa := hOt.size
    have hsb := hO.size
    go_wp2_with fail
    rw [putT_eq, hWa.out, put_eq, hWb.out]
    replace hP := nP
    replace hT := nT.oth hO (by omega)
    replace hR := (hR.oth hOt (by omega)).oth hO (by omega)
    replace hbb := hO.below (hOt.below hbb (by omega)) (by omega)
    clear hO hOt nT nP hWa hWb hPc0 hPc1 hPc2 hPc3 hPc4 hPc5 hPf hTc0 hTc1 hTc2 hTc3 hTc4 hTf hRc0 hRc1 hRc2 hRc3 hRc4 hRc5 hRf
    have lhP := hP.lt
    have lhR := hR.lt
    have lhT := hT.lt
    obtain ⟨hPc0, hPc1, hPc2, hPc3, hPc4, hPc5, hPf⟩ := id hP
    obtain ⟨hTc0, hTc1, hTc2, hTc3, hTc4, hTf⟩ := id hT
    obtain ⟨hRc0, hRc1, hRc2, hRc3, hRc4, hRc5, hRf⟩ := id hR
    go_region_held3 (fun w' => w'.cell? ⟨w.heap.size, 0, none⟩ = some (.slice (some ⟨tb, to, none⟩) n tc) ∧ w'.cell? ⟨w.heap.size, 1, none⟩ = some (.int .i64 I2) ∧ w'.cell? ⟨w.heap.size, 2, none⟩ = some (.int .i64 d2) ∧ w'.cell? ⟨w.heap.size, 3, none⟩ = some (.int .i64 c2) ∧ w'.cell? ⟨w.heap.size, 4, none⟩ = some (.int .i64 l2) ∧ w'.cell? ⟨w.heap.size, 5, none⟩ = some (.int .i64 k2) ∧ w'.cell? ⟨z, 0, none⟩ = some (.int .u8 kd) ∧ w'.cell? ⟨z, 1, none⟩ = some (.int .i64 ln) ∧ w'.cell? ⟨z, 2, none⟩ = some (.int .i64 cl) ∧ w'.cell? ⟨z, 3, none⟩ = some (.int .i64 nm) ∧ w'.cell? ⟨z, 4, none⟩ = some (.string X)) (first | (rw [put_eq]; refine put_gen (G := fun w' => w'.cell? ⟨w.heap.size, 0, none⟩ = some (.slice (some ⟨tb, to, none⟩) n tc) ∧ w'.cell? ⟨w.heap.size, 1, none⟩ = some (.int .i64 I2) ∧ w'.cell? ⟨w.heap.size, 2, none⟩ = some (.int .i64 d2) ∧ w'.cell? ⟨w.heap.size, 3, none⟩ = some (.int .i64 c2) ∧ w'.cell? ⟨w.heap.size, 4, none⟩ = some (.int .i64 l2) ∧ w'.cell? ⟨w.heap.size, 5, none⟩ = some (.int .i64 k2) ∧ w'.cell? ⟨z, 0, none⟩ = some (.int .u8 kd) ∧ w'.cell? ⟨z, 1, none⟩ = some (.int .i64 ln) ∧ w'.cell? ⟨z, 2, none⟩ = some (.int .i64 cl) ∧ w'.cell? ⟨z, 3, none⟩ = some (.int .i64 nm) ∧ w'.cell? ⟨z, 4, none⟩ = some (.string X)) hR ?_; intro V _ hO; exact ⟨(hO.cell (by omega)).trans hP.c0, (hO.cell (by omega)).trans hP.c1, (hO.cell (by omega)).trans hP.c2, (hO.cell (by omega)).trans hP.c3, (hO.cell (by omega)).trans hP.c4, (hO.cell (by omega)).trans hP.c5, (hO.cell (by omega)).trans hT.c0, (hO.cell (by omega)).trans hT.c1, (hO.cell (by omega)).trans hT.c2, (hO.cell (by omega)).trans hT.c3, (hO.cell (by omega)).trans hT.c4⟩) | go_keep) (first | (go_at_call 31; refine (node_q (l := []) (n := 0) rfl (Lib.hid (lies_nil (by (try simp only [World.size_drew]); (try simp only [World.size_alloc]); (try simp only [World.size_drew]); (try simp only [World.size_alloc]); omega))) (by omega)).mono ?_; rintro e w90 ⟨g9, cap9, rfl, HY, lo, hb⟩; have hzz := hb.size; (try simp only [World.size_drew] at hzz); (try simp only [World.size_alloc] at hzz); (try simp only [World.size_drew] at hzz); (try simp only [World.size_alloc] at hzz); have hlR := hR.lt; replace HY := Lib.hid HY; have loHY : w.heap.size + 1 + 1 ≤ g9 := Nat.le_trans (by (try simp only [World.size_drew]); (try simp only [World.size_alloc]); (try simp only [World.size_drew]); (try simp only [World.size_alloc]); omega) lo; clear lo; have hb9 := below_from hbb (by go_grown) hb; replace hP := hP.carry hb9; replace hR := hR.carry hb9; replace hT := hT.carry hb9; replace hbb := below_step hbb hb9; clear hb hb9 hlR; (try clear hPc0); (try clear hPc1); (try clear hPc2); (try clear hPc3); (try clear hPc4); (try clear hPc5); (try clear hPf); (try clear hRc0); (try clear hRc1); (try clear hRc2); (try clear hRc3); (try clear hRc4); (try clear hRc5); (try clear hRf); (try clear hTc0); (try clear hTc1); (try clear hTc2); (try clear hTc3); (try clear hTc4); (try clear hTf); obtain ⟨hPc0, hPc1, hPc2, hPc3, hPc4, hPc5, hPf⟩ := id hP; obtain ⟨hRc0, hRc1, hRc2, hRc3, hRc4, hRc5, hRf⟩ := id hR; obtain ⟨hTc0, hTc1, hTc2, hTc3, hTc4, hTf⟩ := id hT))
    all_goals (replace HY := Lib.hid (by have := HY.out; rw [← hX0.out] at this; exact this : Lies (ndFlat (ndS 19 ⟨kd, ln, cl, nm, tx⟩ tx 0 [])) g9 _))
    all_goals (obtain ⟨V, hV, nR, hO⟩ := put_ex hR (.slice (some ⟨tb, to, none⟩) n tc) I2 d2 c2 l2 k2; (first | (rw [put_eq, hV.out]) | (go_wp2_with (first | (rw [put_eq, hV.out])))); replace hbb := hO.below hbb (by omega); replace HY := Lib.hid (HY.out.oth hO (by omega)); clear hO; (try clear hRc0 hRc1 hRc2 hRc3 hRc4 hRc5 hRf); obtain ⟨hRc0, hRc1, hRc2, hRc3, hRc4, hRc5, hRf⟩ := id nR; go_wp2_with fail; refine bodyPost_ret (v := .tuple #[.slice (some ⟨g9, 0, none⟩) (0 + 1) cap9, pQ tb to n tc I2 d2 c2 l2 k2]) (by simp [results, Tryz.results93, go_sem, hRc0, hRc1, hRc2, hRc3, hRc4, hRc5]) rfl ⟨g9, cap9, rfl, HY.out, by omega, (by first | exact hbb | exact below_step hbb (by go_grown))⟩)

end Go.Proofs.YtbknflaooemigaaGreat
