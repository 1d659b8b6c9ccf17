/-
 The document's unary answers as said, if what it calls does. Conditions: those calls' contracts.
-/
import Derived.Test.YtbknflaooemigaaGreatDk
namespace Go.Proofs.YtbknflaooemigaaGreat
open Go.RowKit Go.Sort
set_option linter.unusedVariables false

set_option maxHeartbeats 2000000 in
theorem punary_min {w : World} {tb to tc n I I1 I2 : Nat} {d c l k d1 c1 l1 k1 d2 c2 l2 k2 z : Int} {kd ln cl : Nat} {nm : Int} {X : ByteArray} {L : List Nd} {m : Nat} (hw : wrap64 (d2 - 1) = z) (hm : Hid (L.length = m)) (hml : m ≤ 400000)
  (hx : (X.toList == [45]) = true)
  (HN : Hid (∀ w', Below w.heap.size w w' → Calls Tryz.prog 29 #[pQ tb to n tc I d c l k] w' fun e w'' => e = .returned (tQ kd ln cl nm X) ∧ Below w'.heap.size w' w'')) (HI : Hid (∀ w', Below w.heap.size w w' → Calls Tryz.prog 28 #[pQ tb to n tc I d c l k, .string { data := #[45] }] w' fun e w'' => e = .returned (.bool true) ∧ Below w'.heap.size w' w''))
  (HO : Hid (∀ w', Below w.heap.size w w' → Calls Tryz.prog 52 #[pQ tb to n tc I d c l k, .string X] w' fun e w'' => e = .returned (pQ tb to n tc I1 d1 c1 l1 k1) ∧ Below w'.heap.size w' w'')) (HU : Hid (∀ w', Below w.heap.size w w' → Calls Tryz.prog 26 #[pQ tb to n tc I1 d1 c1 l1 k1] w' (RetQ w' (L) m (pQ tb to n tc I2 d2 c2 l2 k2)))) :
  Calls Tryz.prog 26 #[pQ tb to n tc I d c l k] w (RetQ w (⟨30, ln, cl, m, 12, bs []⟩ :: L) (m + 1) (pQ tb to n tc I2 z c2 l2 k2)) := by
 go_enter Tryz.func26, Tryz.ntmps26
 go_wp2_with fail
 refine (HN.out _ (two_made w (.slice (some ⟨tb, to, none⟩) n tc) I d c l k).2.2).mono ?_
 rintro e w1 ⟨rfl, hb⟩
 have hbb : Below w.heap.size w w1 := below_step (two_made w (.slice (some ⟨tb, to, none⟩) n tc) I d c l k).2.2 hb
 have hP := (two_made w (.slice (some ⟨tb, to, none⟩) n tc) I d c l k).1.carry hb
 have hR := (two_made w (.slice (some ⟨tb, to, none⟩) n tc) I d c l k).2.1.carry hb
 clear hb
 have lhP := hP.lt
 have lhR := hR.lt
 obtain ⟨hPc0, hPc1, hPc2, hPc3, hPc4, hPc5, hPf⟩ := id hP
 go_wp2_with fail
 refine (HI.out _ (below_step hbb (below_alloc _ _))).mono ?_
 rintro e w2 ⟨rfl, hb⟩
 clear hPc0 hPc1 hPc2 hPc3 hPc4 hPc5 hPf
 replace hP := (hP.carry (below_alloc _ _)).carry hb
 replace hR := (hR.carry (below_alloc _ _)).carry hb
 have hT := (Tx.made w1 kd ln cl nm X).carry hb
 replace hbb := below_step (below_step hbb (below_alloc _ _)) hb
 have hz2 := hb.size
 simp only [World.size_alloc] at hz2
 clear hb
 have lhP := hP.lt
 have lhR := hR.lt
 have lhT := hT.lt
 obtain ⟨hPc0, hPc1, hPc2, hPc3, hPc4, hPc5, hPf⟩ := id hP
 obtain ⟨hTc0, hTc1, hTc2, hTc3, hTc4, hTf⟩ := id hT
 go_wp2_with fail
 refine (HO.out _ (hbb)).mono ?_
 rintro e w3 ⟨rfl, hb⟩
 clear hPc0 hPc1 hPc2 hPc3 hPc4 hPc5 hPf hTc0 hTc1 hTc2 hTc3 hTc4 hTf
 replace hP := hP.carry hb
 replace hR := hR.carry hb
 replace hT := hT.carry hb
 replace hbb := below_step hbb hb
 have hz3 := hb.size
 clear hb
 have lhP := hP.lt
 have lhR := hR.lt
 have lhT := hT.lt
 obtain ⟨hTc0, hTc1, hTc2, hTc3, hTc4, hTf⟩ := id hT
 go_wp2_with fail
 refine (HU.out _ (hbb)).mono ?_
 rintro e w4 ⟨g, cap, rfl, HX, log, hb⟩
 clear hTc0 hTc1 hTc2 hTc3 hTc4 hTf
 replace hP := hP.carry hb
 replace hR := hR.carry hb
 replace hT := hT.carry hb
 replace hbb := below_step hbb hb
 replace HX := Lib.hid HX
 have hz4 := hb.size
 clear hb
 have lhP := hP.lt
 have lhR := hR.lt
 have lhT := hT.lt
 obtain ⟨hTc0, hTc1, hTc2, hTc3, hTc4, hTf⟩ := id hT
 go_wp2_with fail
 clear hTc0 hTc1 hTc2 hTc3 hTc4 hTf
 obtain ⟨W, hW⟩ : ∃ W, W = (w4.alloc (.cells #[(.slice (some ⟨tb, to, none⟩) n tc), .int .i64 I2, .int .i64 z, .int .i64 c2, .int .i64 l2, .int .i64 k2] 43)) := ⟨_, rfl⟩
 rw [← hW]
 have hbW : Below w4.heap.size w4 W := by rw [hW]; go_grown
 replace hbb := below_step hbb hbW
 replace hP := hP.carry hbW
 replace hR := hR.carry hbW
 replace hT := hT.carry hbW
 replace HX := Lib.hid (HX.out.carry hbW)
 have hQ : Bx W w4.heap.size (.slice (some ⟨tb, to, none⟩) n tc) I2 z c2 l2 k2 := by rw [hW]; exact (Bx.made w4 (.slice (some ⟨tb, to, none⟩) n tc) I2 z c2 l2 k2)
 clear hbW
 have hzW : W.heap.size = w4.heap.size + 1 := by rw [hW]; simp
 clear hW
 have lhP := hP.lt
 have lhR := hR.lt
 have lhT := hT.lt
 have lhQ := hQ.lt
 obtain ⟨hTc0, hTc1, hTc2, hTc3, hTc4, hTf⟩ := id hT
 obtain ⟨hQc0, hQc1, hQc2, hQc3, hQc4, hQc5, hQf⟩ := id hQ
 obtain ⟨hRc0, hRc1, hRc2, hRc3, hRc4, hRc5, hRf⟩ := id hR
 go_region_held3 (fun w' => w'.cell? ⟨w1.heap.size, 0, none⟩ = some (.int .u8 kd) ∧ w'.cell? ⟨w1.heap.size, 1, none⟩ = some (.int .i64 ln) ∧ w'.cell? ⟨w1.heap.size, 2, none⟩ = some (.int .i64 cl) ∧ w'.cell? ⟨w1.heap.size, 3, none⟩ = some (.int .i64 nm) ∧ w'.cell? ⟨w1.heap.size, 4, none⟩ = some (.string X) ∧ w'.cell? ⟨w4.heap.size, 0, none⟩ = some (.slice (some ⟨tb, to, none⟩) n tc) ∧ w'.cell? ⟨w4.heap.size, 1, none⟩ = some (.int .i64 I2) ∧ w'.cell? ⟨w4.heap.size, 2, none⟩ = some (.int .i64 z) ∧ w'.cell? ⟨w4.heap.size, 3, none⟩ = some (.int .i64 c2) ∧ w'.cell? ⟨w4.heap.size, 4, none⟩ = some (.int .i64 l2) ∧ w'.cell? ⟨w4.heap.size, 5, none⟩ = some (.int .i64 k2)) (first | go_keep | (rw [put_eq]; refine put_gen (G := fun w' => w'.cell? ⟨w1.heap.size, 0, none⟩ = some (.int .u8 kd) ∧ w'.cell? ⟨w1.heap.size, 1, none⟩ = some (.int .i64 ln) ∧ w'.cell? ⟨w1.heap.size, 2, none⟩ = some (.int .i64 cl) ∧ w'.cell? ⟨w1.heap.size, 3, none⟩ = some (.int .i64 nm) ∧ w'.cell? ⟨w1.heap.size, 4, none⟩ = some (.string X) ∧ w'.cell? ⟨w4.heap.size, 0, none⟩ = some (.slice (some ⟨tb, to, none⟩) n tc) ∧ w'.cell? ⟨w4.heap.size, 1, none⟩ = some (.int .i64 I2) ∧ w'.cell? ⟨w4.heap.size, 2, none⟩ = some (.int .i64 z) ∧ w'.cell? ⟨w4.heap.size, 3, none⟩ = some (.int .i64 c2) ∧ w'.cell? ⟨w4.heap.size, 4, none⟩ = some (.int .i64 l2) ∧ w'.cell? ⟨w4.heap.size, 5, none⟩ = some (.int .i64 k2)) hR ?_; intro V _ hO; exact ⟨(hO.cell (by omega)).trans hT.c0, (hO.cell (by omega)).trans hT.c1, (hO.cell (by omega)).trans hT.c2, (hO.cell (by omega)).trans hT.c3, (hO.cell (by omega)).trans hT.c4, (hO.cell (by omega)).trans hQ.c0, (hO.cell (by omega)).trans hQ.c1, (hO.cell (by omega)).trans hQ.c2, (hO.cell (by omega)).trans hQ.c3, (hO.cell (by omega)).trans hQ.c4, (hO.cell (by omega)).trans hQ.c5⟩)) (first | (go_at_call 31; refine (node_q hm.out (Lib.hid (HX.out.carry (by go_grown))) hml).mono ?_; rintro e w9 ⟨g9, cap9, rfl, HY, lo9, hb⟩; replace HY := Lib.hid HY; have hb9 := below_step (w := W) (by go_grown) hb; replace hT := hT.carry hb9; replace hQ := hQ.carry hb9; replace hR := hR.carry hb9; replace hbb := below_step hbb hb9; have hz9 := hb9.size; have lo9x : W.heap.size ≤ g9 := Nat.le_trans (by simp) lo9; clear hb hb9 lo9 hTc0 hTc1 hTc2 hTc3 hTc4 hTf hQc0 hQc1 hQc2 hQc3 hQc4 hQc5 hQf hRc0 hRc1 hRc2 hRc3 hRc4 hRc5 hRf; obtain ⟨hTc0, hTc1, hTc2, hTc3, hTc4, hTf⟩ := id hT; obtain ⟨hQc0, hQc1, hQc2, hQc3, hQc4, hQc5, hQf⟩ := id hQ; obtain ⟨hRc0, hRc1, hRc2, hRc3, hRc4, hRc5, hRf⟩ := id hR))
 all_goals (go_wp2_with (first | (rw [put_eq]; refine put_gen hR ?_; clear hR hRc0 hRc1 hRc2 hRc3 hRc4 hRc5 hRf; intro V hR hO; replace hbb := hO.below hbb (by omega); replace HY := Lib.hid (HY.out.oth hO (by omega)); obtain ⟨hRc0, hRc1, hRc2, hRc3, hRc4, hRc5, hRf⟩ := id hR)); refine bodyPost_ret (v := .tuple #[.slice (some ⟨g9, 0, none⟩) (L.length + 1) cap9, pQ tb to n tc I2 z c2 l2 k2]) (by simp [results, Tryz.results26, go_sem, hRc0, hRc1, hRc2, hRc3, hRc4, hRc5]) rfl ⟨g9, cap9, by rw [hm.out], HY.out, by omega, hbb⟩)

theorem is_text {T : List Tok} {s : S} {x : List UInt8} {kd ln cl : Nat} {nm : Int} {tx : List UInt8} (h : isS T s x = true) (ht : nowS T s = ⟨kd, ln, cl, nm, tx⟩) : tx = x := by
 have := (is_c h).2; rw [ht] at this; simp only [seesT, decide_eq_true_eq] at this; exact this.2
theorem unary_w {T : List Tok} {N : Nat} {U P : S → Rs} (hE : Hid (Ends T)) (hB : Hid (Bd T N U)) (hU : Hid (Dos T N 26 #[] U)) (hP : Hid (Dos T (N + 1) 51 #[] P)) : Dos T (N + 1) 26 #[] (unaryS T U P) := by
 intro w tb to n tc s h hf
 obtain ⟨I, d, c, l, k⟩ := s
 obtain ⟨⟨kd, ln, cl, nm, tx⟩, ht⟩ : ∃ t, nowS T ⟨I, d, c, l, k⟩ = t := ⟨_, rfl⟩
 have hn1 := h.ln
 have hn2 := h.en.tn
 have HN := Lib.hid (fun w' (hb : Below w.heap.size w w') => now_p (tc := tc) (s := ⟨I, d, c, l, k⟩) (h.carry hb) ht)
 cases q1 : isS T ⟨I, d, c, l, k⟩ [45] with
 | true =>
  have htx : tx = [45] := is_text q1 ht
  obtain ⟨⟨I1, d1, c1, l1, k1⟩, hs1⟩ : ∃ s, opensS T ⟨I, d, c, l, k⟩ [45] = s := ⟨_, rfl⟩
  have hf1 := fit_opens hE.out hf q1
  rw [hs1] at hf1
  have hI1 : I1 < n := by have := hf1.1; simp only at this; omega
  obtain ⟨⟨y, ⟨I2, d2, c2, l2, k2⟩⟩, hy⟩ : ∃ q, U ⟨I1, d1, c1, l1, k1⟩ = q := ⟨_, rfl⟩
  have hbd := hB.out _ hf1
  rw [hy] at hbd
  have hyl : y.length ≤ 400000 := by have z1 := hbd.2.2.2.2; have z2 := hbd.2.1; simp only at z1 z2; omega
  have hr : unaryS T U P ⟨I, d, c, l, k⟩ = (ndS 30 ⟨kd, ln, cl, nm, tx⟩ [] 12 y, ⟨I2, wrap64 (d2 - 1), c2, l2, k2⟩) := by unfold unaryS; rw [if_pos q1, hs1, hy, ht]; rfl
  rw [hr]
  have HU : Hid (∀ w', Below w.heap.size w w' → Calls Tryz.prog 26 #[pQ tb to n tc I1 d1 c1 l1 k1] w' (RetQ w' y y.length (pQ tb to n tc I2 d2 c2 l2 k2))) := Lib.hid (fun w' hb => by
   have := hU.out (tc := tc) (s := ⟨I1, d1, c1, l1, k1⟩) ((h.at hI1).carry hb) hf1
   rw [hy] at this
   exact this)
  have HO := Lib.hid (fun w' (hb : Below w.heap.size w w') => opens_p (tc := tc) (s := ⟨I, d, c, l, k⟩) (h.carry hb) (bs tx) [45] (by rw [bs_toList, htx]) _ hs1)
  have HI := Lib.hid (fun w' (hb : Below w.heap.size w w') => is_p (s := ⟨I, d, c, l, k⟩) (tc := tc) (h.carry hb) { data := #[45] } [45] (by rw [ByteArray.toList_eq]) true q1)
  exact punary_min rfl (Lib.hid rfl) hyl (by rw [bs_toList, htx]; rfl) HN HI HO HU
 | false =>
  cases q2 : isS T ⟨I, d, c, l, k⟩ [33] with
  | true =>
   have htx : tx = [33] := is_text q2 ht
   obtain ⟨⟨I1, d1, c1, l1, k1⟩, hs1⟩ : ∃ s, opensS T ⟨I, d, c, l, k⟩ [33] = s := ⟨_, rfl⟩
   have hf1 := fit_opens hE.out hf q2
   rw [hs1] at hf1
   have hI1 : I1 < n := by have := hf1.1; simp only at this; omega
   obtain ⟨⟨y, ⟨I2, d2, c2, l2, k2⟩⟩, hy⟩ : ∃ q, U ⟨I1, d1, c1, l1, k1⟩ = q := ⟨_, rfl⟩
   have hbd := hB.out _ hf1
   rw [hy] at hbd
   have hyl : y.length ≤ 400000 := by have z1 := hbd.2.2.2.2; have z2 := hbd.2.1; simp only at z1 z2; omega
   have hr : unaryS T U P ⟨I, d, c, l, k⟩ = (ndS 30 ⟨kd, ln, cl, nm, tx⟩ [] 13 y, ⟨I2, wrap64 (d2 - 1), c2, l2, k2⟩) := by unfold unaryS; rw [if_neg (by rw [q1]; decide), if_pos q2, hs1, hy, ht]; rfl
   rw [hr]
   have HU : Hid (∀ w', Below w.heap.size w w' → Calls Tryz.prog 26 #[pQ tb to n tc I1 d1 c1 l1 k1] w' (RetQ w' y y.length (pQ tb to n tc I2 d2 c2 l2 k2))) := Lib.hid (fun w' hb => by
    have := hU.out (tc := tc) (s := ⟨I1, d1, c1, l1, k1⟩) ((h.at hI1).carry hb) hf1
    rw [hy] at this
    exact this)
   have HO := Lib.hid (fun w' (hb : Below w.heap.size w w') => opens_p (tc := tc) (s := ⟨I, d, c, l, k⟩) (h.carry hb) (bs tx) [33] (by rw [bs_toList, htx]) _ hs1)
   have HI := Lib.hid (fun w' (hb : Below w.heap.size w w') => is_p (s := ⟨I, d, c, l, k⟩) (tc := tc) (h.carry hb) { data := #[45] } [45] (by rw [ByteArray.toList_eq]) false q1)
   have HJ := Lib.hid (fun w' (hb : Below w.heap.size w w') => is_p (s := ⟨I, d, c, l, k⟩) (tc := tc) (h.carry hb) { data := #[33] } [33] (by rw [ByteArray.toList_eq]) true q2)
   exact punary_not rfl (Lib.hid rfl) hyl (by rw [bs_toList, htx]; rfl) HN HI HJ HO HU
  | false =>
   have hr : unaryS T U P ⟨I, d, c, l, k⟩ = P ⟨I, d, c, l, k⟩ := by unfold unaryS; rw [if_neg (by rw [q1]; decide), if_neg (by rw [q2]; decide)]
   rw [hr]
   obtain ⟨⟨y, ⟨I2, d2, c2, l2, k2⟩⟩, hy⟩ : ∃ q, P ⟨I, d, c, l, k⟩ = q := ⟨_, rfl⟩
   have HU : Hid (∀ w', Below w.heap.size w w' → Calls Tryz.prog 51 #[pQ tb to n tc I d c l k] w' (RetQ w' y y.length (pQ tb to n tc I2 d2 c2 l2 k2))) := Lib.hid (fun w' hb => by
    have := hP.out (tc := tc) (s := ⟨I, d, c, l, k⟩) (h.carry hb) hf
    rw [hy] at this
    exact this)
   rw [hy]
   have HI := Lib.hid (fun w' (hb : Below w.heap.size w w') => is_p (s := ⟨I, d, c, l, k⟩) (tc := tc) (h.carry hb) { data := #[45] } [45] (by rw [ByteArray.toList_eq]) false q1)
   have HJ := Lib.hid (fun w' (hb : Below w.heap.size w w') => is_p (s := ⟨I, d, c, l, k⟩) (tc := tc) (h.carry hb) { data := #[33] } [33] (by rw [ByteArray.toList_eq]) false q2)
   exact punary_none HN HI HJ HU

end Go.Proofs.YtbknflaooemigaaGreat
