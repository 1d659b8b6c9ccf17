/-
 The document's reading as plain functions reads as the grammar does: atoms, what stands behind them, signs, levels. No function of the program is spoken of. Conditions: the tokens end in an end, signs are no words.
-/
import Derived.Test.YtbknflaooemigaaGreatDu
namespace Go.Proofs.YtbknflaooemigaaGreat
open Go.RowKit
set_option linter.unusedVariables false
section
variable {T : List Tok}

theorem args_bad {E : S → Rs} {s : S} (h : s.c ≠ 0) (m j : Nat) (all : List Nd) : argsL T E m j all s = (all, s) := by cases m <;> simp [argsL, h]
theorem argsL_go {E : S → Rs} {s : S} (hc : s.c = 0) (h : isS T s [41] = false) (m j : Nat) (all : List Nd) : argsL T E (m + 1) j all s = argsL T E m (j + 1) (all ++ (E (commaS T j s)).1) (E (commaS T j s)).2 := by rw [argsL, if_pos ⟨hc, h⟩]
theorem argsL_end {E : S → Rs} {s : S} (h : isS T s [41] = true) (m j : Nat) (all : List Nd) : argsL T E (m + 1) j all s = (all, s) := by rw [argsL, if_neg (by simp [h])]
theorem post_bad {E : S → Rs} {s : S} (h : s.c ≠ 0) (m : Nat) (x : List Nd) : postLS T E m x s = (x, s) := by cases m <;> simp [postLS, is_bad h]
theorem chain_bad {E : S → Rs} {l : List (List UInt8)} {s : S} (h : s.c ≠ 0) (m : Nat) (x : List Nd) : chainS T E l m x s = (x, s) := by cases m <;> simp [chainS, any_bad h]
theorem kp_atom {E : S → Rs} {n : Nat} : Kp (atomS T E n) := fun s h => by simp [atomS, h]
theorem kp_post {E : S → Rs} {n : Nat} : Kp (postS T E n) := fun s h => by unfold postS; rw [kp_atom s h, post_bad h]
theorem kp_unary {U P : S → Rs} (hP : Kp P) : Kp (unaryS T U P) := fun s h => by simp [unaryS, is_bad h, hP s h]
theorem kp_lev {u : S → Rs} {n : Nat} (hU : Kp u) (j : Nat) : Kp (levS T n u j) := by
 induction j with
 | zero => exact hU
 | succ j ih =>
  intro s h
  have e := ih s h
  unfold levS
  split
  ·rw [e, any_bad h, if_neg (by decide)]; exact e
  ·rw [e, chain_bad h]
theorem kp_eu (n : Nat) : Kp (euS T n).1 ∧ Kp (euS T n).2 := by
 cases n with
 | zero => exact ⟨fun s h => rfl, fun s h => rfl⟩
 | succ n => exact ⟨kp_lev (kp_unary kp_post) 6, kp_unary kp_post⟩

theorem listL_ag {n : Nat} {E : S → Rs} {p : Pt} (hE : Ends T) (hA : Ag T n E p) (hK : Kp E) (hB : Bd T n E) (hP : Pos T n E) {d d0 : Nat} (hdl : d ≤ 40) (m : Nat) : ∀ (m' j : Nat) (A : Fo) (s : S), s.c = 0 → s.d = (d : Int) → Fit T n s → T.length ≤ s.I + m → T.length ≤ s.I + m' →
  Agr T d ((listL p m d (T.drop s.I)).bind fun G r => (take [41] d0 r).bind fun H r' => .ok ((A.app G).app H) r') ((argsL T E m' (j + 1) (A.pre ++ (E s).1) (E s).2).1, mustS T (argsL T E m' (j + 1) (A.pre ++ (E s).1) (E s).2).2 [41]) := by
 induction m with
 | zero => intro m' j A s hc hd' hf hm; have := hf.1; omega
 | succ m ih =>
  intro m' j A s hc hd' hf hm hm'
  have hI := hf.1
  obtain ⟨m', rfl⟩ : ∃ k, m' = k + 1 := ⟨m' - 1, by omega⟩
  unfold listL
  rw [bind_bind]
  obtain ⟨b1, b2, b3, b4, b5⟩ := hB _ hf
  have hpos := hP _ hf
  refine agr_bind (hA s d hf hc hd' hdl) (fun F hF hc1 hd1 => ?_) (fun h => by rw [args_bad h, must_bad h]; exact ke_refl _)
  have hb4 := (b4 hc1).2
  by_cases h41 : isS T (E s).2 [41] = true
  ·have h44 : sees [44] (T.drop (E s).2.I) = false := sees_two (x := [41]) (by rw [← is_good hc1]; exact h41) (by decide)
   rw [h44, if_neg (by decide)]
   rw [argsL_end h41]
   show Agr T d ((take [41] d0 (T.drop (E s).2.I)).bind _) _
   unfold take passP
   rw [if_pos (by rw [← is_good hc1]; exact h41), must_yes h41]
   refine ⟨?_, hc1, hd1, ?_⟩
   ·show A.pre ++ (E s).1 = ((A.app F).app .nil).pre; rw [app_nil, pre_app, hF]
   ·rw [List.tail_drop]
  ·have h41' : isS T (E s).2 [41] = false := by simpa using h41
   rw [argsL_go hc1 h41']
   have hcm : commaS T (j + 1) (E s).2 = mustS T (E s).2 [44] := by unfold commaS; rw [if_pos (Nat.succ_pos _)]
   rw [hcm]
   cases h44 : isS T (E s).2 [44] with
   | true =>
    rw [← is_good hc1, h44, if_pos rfl, must_yes h44]
    have hl := last_end hE b2 (sees_ne (is_c h44).2)
    have z := ih m' (j + 1) (A.app F) ⟨(E s).2.I + 1, (E s).2.d, (E s).2.c, (E s).2.l, (E s).2.k⟩ hc1 hd1 (fit_up hf hl (by show s.I ≤ _ + 1; omega) (fun _ => hc)) (by show T.length ≤ (E s).2.I + 1 + m; omega) (by show T.length ≤ (E s).2.I + 1 + m'; omega)
    rw [pre_app, ← hF] at z
    rw [bind_bind, List.tail_drop]
    simp only [Out.bind, ← app_assoc]
    exact z
   | false =>
    rw [← is_good hc1, h44, if_neg (by decide), must_no hc1 h44]
    have hne : (⟨(E s).2.I, (E s).2.d, 5, (hd (T.drop (E s).2.I)).line, (hd (T.drop (E s).2.I)).col⟩ : S).c ≠ 0 := by simp
    rw [hK _ hne, args_bad hne, must_bad hne]
    show Agr T d ((take [41] d0 (T.drop (E s).2.I)).bind _) _
    unfold take passP
    rw [if_neg (by rw [← is_good hc1]; exact h41)]
    exact ⟨rfl, rfl, rfl, by decide⟩
theorem listed_ag {n : Nat} {E : S → Rs} {p : Pt} (hE : Ends T) (hA : Ag T n E p) (hK : Kp E) (hB : Bd T n E) (hP : Pos T n E) {d d0 m : Nat} (hdl : d ≤ 40) {s : S} (hc : s.c = 0) (hd' : s.d = (d : Int)) (hf : Fit T n s) (hm : T.length ≤ s.I + m) :
  Agr T d ((listedP p (m + 1) d (T.drop s.I)).bind fun G r => (take [41] d0 r).bind fun H r' => .ok (G.app H) r') ((argsL T E (m + 1) 0 [] s).1, mustS T (argsL T E (m + 1) 0 [] s).2 [41]) := by
 unfold listedP iteP
 rw [← is_good hc]
 cases h41 : isS T s [41] with
 | true =>
  rw [if_pos rfl, argsL_end h41]
  exact seq_take (q := ([], s)) (show Agr T d (.ok .nil (T.drop s.I)) ([], s) from ⟨rfl, hc, hd', rfl⟩)
 | false =>
  rw [if_neg (by decide), argsL_go hc h41]
  have z := listL_ag (d0 := d0) hE hA hK hB hP hdl (m + 1) m 0 .nil s hc hd' hf (by omega) hm
  exact z

theorem within_all {f : S → Rs} {p : Pt} {s : S} {d : Nat} {o c : List UInt8} (hc : s.c = 0) (hd' : s.d = (d : Int)) (hdl : d ≤ 40) (hK : Kp f)
  (hA : isS T s o = true → d < 40 → Agr T (d + 1) (p (d + 1) (T.drop (s.I + 1))) (f ⟨s.I + 1, ((d + 1 : Nat) : Int), s.c, s.l, s.k⟩)) :
  Agr T d (withinP o c p d (T.drop s.I)) ((f (opensS T s o)).1, shutsS T (f (opensS T s o)).2 c) := by
 cases ho : isS T s o with
 | true => exact within_ag hc hd' hdl ho hK (hA ho)
 | false =>
  rw [within_no hc ho]
  have e : opensS T s o = upS ⟨s.I, s.d, 5, (hd (T.drop s.I)).line, (hd (T.drop s.I)).col⟩ := by unfold opensS; rw [if_neg (by rw [ho]; simp), must_no hc ho]
  have hne : (opensS T s o).c ≠ 0 := by rw [e]; simp [upS]
  rw [hK _ hne, shuts_bad hne, e]
  exact ⟨rfl, rfl, rfl, by decide⟩

theorem one_yes {s : S} (h : s.I + 1 < T.length) : oneS T s = ⟨s.I + 1, s.d, s.c, s.l, s.k⟩ := by
 unfold oneS; congr 1; omega
theorem atom_ag {n : Nat} {E : S → Rs} {p : Pt} (hE : Ends T) (hp : Plain T) (hA : Ag T n E p) (hK : Kp E) (hB : Bd T n E) (hP : Pos T n E) : Ag T (n + 1) (atomS T E (n + 1)) (atomP p (n + 1)) := by
 intro s d hf hc hd' hdl
 have hpl : ∀ t, hd (T.drop s.I) = t → t.kind = 7 → t.text ∉ words := fun t ht hk => hp t (ht ▸ hd_mem hf.1) hk
 have V : ∀ w ∈ words, isS T s w = true → (hd (T.drop s.I)).kind = 6 ∧ (hd (T.drop s.I)).text = w := fun w hw hs => word_of hpl hw (by rw [← is_good hc]; exact hs)
 have L : ∀ (k : Nat) (x : List UInt8) (m : Int), constK (hd (T.drop s.I)) = some (k, m, x) → sees [40] (T.drop s.I) = false → sees [109, 97, 107, 101] (T.drop s.I) = false → (hd (T.drop s.I)).kind ≠ 1 → (hd (T.drop s.I)).kind ≠ 8 → Agr T d (atomP p (n + 1) d (T.drop s.I)) (ndS k (nowS T s) x m [], oneS T s) := by
  intro k x m h1 h2 h3 h4 h5
  unfold atomP
  rw [h2, h3, if_neg (by decide), if_neg (by decide), if_neg h4]
  unfold constP
  rw [h1, one_yes (last_end hE hf.1 h5)]
  exact ⟨nds_eq rfl, hc, hd', by simp⟩
 have hnow : nowS T s = hd (T.drop s.I) := rfl
 unfold atomS
 rw [if_neg (by simp [hc])]
 by_cases k3 : (nowS T s).kind = 3
 ·rw [if_pos k3]; rw [hnow] at k3
  exact L 21 [] _ (by simp [constK, k3]; rfl) (sees_kind (by omega) (by omega)) (sees_kind (by omega) (by omega)) (by omega) (by omega)
 rw [if_neg k3]
 by_cases k4 : (nowS T s).kind = 4
 ·rw [if_pos k4]; rw [hnow] at k4
  exact L 22 [] _ (by simp [constK, k4]; rfl) (sees_kind (by omega) (by omega)) (sees_kind (by omega) (by omega)) (by omega) (by omega)
 rw [if_neg k4]
 by_cases k5 : (nowS T s).kind = 5
 ·rw [if_pos k5]; rw [hnow] at k5
  exact L 23 _ 0 (by simp [constK, k5]; rfl) (sees_kind (by omega) (by omega)) (sees_kind (by omega) (by omega)) (by omega) (by omega)
 rw [if_neg k5]
 have LW : ∀ w ∈ words, w ≠ [40] → w ≠ [109, 97, 107, 101] → ∀ (k : Nat) (m : Int), ((hd (T.drop s.I)).kind = 6 → (hd (T.drop s.I)).text = w → constK (hd (T.drop s.I)) = some (k, m, [])) → isS T s w = true → Agr T d (atomP p (n + 1) d (T.drop s.I)) (ndS k (nowS T s) [] m [], oneS T s) := by
  intro w hw h1 h2 k m hk hs
  obtain ⟨v1, v2⟩ := V w hw hs
  have hs' : sees w (T.drop s.I) = true := by rw [← is_good hc]; exact hs
  exact L k [] m (hk v1 v2) (sees_two hs' h1) (sees_two hs' h2) (by omega) (by omega)
 by_cases n1 : isS T s wTrue = true
 ·rw [if_pos n1]; exact LW wTrue (by decide) (by decide) (by decide) 24 1 (fun a b => by simp [constK, a, b, wTrue]) n1
 rw [if_neg n1]
 by_cases n2 : isS T s wFalse = true
 ·rw [if_pos n2]; exact LW wFalse (by decide) (by decide) (by decide) 24 0 (fun a b => by simp [constK, a, b, wFalse]) n2
 rw [if_neg n2]
 by_cases n3 : isS T s wNil = true
 ·rw [if_pos n3]; exact LW wNil (by decide) (by decide) (by decide) 25 0 (fun a b => by simp [constK, a, b, wNil]) n3
 rw [if_neg n3]
 by_cases k1 : (nowS T s).kind = 1
 ·have k1' : (hd (T.drop s.I)).kind = 1 := k1
  have hl := last_end hE hf.1 (show (hd (T.drop s.I)).kind ≠ 8 by omega)
  rw [one_yes hl]
  have hc1 : (⟨s.I + 1, s.d, s.c, s.l, s.k⟩ : S).c = 0 := hc
  have e1 : isS T ⟨s.I + 1, s.d, s.c, s.l, s.k⟩ [40] = sees [40] (T.drop (s.I + 1)) := is_good (T := T) hc1 [40]
  have eG : atomP p (n + 1) d (T.drop s.I) = nameP p (n + 1) d (T.drop s.I) := by
   unfold atomP
   rw [sees_kind (by omega) (by omega), sees_kind (by omega) (by omega), if_neg (by decide), if_neg (by decide), if_pos k1']
  cases h40 : isS T ⟨s.I + 1, s.d, s.c, s.l, s.k⟩ [40] with
  | false =>
   rw [if_pos (show (nowS T s).kind = 1 ∧ false = false from ⟨k1, rfl⟩), eG]
   unfold nameP
   rw [List.tail_drop, ← e1, h40, if_neg (by decide)]
   exact ⟨nds_eq rfl, hc, hd', rfl⟩
  | true =>
   rw [if_neg (show ¬ ((nowS T s).kind = 1 ∧ true = false) by simp), if_pos k1, eG]
   unfold nameP
   rw [List.tail_drop, ← e1, h40, if_pos rfl]
   have hl2 := last_end hE (show (⟨s.I + 1, s.d, s.c, s.l, s.k⟩ : S).I < T.length from hl) (sees_ne (is_c h40).2)
   have hft := hf.2.2 hc
   refine node_ag (p := afterP (withinP [40] [41] (listedP p (n + 1)))) (q := argsS T E (n + 1) ⟨s.I + 1, s.d, s.c, s.l, s.k⟩) rfl ?_
   unfold afterP
   rw [List.tail_drop]
   refine within_core (f := fun s => argsL T E (n + 1) 0 [] s) hc1 hd' hdl h40 (fun s h => by show (argsL T E (n + 1) 0 [] s).2 = s; rw [args_bad h]) (fun hlt => ?_)
   have hl3 : s.I + 1 + 1 < T.length := hl2
   exact listed_ag (s := ⟨s.I + 1 + 1, ((d + 1 : Nat) : Int), s.c, s.l, s.k⟩) hE hA hK hB hP (by omega) hc rfl ⟨hl3, by omega, fun _ => by show T.length ≤ s.I + 1 + 1 + n; omega⟩ (by show T.length ≤ s.I + 1 + 1 + n; omega)
 rw [if_neg (fun h => k1 h.1), if_neg k1]
 have k1' : ¬ (hd (T.drop s.I)).kind = 1 := k1
 by_cases p1 : isS T s [40] = true
 ·rw [if_pos p1]
  unfold atomP
  rw [if_pos (by rw [← is_good hc]; exact p1)]
  exact within_ag hc hd' hdl p1 hK (fun hlt => hA _ _ (fit_in hE hf hc p1 _) hc rfl (by omega))
 rw [if_neg p1]
 have eG : atomP p (n + 1) d (T.drop s.I) = if sees [109, 97, 107, 101] (T.drop s.I) = true then makeP p (n + 1) d (T.drop s.I) else if (hd (T.drop s.I)).kind = 1 then nameP p (n + 1) d (T.drop s.I) else constP d (T.drop s.I) := by
  unfold atomP; rw [if_neg (by rw [← is_good hc]; exact p1)]
 by_cases p2 : isS T s wMake = true
 ·have hl := last_end hE hf.1 (sees_ne (is_c p2).2)
  have hft := hf.2.2 hc
  have hc1 : (⟨s.I + 1, s.d, s.c, s.l, s.k⟩ : S).c = 0 := hc
  have hf1 : Fit T (n + 1) ⟨s.I + 1, s.d, s.c, s.l, s.k⟩ := fit_up hf hl (Nat.le_succ _) (fun _ => hc)
  rw [if_pos (show sees [109, 97, 107, 101] (T.drop s.I) = true by rw [← is_good hc]; exact p2)] at eG
  rw [one_yes hl]
  cases h91 : isS T ⟨s.I + 1, s.d, s.c, s.l, s.k⟩ [91] with
  | true =>
   rw [if_pos (show isS T s wMake = true ∧ true = true from ⟨p2, rfl⟩), eG]
   unfold makeP
   have h91' : sees [91] (T.drop (s.I + 1)) = true := by rw [← h91]; exact (is_good (T := T) hc1 [91]).symm
   refine node_ag (mk := mkK 32) (q := ((kindS T (n + 1) ⟨s.I + 1, s.d, s.c, s.l, s.k⟩).1 ++ (E (opensS T (kindS T (n + 1) ⟨s.I + 1, s.d, s.c, s.l, s.k⟩).2 [40])).1, shutsS T (E (opensS T (kindS T (n + 1) ⟨s.I + 1, s.d, s.c, s.l, s.k⟩).2 [40])).2 [41])) rfl ?_
   unfold afterP
   rw [List.tail_drop]
   show Agr T d (if (hd (T.drop (s.I + 1))).kind = 2 then _ else _) _
   rw [if_neg (by intro k2; rw [sees_kind (by omega) (by omega)] at h91'; simp at h91')]
   unfold seqP
   have hf2 : Fit T (n + 2) ⟨s.I + 1, s.d, s.c, s.l, s.k⟩ := ⟨hl, by omega, fun _ => by simp only; omega⟩
   have z := kind_ag hE hp (n + 1) (n + 2) _ d hf1 hf2 hc1 hd' hdl
   unfold typeP iteP at z
   rw [if_pos h91'] at z
   obtain ⟨b1, b2, b3, b4, b5⟩ := (bnd_kind hE (n + 1) _ hf1).1
   generalize kindS T (n + 1) ⟨s.I + 1, s.d, s.c, s.l, s.k⟩ = u at *
   refine agr_bind z (fun F hF hcu hdu => ?_) (fun h => by
    have h0 : (opensS T u.2 [40]).c ≠ 0 := by rw [opens_bad h]; exact h
    show Ke u.2 (shutsS T (E (opensS T u.2 [40])).2 [41])
    rw [hK _ h0, shuts_bad h0, opens_bad h]; exact ⟨rfl, rfl, rfl⟩)
   have hfu : Fit T (n + 1) u.2 := fit_up hf1 b2 b1 (fun _ => hc)
   refine agr_bind (within_all (f := E) hcu hdu hdl hK (fun ho hlt => hA _ _ (fit_in hE hfu hcu ho _) hcu rfl (by omega))) (fun G hG hcg hdg => ?_) (fun h => ke_refl _)
   exact ⟨by show u.1 ++ _ = (F.app G).pre; rw [pre_app, hF, ← hG], hcg, hdg, rfl⟩
  | false =>
   rw [if_neg (show ¬ (isS T s wMake = true ∧ false = true) by simp), if_pos p2, eG]
   unfold makeP
   refine node_ag (mk := mkK 32) (q := (ndS 19 (nowS T ⟨s.I + 1, s.d, s.c, s.l, s.k⟩) (nowS T ⟨s.I + 1, s.d, s.c, s.l, s.k⟩).text 0 [], shutsS T (opensS T (wordS T ⟨s.I + 1, s.d, s.c, s.l, s.k⟩ 2) [40]) [41])) rfl ?_
   unfold afterP
   rw [List.tail_drop]
   show Agr T d (if (hd (T.drop (s.I + 1))).kind = 2 then _ else _) _
   by_cases k2 : (hd (T.drop (s.I + 1))).kind = 2
   ·rw [if_pos k2]
    unfold seqP plainTypeP
    rw [show typeK (hd (T.drop (s.I + 1))) = some (19, (hd (T.drop (s.I + 1))).text) by unfold typeK; rw [if_pos k2]]
    rw [show wordS T ⟨s.I + 1, s.d, s.c, s.l, s.k⟩ 2 = ⟨s.I + 1 + 1, s.d, s.c, s.l, s.k⟩ by unfold wordS; rw [if_pos ⟨hc, k2⟩]]
    show Agr T d ((withinP [40] [41] nothingP d (T.drop (s.I + 1)).tail).bind _) _
    rw [List.tail_drop]
    refine agr_bind (within_all (f := fun s => ([], s)) (s := ⟨s.I + 1 + 1, s.d, s.c, s.l, s.k⟩) hc hd' hdl (fun s h => rfl) (fun ho hlt => ⟨rfl, hc, rfl, rfl⟩)) (fun G hG hcg hdg => ?_) (fun h => ke_refl _)
    refine ⟨?_, hcg, hdg, rfl⟩
    show ndS 19 _ _ _ [] = (Fo.app _ G).pre
    rw [pre_app, ← hG, List.append_nil]
    exact nds_eq rfl
   ·rw [if_neg k2]
    unfold seqP listTypeP nodeP
    rw [within_no hc1 h91]
    have e : wordS T ⟨s.I + 1, s.d, s.c, s.l, s.k⟩ 2 = ⟨s.I + 1, s.d, 5, (hd (T.drop (s.I + 1))).line, (hd (T.drop (s.I + 1))).col⟩ := by unfold wordS; rw [if_neg (fun h => k2 h.2), fail_good hc1]
    rw [e]
    have hne : (⟨s.I + 1, s.d, 5, (hd (T.drop (s.I + 1))).line, (hd (T.drop (s.I + 1))).col⟩ : S).c ≠ 0 := by simp
    rw [opens_bad hne, shuts_bad (by exact hne)]
    exact ⟨rfl, rfl, rfl, by decide⟩
 rw [if_neg (fun h => p2 h.1), if_neg p2, eG, if_neg (show ¬ sees [109, 97, 107, 101] (T.drop s.I) = true by rw [← is_good hc]; exact p2), if_neg k1', fail_good hc]
 unfold constP
 rw [show constK (hd (T.drop s.I)) = none by
  have k3' : ¬ (hd (T.drop s.I)).kind = 3 := k3
  have k4' : ¬ (hd (T.drop s.I)).kind = 4 := k4
  have k5' : ¬ (hd (T.drop s.I)).kind = 5 := k5
  unfold constK; rw [if_neg k3', if_neg k4', if_neg k5']
  by_cases k6 : (hd (T.drop s.I)).kind = 6
  ·rw [if_neg (fun h => h k6)]
   simp only [isS, hc, nowS, seesT, k6, wTrue, wFalse, wNil] at n1 n2 n3
   simp at n1 n2 n3
   simp [n1, n2, n3]
  ·rw [if_pos k6]]
 exact ⟨rfl, rfl, rfl, by decide⟩

theorem postL_ag {n : Nat} {E : S → Rs} {p : Pt} (hE : Ends T) (hA : Ag T n E p) (hK : Kp E) (hB : Bd T n E) {d : Nat} (hdl : d ≤ 40) (m : Nat) : ∀ (F : Fo) (s : S), s.c = 0 → s.d = (d : Int) → Fit T (n + 1) s → T.length ≤ s.I + m → Agr T d (postL p m F d (T.drop s.I)) (postLS T E m F.pre s) := by
 induction m with
 | zero => intro F s hc hd' hf hm; have := hf.1; omega
 | succ m ih =>
  intro F s hc hd' hf hm
  have hI := hf.1
  unfold postL postLS
  rw [← is_good hc, ← is_good hc]
  cases h91 : isS T s [91] with
  | true =>
   rw [if_pos (show true = true from rfl), if_pos (show true = true from rfl)]
   have hl := last_end hE hf.1 (sees_ne (is_c h91).2)
   obtain ⟨o1, o2, o3, o4⟩ := opens_f hE hf.1 [91]
   obtain ⟨b1, b2, b3, b4, b5⟩ := hB _ (fit_opens hE hf h91)
   obtain ⟨t1, t2, t3, t4⟩ := shuts_f hE b2 [93]
   refine agr_bind (within_ag (f := E) hc hd' hdl h91 hK (fun hlt => hA _ _ (fit_in hE hf hc h91 _) hc rfl (by omega))) (fun G hG hcg hdg => ?_) (fun h => ?_)
   ·have e : ndS 28 (nowS T s) [] 0 (F.pre ++ (E (opensS T s [91])).1) = (Fo.cons (mkK 28 (T.drop s.I)) (F.app G) .nil).pre := nds_eq (by rw [pre_app, ← hG])
    rw [e]
    have := (t4 hcg).2.1
    exact ih _ (shutsS T (E (opensS T s [91])).2 [93]) hcg hdg (fit_up hf t1 (by omega) (fun _ => hc)) (by omega)
   ·rw [post_bad h]; exact ke_refl _
  | false =>
   rw [if_neg (show ¬ (false = true) by decide), if_neg (show ¬ (false = true) by decide)]
   cases h46 : isS T s [46] with
   | true =>
    rw [if_pos (show true = true from rfl), if_pos (show true = true from rfl), must_yes h46, List.tail_drop]
    have hl := last_end hE hf.1 (sees_ne (is_c h46).2)
    have hc1 : (⟨s.I + 1, s.d, s.c, s.l, s.k⟩ : S).c = 0 := hc
    unfold kindP passP wordS
    by_cases k1 : (hd (T.drop (s.I + 1))).kind = 1
    ·rw [if_pos (by simp [k1]), if_pos ⟨hc, k1⟩]
     have hl2 := last_end hE hl (show (hd (T.drop (s.I + 1))).kind ≠ 8 by omega)
     have e : ndS 29 (nowS T s) (nowS T ⟨s.I + 1, s.d, s.c, s.l, s.k⟩).text 0 F.pre = (Fo.cons (mkY 29 (T.drop s.I)) F .nil).pre := by unfold mkY; rw [List.tail_drop]; exact nds_eq rfl
     rw [e]
     show Agr T d (postL p m _ d (T.drop (s.I + 1)).tail) _
     rw [List.tail_drop]
     exact ih _ ⟨s.I + 1 + 1, s.d, s.c, s.l, s.k⟩ hc hd' (fit_up hf hl2 (by show s.I ≤ s.I + 1 + 1; omega) (fun _ => hc)) (by show T.length ≤ s.I + 1 + 1 + m; omega)
    ·rw [if_neg (by simpa using k1), if_neg (fun h => k1 h.2), fail_good hc1, post_bad (by simp)]
     exact ⟨rfl, rfl, rfl, by decide⟩
   | false =>
    rw [if_neg (show ¬ (false = true) by decide), if_neg (show ¬ (false = true) by decide)]
    exact ⟨rfl, hc, hd', rfl⟩
theorem postP_ag {n : Nat} {E : S → Rs} {p : Pt} (hE : Ends T) (hp : Plain T) (hA : Ag T n E p) (hK : Kp E) (hB : Bd T n E) (hP : Pos T n E) : Ag T (n + 1) (postS T E (n + 1)) (postP p (n + 1)) := by
 intro s d hf hc hd' hdl
 obtain ⟨b1, b2, b3, b4, b5⟩ := bnd_atom hE hB _ hf
 have hft := hf.2.2 hc
 refine agr_bind (atom_ag hE hp hA hK hB hP s d hf hc hd' hdl) (fun F hF hc1 hd1 => ?_) (fun h => by unfold postS; rw [post_bad h]; exact ke_refl _)
 unfold postS
 rw [hF]
 exact postL_ag hE hA hK hB hdl (n + 1) F _ hc1 hd1 (fit_up hf b2 b1 (fun _ => hc)) (by omega)
theorem deeper_ag {n : Nat} {U : S → Rs} {p : Pt} (hE : Ends T) (hA : Ag T n U p) (hK : Kp U) {s : S} {d : Nat} (hf : Fit T (n + 1) s) (hc : s.c = 0) (hd' : s.d = (d : Int)) (hdl : d ≤ 40) {x : List UInt8} (hx : isS T s x = true) : Agr T d (deeperP p d (T.drop s.I)) ((U (opensS T s x)).1, downS (U (opensS T s x)).2) := by
 unfold deeperP
 by_cases h40 : d = 40
 ·rw [if_pos h40, opens_40 (by rw [hd', h40]; rfl) hx, hK _ (by simp)]
  exact ⟨rfl, rfl, rfl, by decide⟩
 ·rw [if_neg h40, List.tail_drop, opens_yes hd' (by omega) hx]
  exact agr_down (hA _ _ (fit_in hE hf hc hx _) hc rfl (by omega)) hdl
theorem unary_ag {n : Nat} {U P : S → Rs} {pu pp : Pt} (hE : Ends T) (hU : Ag T n U pu) (hK : Kp U) (hP : Ag T (n + 1) P pp) : Ag T (n + 1) (unaryS T U P) (unaryOf pu pp) := by
 intro s d hf hc hd' hdl
 unfold unaryS unaryOf
 rw [← is_good hc, ← is_good hc]
 cases h45 : isS T s [45] with
 | true => rw [if_pos (show true = true from rfl), if_pos (show true = true from rfl)]; exact node_ag (mk := mkN 30 12) (q := ((U (opensS T s [45])).1, downS (U (opensS T s [45])).2)) rfl (deeper_ag hE hU hK hf hc hd' hdl h45)
 | false =>
  rw [if_neg (show ¬ (false = true) by decide), if_neg (show ¬ (false = true) by decide)]
  cases h33 : isS T s [33] with
  | true => rw [if_pos (show true = true from rfl), if_pos (show true = true from rfl)]; exact node_ag (mk := mkN 30 13) (q := ((U (opensS T s [33])).1, downS (U (opensS T s [33])).2)) rfl (deeper_ag hE hU hK hf hc hd' hdl h33)
  | false => rw [if_neg (show ¬ (false = true) by decide), if_neg (show ¬ (false = true) by decide)]; exact hP s d hf hc hd' hdl

theorem step_ag {n : Nat} {E : S → Rs} {p : Pt} (hE : Ends T) (hA : Ag T n E p) {d : Nat} (hdl : d ≤ 40) {F : Fo} {s : S} (hc : s.c = 0) (hd' : s.d = (d : Int)) (hf : Fit T n s) {l : List (List UInt8)} (ha : anyIs T s l = true) : Agr T d (joinedP p F d (T.drop s.I)) (stepS T E F.pre s) := by
 obtain ⟨a1, a2, a3⟩ := any_c ha
 have hl := last_end hE hf.1 (sees_ne (is_c a3).2)
 unfold joinedP stepS
 rw [must_yes a3, List.tail_drop]
 refine agr_bind (hA ⟨s.I + 1, s.d, s.c, s.l, s.k⟩ d (fit_up hf hl (Nat.le_succ _) (fun _ => hc)) hc hd' hdl) (fun G hG hcg hdg => ?_) (fun h => ke_refl _)
 exact ⟨nds_eq (by rw [pre_app, hG]), hcg, hdg, rfl⟩
theorem chainL_ag {n : Nat} {E : S → Rs} {p : Pt} (hE : Ends T) (hA : Ag T n E p) (hB : Bd T n E) {l : List (List UInt8)} {d : Nat} (hdl : d ≤ 40) (m : Nat) : ∀ (F : Fo) (s : S), s.c = 0 → s.d = (d : Int) → Fit T n s → T.length ≤ s.I + m → Agr T d (chainL p l m F d (T.drop s.I)) (chainS T E l m F.pre s) := by
 induction m with
 | zero => intro F s hc hd' hf hm; have := hf.1; omega
 | succ m ih =>
  intro F s hc hd' hf hm
  unfold chainL chainS
  rw [← any_good hc]
  cases ha : anyIs T s l with
  | true =>
   rw [if_pos (show true = true from rfl), if_pos (show true = true from rfl)]
   obtain ⟨a1, a2, a3⟩ := any_c ha
   obtain ⟨b1, b2, b3, b4⟩ := bnd_step (x := F.pre) hE hB hf a3
   refine agr_bind (step_ag hE hA hdl hc hd' hf ha) (fun G hG hcg hdg => ?_) (fun h => by rw [chain_bad h]; exact ke_refl _)
   rw [hG]
   exact ih G _ hcg hdg (fit_up hf b2 (by omega) (fun _ => hc)) (by omega)
  | false =>
   rw [if_neg (show ¬ (false = true) by decide), if_neg (show ¬ (false = true) by decide)]
   exact ⟨rfl, hc, hd', rfl⟩
def levP (u : Pt) (n : Nat) : Nat → Pt
 | 0 => u
 | j + 1 => if 6 - j = 3 ∨ 6 - j = 4 then pairP (levP u n j) (sg (6 - j)) else chainP (levP u n j) (sg (6 - j)) n
theorem lev_ag {n m : Nat} {u : S → Rs} {p : Pt} (hE : Ends T) (hm : n ≤ m) (hA : Ag T n u p) (hB : Bd T n u) (j : Nat) : Ag T n (levS T m u j) (levP p m j) := by
 induction j with
 | zero => exact hA
 | succ j ih =>
  intro s d hf hc hd' hdl
  obtain ⟨b1, b2, b3, b4, b5⟩ := bnd_lev hE hB m j _ hf
  have hft := hf.2.2 hc
  unfold levS levP
  by_cases h34 : 6 - j = 3 ∨ 6 - j = 4
  ·rw [if_pos h34, if_pos h34]
   unfold pairP
   refine agr_bind (ih s d hf hc hd' hdl) (fun F hF hc1 hd1 => ?_) (fun h => by rw [any_bad h, if_neg (by decide)]; exact ke_refl _)
   rw [← any_good hc1]
   cases ha : anyIs T (levS T m u j s).2 (sg (6 - j)) with
   | true => rw [if_pos (show true = true from rfl), if_pos (show true = true from rfl), hF]; exact step_ag hE ih hdl hc1 hd1 (fit_up hf b2 b1 (fun _ => hc)) ha
   | false => rw [if_neg (show ¬ (false = true) by decide), if_neg (show ¬ (false = true) by decide)]; exact ⟨hF, hc1, hd1, rfl⟩
  ·rw [if_neg h34, if_neg h34]
   unfold chainP
   refine agr_bind (ih s d hf hc hd' hdl) (fun F hF hc1 hd1 => ?_) (fun h => by rw [chain_bad h]; exact ke_refl _)
   rw [hF]
   exact chainL_ag hE ih (bnd_lev hE hB m j) hdl m F _ hc1 hd1 (fit_up hf b2 b1 (fun _ => hc)) (by omega)
theorem levP_or (u : Pt) (n : Nat) : levP u n 6 = orP u n := rfl
theorem eu_ag (hE : Ends T) (hp : Plain T) (n : Nat) : Ag T n (euS T n).1 (eu n).1 ∧ Ag T n (euS T n).2 (eu n).2 := by
 induction n with
 | zero => exact ⟨fun s d hf => by have := hf.2.1; omega, fun s d hf => by have := hf.2.1; omega⟩
 | succ n ih =>
  obtain ⟨i1, i2⟩ := ih
  obtain ⟨k1, k2⟩ := kp_eu (T := T) n
  obtain ⟨b1, b2⟩ := bnd_eu hE n
  obtain ⟨p1, p2⟩ := pos_eu hE n
  have hu : Ag T (n + 1) (unaryS T (euS T n).2 (postS T (euS T n).1 (n + 1))) (unaryOf (eu n).2 (postP (eu n).1 (n + 1))) := unary_ag hE i2 k2 (postP_ag hE hp i1 k1 b1 p1)
  exact ⟨by have z := lev_ag (m := n + 1) hE (Nat.le_refl _) hu (bnd_eu hE (n + 1)).2 6; rw [levP_or] at z; exact z, hu⟩
end
end Go.Proofs.YtbknflaooemigaaGreat
