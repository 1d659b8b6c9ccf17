/-
 Signs are no words; rows of nodes that lie in memory; the document's Expr answers the grammar's tree, or its fault. Conditions: texts of at most 65536 bytes.
-/
import Derived.Test.YtbknflaooemigaaGreatDv
import Derived.Test.YtbknflaooemigaaGreatEb
import Derived.Test.YtbknflaooemigaaGreatEc
import Derived.Test.YtbknflaooemigaaGreatRei
import Derived.Test.YtbknflaooemigaaGreatRq3
namespace Go.Proofs.YtbknflaooemigaaGreat
open Go.RowKit Go.Sort
set_option linter.unusedVariables false

theorem one_plain (l : List UInt8) (h : (one l).kind = 7) : (one l).text ∉ words := by
 have hw : ∀ x ∈ words, 2 ≤ x.length := by decide
 have ht : ∀ x ∈ twos, x ∉ words := by decide
 unfold one at *
 split at h
 ·exfalso
  simp only [namK] at h
  split at h
  ·cases h
  ·split at h <;> cases h
 ·rename_i h1
  rw [if_neg h1]
  split at h
  ·exfalso
   unfold numOne at h
   split at h
   ·cases h
   ·split at h
    ·cases h
    ·simp only at h; split at h <;> cases h
  ·rename_i h2
   rw [if_neg h2]
   split at h
   ·exfalso
    unfold litOne at h
    split at h <;> cases h
   ·rename_i h3
    rw [if_neg h3]
    unfold sgnOne at *
    split at h
    ·cases h
    ·rename_i h4
     rw [if_neg h4]
     show l.take (sgn l) ∉ words
     unfold sgn
     split
     ·rename_i h5; exact ht _ h5
     ·split
      ·intro hm
       have := hw _ hm
       rw [List.length_take] at this; omega
      ·intro hm
       have := hw _ hm
       simp at this
theorem toks_plain (l : List UInt8) (a b : Nat) : ∀ T, toks l a b = .ok T → Plain T := by
 induction l, a, b using toks.induct with
 | case1 a b =>
  rw [toks_nil]
  intro T h
  cases h
  intro t ht hk
  simp at ht
  subst ht
  cases hk
 | case2 l a b hl h1 ih => rw [toks, dif_neg hl, if_pos h1]; exact ih
 | case3 l a b hl h1 h2 ih => rw [toks, dif_neg hl, if_neg h1, if_pos h2]; exact ih
 | case4 l a b hl h1 h2 h3 ih => rw [toks, dif_neg hl, if_neg h1, if_neg h2, if_pos h3]; exact ih
 | case5 l a b hl h1 h2 h3 h4 ih =>
  rw [toks, dif_neg hl, if_neg h1, if_neg h2, if_neg h3, dif_pos h4]
  cases ht : toks (l.drop (one l).size) a (b + (one l).size) with
  | ok T0 =>
   intro T h
   cases h
   intro t hm hk
   rcases List.mem_cons.1 hm with rfl | hm
   ·exact one_plain l hk
   ·exact ih T0 ht t hm hk
  | error f => intro T h; cases h
 | case6 l a b hl h1 h2 h3 h4 =>
  rw [toks, dif_neg hl, if_neg h1, if_neg h2, if_neg h3, dif_neg h4]
  intro T h; cases h

theorem flat_get (l : List Nd) : ∀ (i j : Nat), i < l.length → j < 6 → (ndFlat l)[i * 6 + j]? = (ndCells (nd l i))[j]? := by
 induction l with
 | nil => intro i j h; simp at h
 | cons t l ih =>
  intro i j hi hj
  unfold ndFlat
  rw [List.flatMap_cons]
  have hl : (ndCells t).length = 6 := rfl
  cases i with
  | zero => rw [List.getElem?_append_left (by omega)]; simp [nd]
  | succ i =>
   rw [List.getElem?_append_right (by omega), hl, show (i + 1) * 6 + j - 6 = i * 6 + j by omega]
   have := ih i j (by simp at hi; omega) hj
   unfold ndFlat at this
   rw [this]; simp [nd]
theorem nrow_lies {w : World} {g : Nat} {l : List Nd} (h : Lies (ndFlat l) g w) : NRow w (some ⟨g, 0, none⟩) l := fun i hi => by
 have c : ∀ j u, j < 6 → (ndCells (nd l i))[j]? = some u → w.cell? ⟨g, 0 + i * 6 + j, none⟩ = some u := fun j u hj hu => by
  have := h.2 (i * 6 + j) u (by rw [flat_get l i j hi hj]; exact hu)
  rw [plain_add] at this
  rwa [Nat.zero_add]
 exact ⟨g, 0, rfl, by simpa using c 0 _ (by decide) rfl, c 1 _ (by decide) rfl, c 2 _ (by decide) rfl, c 3 _ (by decide) rfl, c 4 _ (by decide) rfl, c 5 _ (by decide) rfl⟩

/-- What done answers. -/
def doneS (T : List Tok) (x : List Nd) (s : S) : List Nd × Int × Int × Int :=
 if s.c = 0 ∧ (nowS T s).kind = 8 then (x, 0, 0, 0) else if (nowS T s).kind = 8 then ([], s.c, s.l, s.k) else ([], (failS T s 5).c, (failS T s 5).l, (failS T s 5).k)
theorem done_any {w : World} {tb to n tc : Nat} {T : List Tok} {I : Nat} {d c l k : Int} (h : Ev w tb to n T I) (g m cap : Nat) (x : List Nd) (hx : x.length = m) (hX : Lies (ndFlat x) g w) (Q : List Nd × Int × Int × Int) (hQ : doneS T x ⟨I, d, c, l, k⟩ = Q) :
  Calls Tryz.prog 15 #[.slice (some ⟨g, 0, none⟩) m cap, pQ tb to n tc I d c l k] w (fun e w' => ∃ g1 m1 cap1, e = .returned (.tuple #[.slice (some ⟨g1, 0, none⟩) m1 cap1, .agg #[.int .i64 Q.2.1, .int .i64 Q.2.2.1, .int .i64 Q.2.2.2]]) ∧ Q.1.length = m1 ∧ Lies (ndFlat Q.1) g1 w' ∧ (g1 = g ∨ w.heap.size ≤ g1) ∧ Below w.heap.size w w') := by
 unfold doneS at hQ
 by_cases hk : (nowS T ⟨I, d, c, l, k⟩).kind = 8
 ·by_cases hc : c = 0
  ·rw [if_pos ⟨hc, hk⟩] at hQ
   subst hQ
   refine (done_ok h hc hk g m cap).mono ?_
   rintro e w' ⟨rfl, hb⟩
   exact ⟨g, m, cap, rfl, hx, hX.carry hb, Or.inl rfl, hb⟩
  ·rw [if_neg (fun h => hc h.1), if_pos hk] at hQ
   subst hQ
   refine (done_end h hc hk g m cap).mono ?_
   rintro e w' ⟨g1, rfl, hl, hg, hb⟩
   exact ⟨g1, 0, 0, rfl, rfl, hl, Or.inr hg, hb⟩
 ·rw [if_neg (fun h => hk h.2), if_neg hk] at hQ
  subst hQ
  refine (done_more h rfl hk g m cap).mono ?_
  rintro e w' ⟨g1, rfl, hl, hg, hb⟩
  exact ⟨g1, 0, 0, rfl, rfl, hl, Or.inr hg, hb⟩

def answer (o : Out) : List Nd × (Int × Nat × Nat) := match o with
 | .ok F _ => (F.pre, (0, 0, 0))
 | .bad c l k => ([], (c, l, k))
theorem done_agr {T : List Tok} {o : Out} {q : Rs} (h : Agr T 0 o q) (Q : List Nd × (Int × Nat × Nat)) (hQ : answer (o.bind fun F r => if (hd r).kind = 8 then .ok F r else badAt 5 r) = Q) : doneS T q.1 q.2 = (Q.1, Q.2.1, (Q.2.2.1 : Int), (Q.2.2.2 : Int)) := by
 subst hQ
 unfold doneS
 have hn : nowS T q.2 = hd (T.drop q.2.I) := rfl
 rw [hn]
 cases o with
 | ok F r =>
  obtain ⟨a, b, c, rfl⟩ := h
  simp only [Out.bind]
  by_cases hk : (hd (T.drop q.2.I)).kind = 8
  ·rw [if_pos ⟨b, hk⟩, if_pos hk]; simp [answer, a]
  ·rw [if_neg (fun h => hk h.2), if_neg hk, if_neg hk, fail_good b]; rfl
 | bad c l k =>
  obtain ⟨a, b, e, n⟩ := h
  have hc : q.2.c ≠ 0 := by rw [a]; exact n
  simp only [Out.bind, answer]
  rw [if_neg (fun h => hc h.1), fail_bad hc, a, b, e]
  split <;> rfl

set_option maxHeartbeats 2000000 in
theorem rexpr_bad (s : ByteArray) (w : World) (c : Int) (l k : Nat) (hc : c ≠ 0) (HT : Hid (∀ w, Calls Tryz.prog 11 #[.string s] w (RetT w (.error (c, l, k))))) :
  Calls Tryz.prog 7 #[.string s] w (RetN w ([], (c, l, k))) := by
 have hc2 : (c != 0) = true := by simpa using hc
 go_enter Tryz.func7, Tryz.ntmps7
 go_wp2_with fail
 refine (HT.out _).mono ?_
 rintro e w1 ⟨v, rfl, ho, hb⟩
 simp only [fauR]
 have hF := (Fx.made w 0 0 0).carry hb
 have hbb := below_step (below_alloc _ _) hb
 clear ho hb
 have lhF := hF.lt
 have h0 := fun O => cell_alloc hF.c0 O
 go_wp2_with fail
 obtain ⟨W, hW⟩ : ∃ W, W = w1.alloc (.cells #[.int .i64 c, .int .i64 (l : Nat), .int .i64 (k : Nat)] 26) := ⟨_, rfl⟩
 rw [← hW]
 have hbW : Below w1.heap.size w1 W := by rw [hW]; exact below_alloc _ _
 have hG : Fx W w1.heap.size c l k := by rw [hW]; exact Fx.made w1 c l k
 replace hF := hF.carry hbW
 replace hbb := below_step hbb hbW
 clear hW hbW h0
 have lhG := hG.lt
 have lhF := hF.lt
 obtain ⟨hFc0, hFc1, hFc2, hFf⟩ := id hF
 obtain ⟨hGc0, hGc1, hGc2, hGf⟩ := id hG
 go_region
 obtain ⟨V, hV, nF, hO⟩ := putF_ex hF c l k
 have hsV := hO.size
 rw [putF_eq, hV.out]
 replace hbb := hO.below hbb (by omega)
 clear hO hFc0 hFc1 hFc2 hFf
 obtain ⟨Vn, hVn⟩ : ∃ Vn, Vn = (V.alloc (.cells #[] 32)).drew := ⟨_, rfl⟩
 rw [← hVn]
 have hbV : Below V.heap.size V Vn := by rw [hVn]; go_grown
 have hzV : Vn.heap.size = V.heap.size + 1 := by rw [hVn]; simp
 replace nF := nF.carry hbV
 replace hbb := below_step hbb hbV
 clear hbV hVn
 obtain ⟨hFc0, hFc1, hFc2, hFf⟩ := id nF
 go_wp2_with fail
 refine bodyPost_ret (v := .tuple #[.slice (some ⟨W.heap.size, 0, none⟩) 0 0, fV (c, l, k)]) (by simp [results, Tryz.results7, go_sem, hFc0, hFc1, hFc2]) rfl ⟨some ⟨W.heap.size, 0, none⟩, 0, 0, rfl, rfl, by omega, fun i hi => absurd hi (by simp), (fun g o e => by cases e; omega), hbb⟩

set_option maxHeartbeats 4000000 in
theorem rexpr_run (s : ByteArray) (w : World) (T : List Tok) (hE : Ends T) (hp : Plain T) (hl : T.length ≤ 65537) (HT : Hid (∀ w, Calls Tryz.prog 11 #[.string s] w (RetT w (.ok T)))) (Q : List Nd × (Int × Nat × Nat)) (hQ : answer (wholeP (exprP T.length) T) = Q) :
  Calls Tryz.prog 7 #[.string s] w (RetN w Q) := by
 have hf : Fit T T.length ⟨0, 0, 0, 0, 0⟩ := by
  obtain ⟨t, l, rfl⟩ := hE.ne
  exact ⟨by simp, by simp, fun _ => by simp⟩
 obtain ⟨⟨x, ⟨I1, d1, c1, l1, k1⟩⟩, hx⟩ : ∃ q, (euS T T.length).1 ⟨0, 0, 0, 0, 0⟩ = q := ⟨_, rfl⟩
 have ha := (eu_ag hE hp T.length).1 ⟨0, 0, 0, 0, 0⟩ 0 hf rfl rfl (by omega)
 rw [hx] at ha
 have hdn : doneS T x ⟨I1, d1, c1, l1, k1⟩ = (Q.1, Q.2.1, (Q.2.2.1 : Int), (Q.2.2.2 : Int)) := done_agr ha Q (by rw [← hQ]; rfl)
 have hbd := (bnd_eu hE T.length).1 _ hf
 rw [hx] at hbd
 have hI1 : I1 < T.length := hbd.2.1
 have hxl : x.length ≤ 70003 := by have := hbd.2.2.2.2; simp only at this; omega
 have HX0 := Lib.hid (fun w (tb tc : Nat) (h : Ev w tb 0 T.length T 0) => (eu_all hE T.length).1 (tc := tc) (s := ⟨0, 0, 0, 0, 0⟩) h hf)
 rw [hx] at HX0
 have hql : Q.1.length ≤ 600000 := by
  have := congrArg (fun q => q.1.length) hdn
  simp only at this
  rw [← this]
  unfold doneS
  split
  ·simp only; omega
  ·split <;> simp
 replace hdn := Lib.hid hdn
 replace hE := Lib.hid hE
 obtain ⟨n, hn⟩ : ∃ n, T.length = n := ⟨_, rfl⟩
 clear hx ha hbd hQ hp hf
 go_enter Tryz.func7, Tryz.ntmps7
 go_wp2_with fail
 refine (HT.out _).mono ?_
 rintro e w1 ⟨v, rfl, ho, hb⟩
 simp only [fauR]
 obtain ⟨tb, tc, rfl, hev⟩ : ∃ tb tc, v = .slice (some ⟨tb, 0, none⟩) n tc ∧ Ev w1 tb 0 n T 0 := by
  rcases ho.2 with ⟨_, h0⟩ | ⟨g, cap, cur, hv, hg, hh, hr⟩
  ·obtain ⟨t, l, rfl⟩ := hE.out.ne
   simp [tokR] at h0
  ·have hv' : v = .slice (some ⟨g, 0, none⟩) n cap := by rw [hv, ← hn]; rfl
   refine ⟨g, cap, hv', ⟨⟨fun i t ht => own_tat (by rw [hv'] at ho; exact ho) ht, by omega, lt_of_heap hh⟩, hn, by omega⟩⟩
 have hF := (Fx.made w 0 0 0).carry hb
 have hbb := below_step (below_alloc _ _) hb
 clear ho hb
 have lhF := hF.lt
 have HV := Lib.hid hev
 clear hev
 obtain ⟨hFc0, hFc1, hFc2, hFf⟩ := id hF
 rw [hn] at HX0 hI1
 go_wp2_with fail
 refine (HX0.out _ tb tc (HV.out.carry (below_alloc _ _))).mono ?_
 rintro e w2 ⟨g, cap, rfl, HX, log, hb⟩
 clear hFc0 hFc1 hFc2 hFf
 have hb2 := below_step (below_alloc _ _) hb
 replace hF := hF.carry hb2
 replace hbb := below_step hbb hb2
 replace HV := Lib.hid (HV.out.carry hb2)
 have hz2 := hb2.size
 simp only [World.size_alloc] at log
 replace HX := Lib.hid HX
 clear hb hb2
 have lhF := hF.lt
 obtain ⟨hFc0, hFc1, hFc2, hFf⟩ := id hF
 go_wp2_with fail
 refine (done_any ((HV.out.at hI1).carry (below_alloc _ _)) g x.length cap x rfl (HX.out.carry (below_alloc _ _)) _ hdn.out).mono ?_
 rintro e w3 ⟨g1, m1, cap1, rfl, hm1, HQ, hg1, hb⟩
 simp only [World.size_alloc] at hg1
 clear hFc0 hFc1 hFc2 hFf
 have hb3 := below_step (below_alloc _ _) hb
 replace hF := hF.carry hb3
 replace hbb := below_step hbb hb3
 have hz3 := hb3.size
 clear hb hb3
 simp only at hm1 HQ
 replace HQ := Lib.hid HQ
 replace hm1 := Lib.hid hm1
 have lhF := hF.lt
 obtain ⟨hFc0, hFc1, hFc2, hFf⟩ := id hF
 have hg1' : w.heap.size + 1 ≤ g1 := by omega
 go_wp2_with fail
 obtain ⟨V, hV, nF, hO⟩ := putF_ex hF Q.2.1 (Q.2.2.1 : Nat) (Q.2.2.2 : Nat)
 rw [putF_eq, hV.out]
 replace hbb := hO.below hbb (by omega)
 replace HQ := Lib.hid (HQ.out.oth hO (by omega))
 clear hO hFc0 hFc1 hFc2 hFf
 obtain ⟨hFc0, hFc1, hFc2, hFf⟩ := id nF
 refine bodyPost_ret (v := .tuple #[.slice (some ⟨g1, 0, none⟩) m1 cap1, fV Q.2]) (by simp [results, Tryz.results7, go_sem, hFc0, hFc1, hFc2]) rfl ⟨some ⟨g1, 0, none⟩, m1, cap1, rfl, hm1.out, by rw [← hm1.out]; exact hql, nrow_lies HQ.out, (fun g o e => by cases e; omega), hbb⟩

theorem rexpr_any (s : ByteArray) (w : World) (hs : s.size ≤ 65536) : Calls Tryz.prog 7 #[.string s] w (RetN w (readA exprP s.data.toList)) := by
 have hs2 : ¬ 65536 < s.data.toList.length := by rw [size_list]; omega
 have HT : Hid (∀ w, Calls Tryz.prog 11 #[.string s] w (RetT w (toks s.data.toList 1 1))) := Lib.hid (fun w => rtokens_core s w hs _ (Lib.hid rfl))
 have hk := toks_ok s.data.toList 1 1
 have hp := toks_plain s.data.toList 1 1
 unfold readA
 rw [if_neg hs2]
 cases ht : toks s.data.toList 1 1 with
 | error f =>
  rw [ht] at HT
  obtain ⟨c, l, k⟩ := f
  exact rexpr_bad s w c l k (hk.2 _ ht) HT
 | ok T =>
  rw [ht] at HT
  obtain ⟨hE, hl⟩ := hk.1 T ht
  refine rexpr_run s w T hE (hp T ht) (by omega) HT _ ?_
  dsimp only
  cases wholeP (exprP T.length) T <;> rfl
end Go.Proofs.YtbknflaooemigaaGreat
