/-
 The document's reading as plain functions reads as the grammar does. No function of the program is spoken of. Conditions: the tokens end in an end, signs are no words.
-/
import Derived.Test.YtbknflaooemigaaGreatDj
namespace Go.Proofs.YtbknflaooemigaaGreat
open Go.RowKit
set_option linter.unusedVariables false
section
variable {T : List Tok}

def Plain (T : List Tok) : Prop := ∀ t ∈ T, t.kind = 7 → t.text ∉ words
def Agr (T : List Tok) (d : Nat) (o : Out) (q : Rs) : Prop := match o with
 | .ok F r => q.1 = F.pre ∧ q.2.c = 0 ∧ q.2.d = (d : Int) ∧ r = T.drop q.2.I
 | .bad c l k => q.2.c = c ∧ q.2.l = (l : Int) ∧ q.2.k = (k : Int) ∧ c ≠ 0
def Ke (s s' : S) : Prop := s'.c = s.c ∧ s'.l = s.l ∧ s'.k = s.k
def Kp (f : S → Rs) : Prop := ∀ s, s.c ≠ 0 → (f s).2 = s
def Ag (T : List Tok) (n : Nat) (f : S → Rs) (p : Pt) : Prop := ∀ s (d : Nat), Fit T n s → s.c = 0 → s.d = (d : Int) → d ≤ 40 → Agr T d (p d (T.drop s.I)) (f s)

theorem agr_bind {d d1 : Nat} {o : Out} {q q' : Rs} {f : Fo → List Tok → Out} (h : Agr T d1 o q) (hok : ∀ F : Fo, q.1 = F.pre → q.2.c = 0 → q.2.d = (d1 : Int) → Agr T d (f F (T.drop q.2.I)) q') (hbad : q.2.c ≠ 0 → Ke q.2 q'.2) : Agr T d (o.bind f) q' := by
 cases o with
 | ok F r => obtain ⟨a, b, c, rfl⟩ := h; exact hok F a b c
 | bad c l k =>
  obtain ⟨a, b, e, n⟩ := h
  obtain ⟨x, y, z⟩ := hbad (by rw [a]; exact n)
  exact ⟨x.trans a, y.trans b, z.trans e, n⟩
theorem bind_bind (o : Out) (f g : Fo → List Tok → Out) : (o.bind f).bind g = o.bind fun F r => (f F r).bind g := by cases o <;> rfl

theorem is_bad {s : S} (h : s.c ≠ 0) (x : List UInt8) : isS T s x = false := by simp [isS, h]
theorem fail_bad {s : S} (h : s.c ≠ 0) (e : Int) : failS T s e = s := by simp [failS, h]
theorem must_bad {s : S} (h : s.c ≠ 0) (x : List UInt8) : mustS T s x = s := by simp [mustS, is_bad h, fail_bad h]
theorem word_bad {s : S} (h : s.c ≠ 0) (k : Nat) : wordS T s k = s := by simp [wordS, h, fail_bad h]
theorem opens_bad {s : S} (h : s.c ≠ 0) (x : List UInt8) : opensS T s x = upS s := by simp [opensS, is_bad h, must_bad h]
theorem shuts_bad {s : S} (h : s.c ≠ 0) (x : List UInt8) : shutsS T s x = downS s := by simp [shutsS, must_bad h]
theorem ke_refl (s : S) : Ke s s := ⟨rfl, rfl, rfl⟩
theorem is_good {s : S} (h : s.c = 0) (x : List UInt8) : isS T s x = sees x (T.drop s.I) := by simp [isS, h, sees, nowS]
theorem any_good {s : S} (h : s.c = 0) (l : List (List UInt8)) : anyIs T s l = anyS l (T.drop s.I) := by
 unfold anyIs anyS; congr 1; funext x; exact is_good h x
theorem any_bad {s : S} (h : s.c ≠ 0) (l : List (List UInt8)) : anyIs T s l = false := by
 unfold anyIs; rw [List.any_eq_false]; intro x _; simp [is_bad h]
theorem fail_good {s : S} (h : s.c = 0) (e : Int) : failS T s e = ⟨s.I, s.d, e, (hd (T.drop s.I)).line, (hd (T.drop s.I)).col⟩ := by simp [failS, h, nowS]
theorem must_yes {s : S} {x : List UInt8} (h : isS T s x = true) : mustS T s x = ⟨s.I + 1, s.d, s.c, s.l, s.k⟩ := by simp [mustS, h]
theorem must_no {s : S} {x : List UInt8} (hc : s.c = 0) (h : isS T s x = false) : mustS T s x = ⟨s.I, s.d, 5, (hd (T.drop s.I)).line, (hd (T.drop s.I)).col⟩ := by simp [mustS, h, fail_good hc]
theorem wr_up {d : Nat} (h : d ≤ 40) : wrap64 ((d : Int) + 1) = (d : Int) + 1 := by unfold wrap64; omega
theorem wr_dn {d : Nat} (h : d ≤ 40) : wrap64 (((d + 1 : Nat) : Int) - 1) = (d : Int) := by unfold wrap64; omega

theorem nds_eq {k : Nat} {t : Tok} {text : List UInt8} {num : Int} {x : List Nd} {F : Fo} (h : x = F.pre) : ndS k t text num x = (Fo.cons ⟨k, t.line, t.col, num, text⟩ F .nil).pre := by
 subst h; simp [ndS, Fo.pre, Inf.nd, pre_len]
theorem sees_two {x y : List UInt8} {ts : List Tok} (h : sees x ts = true) (hy : x ≠ y) : sees y ts = false := by
 simp only [sees, seesT, decide_eq_true_eq, decide_eq_false_iff_not] at *
 intro h2; exact hy (h.2.symm.trans h2.2)
theorem sees_kind {x : List UInt8} {ts : List Tok} (h : (hd ts).kind ≠ 6) (h' : (hd ts).kind ≠ 7) : sees x ts = false := by
 simp only [sees, seesT, decide_eq_false_iff_not]; omega

theorem seq_take {d1 d : Nat} {o : Out} {q : Rs} {c : List UInt8} (h : Agr T d1 o q) : Agr T d1 (o.bind fun F r => (take c d r).bind fun G r' => .ok (F.app G) r') (q.1, mustS T q.2 c) := by
 refine agr_bind h (fun F hF hc hd' => ?_) (fun hc => ?_)
 ·unfold take passP
  rw [← is_good hc]
  cases hs : isS T q.2 c with
  | true =>
   rw [if_pos rfl]
   refine ⟨?_, ?_, ?_, ?_⟩
   ·show q.1 = (F.app .nil).pre; rw [app_nil, hF]
   ·show (mustS T q.2 c).c = 0; rw [must_yes hs]; exact hc
   ·show (mustS T q.2 c).d = _; rw [must_yes hs]; exact hd'
   ·show _ = T.drop (mustS T q.2 c).I; rw [must_yes hs, List.tail_drop]
  | false =>
   rw [if_neg (by decide)]
   show Agr T d1 (badAt 5 _) _
   rw [must_no hc hs]
   exact ⟨rfl, rfl, rfl, by decide⟩
 ·rw [must_bad hc]; exact ke_refl _
theorem agr_down {d : Nat} {o : Out} {x : List Nd} {s : S} (h : Agr T (d + 1) o (x, s)) (hd' : d ≤ 40) : Agr T d o (x, downS s) := by
 cases o with
 | ok F r => obtain ⟨a, b, c, e⟩ := h; exact ⟨a, b, by show wrap64 (s.d - 1) = _; rw [show s.d = ((d + 1 : Nat) : Int) from c, wr_dn hd'], e⟩
 | bad c l k => exact h
theorem opens_yes {s : S} {d : Nat} {o : List UInt8} (hd' : s.d = (d : Int)) (hdl : d < 40) (ho : isS T s o = true) : opensS T s o = ⟨s.I + 1, ((d + 1 : Nat) : Int), s.c, s.l, s.k⟩ := by
 unfold opensS; rw [if_neg (by omega), must_yes ho]; unfold upS; simp only [hd', wr_up (Nat.le_of_lt hdl)]; simp
theorem opens_40 {s : S} {o : List UInt8} (hd' : s.d = 40) (ho : isS T s o = true) : opensS T s o = ⟨s.I, s.d, 6, (hd (T.drop s.I)).line, (hd (T.drop s.I)).col⟩ := by
 unfold opensS; rw [if_pos ⟨ho, by omega⟩, fail_good (is_c ho).1]
theorem within_core {f : S → Rs} {p : Pt} {s : S} {d : Nat} {o c : List UInt8} (hc : s.c = 0) (hd' : s.d = (d : Int)) (hdl : d ≤ 40) (ho : isS T s o = true) (hK : Kp f)
  (hA : d < 40 → Agr T (d + 1) ((p (d + 1) (T.drop (s.I + 1))).bind fun F r => (take c d r).bind fun G r' => .ok (F.app G) r') ((f ⟨s.I + 1, ((d + 1 : Nat) : Int), s.c, s.l, s.k⟩).1, mustS T (f ⟨s.I + 1, ((d + 1 : Nat) : Int), s.c, s.l, s.k⟩).2 c)) :
  Agr T d (withinP o c p d (T.drop s.I)) ((f (opensS T s o)).1, shutsS T (f (opensS T s o)).2 c) := by
 unfold withinP
 rw [if_pos (by rw [← is_good hc]; exact ho)]
 unfold seqP deeperP
 by_cases h40 : d = 40
 ·rw [if_pos h40, opens_40 (by rw [hd', h40]; rfl) ho, hK _ (by simp), shuts_bad (by simp)]
  exact ⟨rfl, rfl, rfl, by decide⟩
 ·rw [if_neg h40, List.tail_drop, opens_yes hd' (by omega) ho]
  exact agr_down (hA (by omega)) hdl
theorem within_ag {f : S → Rs} {p : Pt} {s : S} {d : Nat} {o c : List UInt8} (hc : s.c = 0) (hd' : s.d = (d : Int)) (hdl : d ≤ 40) (ho : isS T s o = true) (hK : Kp f)
  (hA : d < 40 → Agr T (d + 1) (p (d + 1) (T.drop (s.I + 1))) (f ⟨s.I + 1, ((d + 1 : Nat) : Int), s.c, s.l, s.k⟩)) :
  Agr T d (withinP o c p d (T.drop s.I)) ((f (opensS T s o)).1, shutsS T (f (opensS T s o)).2 c) :=
 within_core hc hd' hdl ho hK (fun h => seq_take (hA h))
theorem within_no {s : S} {d : Nat} {o c : List UInt8} {p : Pt} (hc : s.c = 0) (ho : isS T s o = false) : withinP o c p d (T.drop s.I) = .bad 5 (hd (T.drop s.I)).line (hd (T.drop s.I)).col := by
 unfold withinP; rw [if_neg (by rw [← is_good hc, ho]; decide)]; rfl
theorem node_ag {d : Nat} {mk : List Tok → Inf} {p : Pt} {ts : List Tok} {q : Rs} {k : Nat} {t : Tok} {text : List UInt8} {num : Int} (hm : mk ts = ⟨k, t.line, t.col, num, text⟩) (h : Agr T d (p d ts) q) : Agr T d (nodeP mk p d ts) (ndS k t text num q.1, q.2) :=
 agr_bind h (fun F hF hc hd' => ⟨by rw [hm]; exact nds_eq hF, hc, hd', rfl⟩) (fun _ => ke_refl _)
theorem hd_mem {s : S} (h : s.I < T.length) : hd (T.drop s.I) ∈ T := by
 have e : hd (T.drop s.I) = T[s.I] := by rw [List.drop_eq_getElem_cons h]; rfl
 rw [e]; exact List.getElem_mem h

theorem kp_kind (n : Nat) : Kp (kindS T n) := by
 cases n with
 | zero => intro s h; rfl
 | succ n => intro s h; simp [kindS, is_bad h, word_bad h]
theorem word_of {w : List UInt8} {ts : List Tok} (hp : ∀ t, hd ts = t → t.kind = 7 → t.text ∉ words) (hw : w ∈ words) (h : sees w ts = true) : (hd ts).kind = 6 ∧ (hd ts).text = w := by
 simp only [sees, seesT, decide_eq_true_eq] at h
 refine ⟨?_, h.2⟩
 rcases h.1 with k | k
 ·exact k
 ·exact absurd hw (h.2 ▸ hp _ rfl k)
theorem fit_in {s : S} {n : Nat} (hE : Ends T) (h : Fit T (n + 1) s) (hc : s.c = 0) {x : List UInt8} (hx : isS T s x = true) (d : Int) : Fit T n ⟨s.I + 1, d, s.c, s.l, s.k⟩ := by
 have h1 := last_end hE h.1 (sees_ne (is_c hx).2)
 have h2 := h.2.2 hc
 exact ⟨h1, by omega, fun _ => by show T.length ≤ s.I + 1 + n; omega⟩
theorem kind_ag (hE : Ends T) (hp : Plain T) (a : Nat) : ∀ (b : Nat) (s : S) (d : Nat), Fit T a s → Fit T b s → s.c = 0 → s.d = (d : Int) → d ≤ 40 → Agr T d (typeP b d (T.drop s.I)) (kindS T a s) := by
 induction a with
 | zero => intro b s d h; have := h.2.1; omega
 | succ a ih =>
  intro b s d h hb hc hd' hdl
  obtain ⟨b, rfl⟩ : ∃ b', b = b' + 1 := ⟨b - 1, by have := hb.2.1; omega⟩
  have hpl : ∀ t, hd (T.drop s.I) = t → t.kind = 7 → t.text ∉ words := fun t ht hk => hp t (ht ▸ hd_mem h.1) hk
  unfold typeP iteP
  have W : ∀ w ∈ words, w ≠ [91] → ∀ k, typeK (hd (T.drop s.I)) = some (k, []) → isS T s w = true → Agr T d (if sees [91] (T.drop s.I) = true then listTypeP (typeP b) d (T.drop s.I) else plainTypeP d (T.drop s.I)) (ndS k (nowS T s) [] 0 [], mustS T s w) := by
   intro w hw hne k hk hs
   rw [if_neg (by rw [sees_two (by rw [← is_good hc]; exact hs) hne]; decide)]
   unfold plainTypeP
   rw [hk]
   refine ⟨nds_eq rfl, ?_, ?_, ?_⟩
   ·show (mustS T s w).c = 0; rw [must_yes hs]; exact hc
   ·show (mustS T s w).d = _; rw [must_yes hs]; exact hd'
   ·show _ = T.drop (mustS T s w).I; rw [must_yes hs, List.tail_drop]
  have V : ∀ w ∈ words, isS T s w = true → (hd (T.drop s.I)).kind = 6 ∧ (hd (T.drop s.I)).text = w := fun w hw hs => word_of hpl hw (by rw [← is_good hc]; exact hs)
  unfold kindS
  by_cases n1 : isS T s wInt = true
  ·rw [if_pos n1]; have v := V wInt (by decide) n1
   exact W wInt (by decide) (by decide) 15 (by simp [typeK, v.1, v.2, wInt]) n1
  rw [if_neg n1]
  by_cases n2 : isS T s wBool = true
  ·rw [if_pos n2]; have v := V wBool (by decide) n2
   exact W wBool (by decide) (by decide) 16 (by simp [typeK, v.1, v.2, wBool]) n2
  rw [if_neg n2]
  by_cases n3 : isS T s wStr = true
  ·rw [if_pos n3]; have v := V wStr (by decide) n3
   exact W wStr (by decide) (by decide) 17 (by simp [typeK, v.1, v.2, wStr]) n3
  rw [if_neg n3]
  by_cases n4 : isS T s wComp = true
  ·rw [if_pos n4]; have v := V wComp (by decide) n4
   exact W wComp (by decide) (by decide) 18 (by simp [typeK, v.1, v.2, wComp]) n4
  rw [if_neg n4]
  by_cases n5 : isS T s [91] = true
  ·rw [if_pos n5, if_pos (by rw [← is_good hc]; exact n5)]
   exact node_ag (p := withinP [91] [93] (typeP b)) (q := ((kindS T a (opensS T s [91])).1, shutsS T (kindS T a (opensS T s [91])).2 [93])) rfl (within_ag hc hd' hdl n5 (kp_kind a) (fun hl => ih b _ _ (fit_in hE h hc n5 _) (fit_in hE hb hc n5 _) hc rfl (by omega)))
  rw [if_neg n5, if_neg (by rw [← is_good hc]; exact n5)]
  unfold plainTypeP wordS
  by_cases k2 : (nowS T s).kind = 2
  ·rw [if_pos ⟨hc, k2⟩, show typeK (hd (T.drop s.I)) = some (19, (hd (T.drop s.I)).text) by unfold typeK; rw [if_pos (show (hd (T.drop s.I)).kind = 2 from k2)]]
   exact ⟨nds_eq rfl, hc, hd', by simp⟩
  ·rw [if_neg (fun h => k2 h.2), fail_good hc, show typeK (hd (T.drop s.I)) = none by
    have k2' : ¬ (hd (T.drop s.I)).kind = 2 := k2
    unfold typeK; rw [if_neg k2']
    by_cases k6 : (hd (T.drop s.I)).kind = 6
    ·rw [if_neg (fun h => h k6)]
     simp only [isS, hc, nowS, seesT, k6, wInt, wBool, wStr, wComp] at n1 n2 n3 n4
     simp at n1 n2 n3 n4
     simp [n1, n2, n3, n4]
    ·rw [if_pos k6]]
   exact ⟨rfl, rfl, rfl, by decide⟩
end
end Go.Proofs.YtbknflaooemigaaGreat
