/-
  Plain facts on the grammar: what is read as an expression is read as the same, one deeper, ahead of a closing round bracket, or is too deep. Conditions: as said.
-/
import Derived.Test.YtbknflaooemigaaPsg
namespace Go.Proofs.Ytbknflaooemigaa
set_option linter.unusedVariables false
set_option linter.unusedSimpArgs false
set_option linter.unusedSectionVars false

def Alk (t u : Tok) : Prop := t.kind = u.kind ∧ t.num = u.num ∧ t.text = u.text
/-- The same tokens but for places, with a closing round bracket ahead of the end. -/
inductive Brk : List Tok → List Tok → Prop where
  | last {e p e' : Tok} (he : e.kind = 8) (hp : p.kind = 7) (hx : p.text = [41]) (he' : e'.kind = 8) : Brk [e] [p, e']
  | cons {t t' : Tok} {ts ts' : List Tok} (hk : t.kind ≠ 8) (h : Alk t t') (hr : Brk ts ts') : Brk (t :: ts) (t' :: ts')
/-- The same trees but for places. -/
inductive Sm : Fo → Fo → Prop where
  | nil : Sm .nil .nil
  | cons {i i' : Inf} {k k' r r' : Fo} (h1 : i.kind = i'.kind) (h2 : i.num = i'.num) (h3 : i.text = i'.text) (hk : Sm k k') (hr : Sm r r') : Sm (.cons i k r) (.cons i' k' r')

theorem Sm.app {a a' b b' : Fo} (h : Sm a a') (k : Sm b b') : Sm (a.app b) (a'.app b') := by
  induction h with
  | nil => exact k
  | cons h1 h2 h3 hk hr _ ih => exact .cons h1 h2 h3 hk ih
theorem Sm.cnt {a a' : Fo} (h : Sm a a') : a.cnt = a'.cnt := by
  induction h with
  | nil => rfl
  | cons h1 h2 h3 hk hr ih1 ih2 => simp [Fo.cnt, ih1, ih2]

theorem sees_iff {x : List UInt8} {t : Tok} {l : List Tok} : sees x (t :: l) = true ↔ ((t.kind = 6 ∨ t.kind = 7) ∧ t.text = x) := by simp [sees, seesT, hd]
theorem brk_yes {x : List UInt8} {ts ts' : List Tok} (h : Brk ts ts') (hx : sees x ts = true) : sees x ts' = true ∧ Brk ts.tail ts'.tail ∧ Alk (hd ts) (hd ts') := by
  cases h with
  | last he hp hxx he' => simp [sees, seesT, hd, he] at hx
  | cons hk ha hr =>
    refine ⟨?_, hr, ha⟩
    rw [sees_iff] at hx ⊢
    rw [← ha.1, ← ha.2.2]; exact hx
theorem brk_no {x : List UInt8} {ts ts' : List Tok} (h : Brk ts ts') (hx : ¬ sees x ts = true) (h41 : x ≠ [41]) : ¬ sees x ts' = true := by
  cases h with
  | last he hp hxx he' =>
    rw [sees_iff]
    rintro ⟨_, h⟩
    rw [hxx] at h
    exact h41 h.symm
  | cons hk ha hr =>
    rw [sees_iff] at hx ⊢
    rw [← ha.1, ← ha.2.2]; exact hx
theorem brk_any {S : List (List UInt8)} {ts ts' : List Tok} (h : Brk ts ts') (hx : anyS S ts = true) : anyS S ts' = true ∧ Brk ts.tail ts'.tail ∧ Alk (hd ts) (hd ts') := by
  obtain ⟨x, hm, hs⟩ := List.any_eq_true.1 hx
  obtain ⟨h1, h2, h3⟩ := brk_yes h hs
  exact ⟨List.any_eq_true.2 ⟨x, hm, h1⟩, h2, h3⟩
theorem brk_none {S : List (List UInt8)} {ts ts' : List Tok} (h : Brk ts ts') (hx : ¬ anyS S ts = true) (hS : ∀ x ∈ S, x ≠ [41]) : ¬ anyS S ts' = true := fun hy => by
  obtain ⟨x, hm, hs⟩ := List.any_eq_true.1 hy
  exact brk_no h (fun he => hx (List.any_eq_true.2 ⟨x, hm, he⟩)) (hS x hm) hs
theorem brk_kind {k : Nat} {ts ts' : List Tok} (h : Brk ts ts') (hx : (hd ts).kind = k) (h8 : k ≠ 8) : (hd ts').kind = k ∧ Brk ts.tail ts'.tail ∧ Alk (hd ts) (hd ts') := by
  cases h with
  | last he hp hxx he' => simp [hd, he] at hx; omega
  | cons hk ha hr => exact ⟨by rw [← hx]; exact ha.1.symm, hr, ha⟩
theorem brk_nkind {k : Nat} {ts ts' : List Tok} (h : Brk ts ts') (hx : ¬ (hd ts).kind = k) (h7 : k ≠ 7) : ¬ (hd ts').kind = k := by
  cases h with
  | last he hp hxx he' => simp [hd, hp]; omega
  | cons hk ha hr => simp [hd] at hx ⊢; rw [← ha.1]; exact hx

/-- .. or too deep. -/
def Up (p : Pt) (d : Nat) (F : Fo) (r : List Tok) (ts' : List Tok) : Prop := (∃ F' r', p (d + 1) ts' = .ok F' r' ∧ Sm F F' ∧ Brk r r') ∨ (∃ l k, p (d + 1) ts' = .bad 6 l k)
def LA (p : Pt) (d : Nat) (ts : List Tok) : Prop := ∀ F r, p d ts = .ok F r → ∀ ts', Brk ts ts' → Up p d F r ts'
def Lift (p : Pt) : Prop := ∀ d ts, LA p d ts

theorem lift_stuck : Lift stuckP := fun d ts F r e => by cases e
theorem lift_nothing : Lift nothingP := fun d ts F r e ts' h => by cases e; exact .inl ⟨.nil, ts', rfl, .nil, h⟩
theorem lift_take (x : List UInt8) : Lift (take x) := fun d ts F r e ts' h => by
  unfold take passP at e
  split at e
  · rename_i hx
    cases e
    obtain ⟨h1, h2, _⟩ := brk_yes h hx
    exact .inl ⟨.nil, ts'.tail, by unfold take passP; rw [if_pos h1], .nil, h2⟩
  · cases e
theorem lift_kind (k : Nat) (h8 : k ≠ 8) : Lift (kindP k) := fun d ts F r e ts' h => by
  unfold kindP passP at e
  split at e
  · rename_i hx
    cases e
    obtain ⟨h1, h2, _⟩ := brk_kind h (of_decide_eq_true hx) h8
    exact .inl ⟨.nil, ts'.tail, by unfold kindP passP; rw [if_pos (decide_eq_true h1)], .nil, h2⟩
  · cases e
theorem la_seq {a b : Pt} {d : Nat} {ts : List Tok} (ha : LA a d ts) (hb : Lift b) : LA (seqP a b) d ts := fun F r e ts' h => by
  obtain ⟨F1, r1, e1, e2⟩ := bind_ok e
  obtain ⟨F2, r2, e3, e4⟩ := bind_ok e2
  cases e4
  unfold Up seqP
  rcases ha _ _ e1 _ h with ⟨G1, q1, x1, s1, b1⟩ | ⟨l, k, x1⟩
  · rcases hb _ _ _ _ e3 _ b1 with ⟨G2, q2, x2, s2, b2⟩ | ⟨l, k, x2⟩
    · exact .inl ⟨G1.app G2, q2, by rw [x1]; simp [Out.bind, x2], s1.app s2, b2⟩
    · exact .inr ⟨l, k, by rw [x1]; simp [Out.bind, x2]⟩
  · exact .inr ⟨l, k, by rw [x1]; rfl⟩
theorem lift_seq {a b : Pt} (ha : Lift a) (hb : Lift b) : Lift (seqP a b) := fun d ts => la_seq (ha d ts) hb
theorem lift_ite {x : List UInt8} {a b : Pt} (h41 : x ≠ [41]) (ha : ∀ d ts, sees x ts = true → LA a d ts) (hb : Lift b) : Lift (iteP x a b) := fun d ts F r e ts' h => by
  unfold iteP at e
  unfold Up iteP
  split at e
  · rename_i hx
    obtain ⟨h1, _⟩ := brk_yes h hx
    rw [if_pos h1]
    exact ha d ts hx F r e ts' h
  · rename_i hx
    rw [if_neg (brk_no h hx h41)]
    exact hb d ts F r e ts' h
theorem la_deeper {x : List UInt8} {p : Pt} {d : Nat} {ts : List Tok} (hx : sees x ts = true) (hp : Lift p) : LA (deeperP p) d ts := fun F r e ts' h => by
  unfold deeperP at e
  split at e
  · cases e
  · rename_i h40
    unfold Up deeperP
    by_cases h : d + 1 = 40
    · exact .inr ⟨_, _, by rw [if_pos h]; rfl⟩
    · rw [if_neg h]
      rename_i hb
      exact hp _ _ _ _ e _ (brk_yes hb hx).2.1
theorem lift_within {o c : List UInt8} {p : Pt} (hp : Lift p) : Lift (withinP o c p) := fun d ts F r e ts' h => by
  unfold withinP at e
  split at e
  · rename_i hx
    have := la_seq (la_deeper (d := d) hx hp) (lift_take c) F r e ts' h
    unfold Up at this ⊢
    unfold withinP
    rw [if_pos (brk_yes h hx).1]
    exact this
  · cases e
theorem la_node {mk : List Tok → Inf} {p : Pt} {d : Nat} {ts : List Tok} (hm : ∀ ts', Brk ts ts' → (mk ts).kind = (mk ts').kind ∧ (mk ts).num = (mk ts').num ∧ (mk ts).text = (mk ts').text) (hp : LA p d ts) : LA (nodeP mk p) d ts := fun F r e ts' h => by
  obtain ⟨F1, r1, e1, e2⟩ := bind_ok e
  cases e2
  obtain ⟨m1, m2, m3⟩ := hm ts' h
  unfold Up nodeP
  rcases hp _ _ e1 _ h with ⟨G1, q1, x1, s1, b1⟩ | ⟨l, k, x1⟩
  · exact .inl ⟨_, q1, by rw [x1]; rfl, .cons m1 m2 m3 s1 .nil, b1⟩
  · exact .inr ⟨l, k, by rw [x1]; rfl⟩
theorem lift_listL {p : Pt} (hp : Lift p) (n : Nat) : Lift (listL p n) := by
  induction n with
  | zero => exact lift_stuck
  | succ n ih =>
    intro d ts F r e ts' h
    unfold listL at e
    unfold Up listL
    obtain ⟨F1, r1, e1, e2⟩ := bind_ok e
    rcases hp _ _ _ _ e1 _ h with ⟨G1, q1, x1, s1, b1⟩ | ⟨l, k, x1⟩
    · rw [x1]
      split at e2
      · rename_i hx
        obtain ⟨F2, r2, e3, e4⟩ := bind_ok e2
        cases e4
        obtain ⟨y1, y2, _⟩ := brk_yes b1 hx
        rcases ih _ _ _ _ e3 _ y2 with ⟨G2, q2, x2, s2, b2⟩ | ⟨l, k, x2⟩
        · exact .inl ⟨G1.app G2, q2, by simp [Out.bind, y1, x2], s1.app s2, b2⟩
        · exact .inr ⟨l, k, by simp [Out.bind, y1, x2]⟩
      · rename_i hx
        cases e2
        have y1 := brk_no b1 hx (by decide)
        exact .inl ⟨G1, q1, by simp [Out.bind, y1], s1, b1⟩
    · exact .inr ⟨l, k, by rw [x1]; rfl⟩
theorem ends_one {e : Tok} (h : e.kind = 8) : Ends [e] := ⟨[], e, rfl, h⟩
theorem no_end {p : Pt} (hg : Gd 0 p) (h1 : Sing p) {d : Nat} {e : Tok} (he : e.kind = 8) {F : Fo} {r : List Tok} (h : p d [e] = .ok F r) : False := by
  have hl := hg _ _ _ _ h
  obtain ⟨i, k, rfl, _⟩ := h1 _ _ _ _ h
  obtain ⟨t, l, rfl⟩ := (hl.2.1 (ends_one he)).ne
  have := hl.1
  simp [Fo.cnt] at this
  omega
theorem lift_listed {p : Pt} (hp : Lift p) (hg : Gd 0 p) (h1 : Sing p) (n : Nat) : Lift (listedP p n) := fun d ts F r e ts' h => by
  unfold listedP iteP at e
  unfold Up listedP iteP
  split at e
  · rename_i hx
    cases e
    exact .inl ⟨.nil, ts', by rw [if_pos (brk_yes h hx).1]; rfl, .nil, h⟩
  · rename_i hx
    cases h with
    | last he hpp hxx he' =>
      cases n with
      | zero => cases e
      | succ n =>
        obtain ⟨F1, r1, e1, _⟩ := bind_ok e
        exact (no_end hg h1 he e1).elim
    | @cons t t' tl tl' hk ha hr =>
      have hb := Brk.cons hk ha hr
      have hn : ¬ sees [41] (t' :: tl') = true := fun hy => hx (by
        rw [sees_iff] at hy ⊢
        rw [ha.1, ha.2.2]; exact hy)
      rw [if_neg hn]
      exact lift_listL hp n d _ F r e _ hb
theorem la_joined {p : Pt} (hp : Lift p) {S : List (List UInt8)} {F F' : Fo} (hF : Sm F F') {d : Nat} {ts r : List Tok} {G : Fo} (hs : anyS S ts = true) (e : joinedP p F d ts = .ok G r) {ts' : List Tok} (h : Brk ts ts') :
    (∃ G' r', joinedP p F' (d + 1) ts' = .ok G' r' ∧ Sm G G' ∧ Brk r r') ∨ (∃ l k, joinedP p F' (d + 1) ts' = .bad 6 l k) := by
  obtain ⟨F1, r1, e1, e2⟩ := bind_ok e
  cases e2
  obtain ⟨_, y2, y3⟩ := brk_any h hs
  unfold joinedP
  rcases hp _ _ _ _ e1 _ y2 with ⟨G1, q1, x1, s1, b1⟩ | ⟨l, k, x1⟩
  · exact .inl ⟨.cons ⟨31, (hd ts').line, (hd ts').col, opOf (hd ts').text, []⟩ (F'.app G1) .nil, q1, by rw [x1]; rfl, .cons rfl (by simp [y3.2.2]) rfl (hF.app s1) .nil, b1⟩
  · exact .inr ⟨l, k, by rw [x1]; rfl⟩
theorem la_chainL {p : Pt} (hp : Lift p) {S : List (List UInt8)} (hS : ∀ x ∈ S, x ≠ [41]) (n : Nat) : ∀ {F F' G : Fo} {d : Nat} {ts r : List Tok}, Sm F F' → chainL p S n F d ts = .ok G r → ∀ {ts' : List Tok}, Brk ts ts' →
    (∃ G' r', chainL p S n F' (d + 1) ts' = .ok G' r' ∧ Sm G G' ∧ Brk r r') ∨ (∃ l k, chainL p S n F' (d + 1) ts' = .bad 6 l k) := by
  induction n with
  | zero => intro F F' G d ts r _ e; cases e
  | succ n ih =>
    intro F F' G d ts r hF e ts' h
    unfold chainL at e ⊢
    split at e
    · rename_i hx
      rw [if_pos (brk_any h hx).1]
      obtain ⟨F1, r1, e1, e2⟩ := bind_ok e
      rcases la_joined hp hF hx e1 h with ⟨G1, q1, x1, s1, b1⟩ | ⟨l, k, x1⟩
      · rw [x1]; exact ih s1 e2 b1
      · exact .inr ⟨l, k, by rw [x1]; rfl⟩
    · rename_i hx
      cases e
      rw [if_neg (brk_none h hx hS)]
      exact .inl ⟨F', ts', rfl, hF, h⟩
theorem lift_chain {p : Pt} (hp : Lift p) (S : List (List UInt8)) (hS : ∀ x ∈ S, x ≠ [41]) (n : Nat) : Lift (chainP p S n) := fun d ts F r e ts' h => by
  obtain ⟨F1, r1, e1, e2⟩ := bind_ok e
  unfold Up chainP
  rcases hp _ _ _ _ e1 _ h with ⟨G1, q1, x1, s1, b1⟩ | ⟨l, k, x1⟩
  · rw [x1]; exact la_chainL hp hS n s1 e2 b1
  · exact .inr ⟨l, k, by rw [x1]; rfl⟩
theorem lift_pair {p : Pt} (hp : Lift p) (S : List (List UInt8)) (hS : ∀ x ∈ S, x ≠ [41]) : Lift (pairP p S) := fun d ts F r e ts' h => by
  obtain ⟨F1, r1, e1, e2⟩ := bind_ok e
  unfold Up pairP
  rcases hp _ _ _ _ e1 _ h with ⟨G1, q1, x1, s1, b1⟩ | ⟨l, k, x1⟩
  · rw [x1]
    show (∃ F' r', (if anyS S q1 = true then joinedP p G1 (d + 1) q1 else .ok G1 q1) = .ok F' r' ∧ _) ∨ (∃ l k, (if anyS S q1 = true then joinedP p G1 (d + 1) q1 else .ok G1 q1) = .bad 6 l k)
    split at e2
    · rename_i hx
      rw [if_pos (brk_any b1 hx).1]
      exact la_joined hp s1 hx e2 b1
    · rename_i hx
      cases e2
      rw [if_neg (brk_none b1 hx hS)]
      exact .inl ⟨G1, q1, rfl, s1, b1⟩
  · exact .inr ⟨l, k, by rw [x1]; rfl⟩
theorem typeK_alk {t u : Tok} (h : Alk t u) : typeK t = typeK u := by unfold typeK; rw [h.1, h.2.2]
theorem constK_alk {t u : Tok} (h : Alk t u) : constK t = constK u := by unfold constK; rw [h.1, h.2.1, h.2.2]
theorem brk_cons_of {ts ts' : List Tok} (h : Brk ts ts') (hk : (hd ts).kind ≠ 8) : Alk (hd ts) (hd ts') ∧ Brk ts.tail ts'.tail := by
  cases h with
  | last he hp hxx he' => exact absurd he hk
  | cons hk ha hr => exact ⟨ha, hr⟩
theorem lift_plainType : Lift plainTypeP := fun d ts F r e ts' h => by
  unfold plainTypeP at e
  unfold Up plainTypeP
  split at e
  · rename_i q hq
    cases e
    have hk : (hd ts).kind ≠ 8 := by have := typeK_kind hq; omega
    obtain ⟨ha, hr⟩ := brk_cons_of h hk
    rw [← typeK_alk ha, hq]
    exact .inl ⟨_, _, rfl, .cons rfl rfl rfl .nil .nil, hr⟩
  · cases e
theorem lift_const : Lift constP := fun d ts F r e ts' h => by
  unfold constP at e
  unfold Up constP
  split at e
  · rename_i q hq
    cases e
    have hk : (hd ts).kind ≠ 8 := by have := constK_kind hq; omega
    obtain ⟨ha, hr⟩ := brk_cons_of h hk
    rw [← constK_alk ha, hq]
    exact .inl ⟨_, _, rfl, .cons rfl rfl rfl .nil .nil, hr⟩
  · cases e
theorem lift_listType {p : Pt} (hp : Lift p) : Lift (listTypeP p) := fun d ts => la_node (fun ts' h => ⟨rfl, rfl, rfl⟩) (lift_within hp d ts)
theorem lift_type (n : Nat) : Lift (typeP n) := by
  induction n with
  | zero => exact lift_stuck
  | succ n ih => exact lift_ite (by decide) (fun d ts _ => lift_listType ih d ts) lift_plainType
section
variable {E : Pt} (hE : Lift E) (hg : Gd 0 E) (h1 : Sing E) (n : Nat)
include hE hg h1
theorem la_name {d : Nat} {ts : List Tok} (hk : (hd ts).kind = 1) : LA (nameP E n) d ts := fun F r e ts' h => by
  obtain ⟨hk', hr, ha⟩ := brk_kind h hk (by decide)
  unfold nameP at e
  unfold Up nameP
  split at e
  · rename_i hx
    obtain ⟨y1, _⟩ := brk_yes hr hx
    rw [if_pos y1]
    exact la_node (mk := mkX 27) (p := afterP (withinP [40] [41] (listedP E n))) (fun ts' h' => ⟨rfl, rfl, (brk_kind h' hk (by decide)).2.2.2.2⟩) (fun F r e ts' h' => lift_within (lift_listed hE hg h1 n) _ _ _ _ e _ (brk_kind h' hk (by decide)).2.1) F r e ts' h
  · rename_i hx
    cases e
    rw [if_neg (brk_no hr hx (by decide))]
    exact .inl ⟨_, _, rfl, .cons rfl rfl ha.2.2 .nil .nil, hr⟩
theorem la_make {d : Nat} {ts : List Tok} (hx : sees [109, 97, 107, 101] ts = true) : LA (makeP E n) d ts := by
  refine la_node (fun ts' h => ⟨rfl, rfl, rfl⟩) fun F r e ts' h => ?_
  obtain ⟨_, hr, _⟩ := brk_yes h hx
  simp only [afterP] at e
  simp only [Up, afterP]
  split at e
  · rename_i hk
    obtain ⟨hk', _⟩ := brk_kind hr hk (by decide)
    rw [if_pos hk']
    exact lift_seq lift_plainType (lift_within lift_nothing) _ _ _ _ e _ hr
  · rename_i hk
    rw [if_neg (brk_nkind hr hk (by decide))]
    exact lift_seq (lift_listType (lift_type n)) (lift_within hE) _ _ _ _ e _ hr
theorem lift_atom : Lift (atomP E n) := fun d ts F r e ts' h => by
  unfold atomP at e
  unfold Up atomP
  split at e
  · rename_i hx
    rw [if_pos (brk_yes h hx).1]
    exact lift_within hE _ _ _ _ e _ h
  · rename_i hx
    rw [if_neg (brk_no h hx (by decide))]
    split at e
    · rename_i hx
      rw [if_pos (brk_yes h hx).1]
      exact la_make hE hg h1 n hx _ _ e _ h
    · rename_i hx
      rw [if_neg (brk_no h hx (by decide))]
      split at e
      · rename_i hk
        rw [if_pos (brk_kind h hk (by decide)).1]
        exact la_name hE hg h1 n hk _ _ e _ h
      · rename_i hk
        rw [if_neg (brk_nkind h hk (by decide))]
        exact lift_const _ _ _ _ e _ h
theorem la_postL (m : Nat) : ∀ {F F' G : Fo} {d : Nat} {ts r : List Tok}, Sm F F' → postL E m F d ts = .ok G r → ∀ {ts' : List Tok}, Brk ts ts' →
    (∃ G' r', postL E m F' (d + 1) ts' = .ok G' r' ∧ Sm G G' ∧ Brk r r') ∨ (∃ l k, postL E m F' (d + 1) ts' = .bad 6 l k) := by
  induction m with
  | zero => intro F F' G d ts r _ e; cases e
  | succ m ih =>
    intro F F' G d ts r hF e ts' h
    unfold postL at e ⊢
    split at e
    · rename_i hx
      rw [if_pos (brk_yes h hx).1]
      obtain ⟨F1, r1, e1, e2⟩ := bind_ok e
      rcases lift_within (o := [91]) (c := [93]) hE _ _ _ _ e1 _ h with ⟨G1, q1, x1, s1, b1⟩ | ⟨l, k, x1⟩
      · rw [x1]; exact ih (F := .cons (mkK 28 ts) (F.app F1) .nil) (F' := .cons (mkK 28 ts') (F'.app G1) .nil) (.cons rfl rfl rfl (hF.app s1) .nil) e2 b1
      · exact .inr ⟨l, k, by rw [x1]; rfl⟩
    · rename_i hx
      rw [if_neg (brk_no h hx (by decide))]
      split at e
      · rename_i hx2
        obtain ⟨y1, y2, _⟩ := brk_yes h hx2
        rw [if_pos y1]
        obtain ⟨F1, r1, e1, e2⟩ := bind_ok e
        have hkn : (hd ts.tail).kind = 1 := by
          unfold kindP passP at e1
          split at e1
          · rename_i hq; exact of_decide_eq_true hq
          · cases e1
        have ha := (brk_kind y2 hkn (by decide)).2.2
        rcases lift_kind 1 (by decide) _ _ _ _ e1 _ y2 with ⟨G1, q1, x1, s1, b1⟩ | ⟨l, k, x1⟩
        · rw [show kindP 1 (d + 1) ts'.tail = .ok G1 q1 from x1]
          exact ih (F := .cons (mkY 29 ts) F .nil) (F' := .cons (mkY 29 ts') F' .nil) (.cons rfl rfl ha.2.2 hF .nil) e2 b1
        · exact .inr ⟨l, k, by rw [show kindP 1 (d + 1) ts'.tail = .bad 6 l k from x1]; rfl⟩
      · rename_i hx2
        cases e
        rw [if_neg (brk_no h hx2 (by decide))]
        exact .inl ⟨F', ts', rfl, hF, h⟩
theorem lift_post : Lift (postP E n) := fun d ts F r e ts' h => by
  obtain ⟨F1, r1, e1, e2⟩ := bind_ok e
  unfold Up postP
  rcases lift_atom hE hg h1 n _ _ _ _ e1 _ h with ⟨G1, q1, x1, s1, b1⟩ | ⟨l, k, x1⟩
  · rw [x1]; exact la_postL hE hg h1 n s1 e2 b1
  · exact .inr ⟨l, k, by rw [x1]; rfl⟩
end
theorem lift_unary {U p : Pt} (hU : Lift U) (hp : Lift p) : Lift (unaryOf U p) := fun d ts F r e ts' h => by
  unfold unaryOf at e
  unfold Up unaryOf
  split at e
  · rename_i hx
    rw [if_pos (brk_yes h hx).1]
    exact la_node (fun ts' h => ⟨rfl, rfl, rfl⟩) (la_deeper hx hU) _ _ e _ h
  · rename_i hx
    rw [if_neg (brk_no h hx (by decide))]
    split at e
    · rename_i hx
      rw [if_pos (brk_yes h hx).1]
      exact la_node (fun ts' h => ⟨rfl, rfl, rfl⟩) (la_deeper hx hU) _ _ e _ h
    · rename_i hx
      rw [if_neg (brk_no h hx (by decide))]
      exact hp _ _ _ _ e _ h
theorem lift_or {u : Pt} (h : Lift u) (n : Nat) : Lift (orP u n) :=
  lift_chain (lift_chain (lift_pair (lift_pair (lift_chain (lift_chain h _ (by decide) n) _ (by decide) n) _ (by decide)) _ (by decide)) _ (by decide) n) _ (by decide) n
theorem lift_eu (n : Nat) : Lift (exprP n) ∧ Lift (unP n) := by
  induction n with
  | zero => exact ⟨lift_stuck, lift_stuck⟩
  | succ n ih =>
    have h := lift_unary ih.2 (lift_post ih.1 (gd_expr n) (sing_expr n) (n + 1))
    exact ⟨lift_or h (n + 1), h⟩

/-- An expression in round brackets. -/
theorem in_brackets (m : Nat) {T T1 : List Tok} {F : Fo} {r : List Tok} (h : exprP m 0 T = .ok F r) (hk : (hd r).kind = 8) (hb : Brk T T1) {o : Tok} (ho : o.kind = 7) (hx : o.text = [40]) :
    (∃ F' e, exprP (m + 1) 0 (o :: T1) = .ok F' [e] ∧ e.kind = 8 ∧ Sm F F') ∨ (∃ l k, exprP (m + 1) 0 (o :: T1) = .bad 6 l k) := by
  have hs : sees [40] (o :: T1) = true := by simp [sees, seesT, hd, ho, hx]
  have hn : ∀ x, x ≠ [40] → ¬ sees x (o :: T1) = true := fun x h => by
    rw [sees_iff]
    rintro ⟨_, h2⟩
    rw [hx] at h2
    exact h h2.symm
  have key : (∃ F' e, unP (m + 1) 0 (o :: T1) = .ok F' [e] ∧ e.kind = 8 ∧ Sm F F') ∨ (∃ l k, unP (m + 1) 0 (o :: T1) = .bad 6 l k) := by
    rw [unP_succ]
    unfold unaryOf
    rw [if_neg (hn _ (by decide)), if_neg (hn _ (by decide))]
    unfold postP atomP
    rw [if_pos hs]
    unfold withinP
    rw [if_pos hs]
    unfold seqP deeperP
    rw [if_neg (by decide)]
    rcases (lift_eu m).1 0 T F r h T1 hb with ⟨F', r', x1, s1, b1⟩ | ⟨l, k, x1⟩
    · cases b1 with
      | cons hk2 ha hr => exact absurd hk hk2
      | last he hp hxx he' =>
        rename_i e0 p e'
        refine .inl ⟨F', e', ?_, he', s1⟩
        simp only [List.tail_cons] at x1 ⊢
        rw [show exprP m (0 + 1) T1 = .ok F' [p, e'] from x1]
        have ht : take [41] 0 [p, e'] = .ok .nil [e'] := by
          unfold take passP
          rw [if_pos (by simp [sees, seesT, hd, hp, hxx])]
          rfl
        simp only [Out.bind, ht, app_nil]
        unfold postL
        rw [if_neg (by simp [sees, seesT, hd, he']), if_neg (by simp [sees, seesT, hd, he'])]
    · refine .inr ⟨l, k, ?_⟩
      simp only [List.tail_cons] at x1 ⊢
      rw [show exprP m (0 + 1) T1 = .bad 6 l k from x1]
      rfl
  have nA : ∀ (S : List (List UInt8)) (e : Tok), e.kind = 8 → ¬ anyS S [e] = true := fun S e he hy => by
    obtain ⟨t, l, h1, h2⟩ := anyS_cons hy
    cases h1
    omega
  rw [exprP_succ]
  unfold orP andP equalP lessP sumP termP
  rcases key with ⟨F', e, x1, he, s1⟩ | ⟨l, k, x1⟩
  · refine .inl ⟨F', e, ?_, he, s1⟩
    simp only [chainP, pairP, x1, Out.bind, chainL, if_neg (nA _ e he)]
  · refine .inr ⟨l, k, ?_⟩
    simp only [chainP, pairP, x1, Out.bind]

end Go.Proofs.Ytbknflaooemigaa
