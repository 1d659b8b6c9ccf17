/-
  Plain facts on the grammar: each node's place is that of a token, or it is a result that is not there. Conditions: as said. Plain facts on the grammar: a fault's code is not nought; what a program's text is read as. Conditions: as said.
-/
import Derived.Test.YtbknflaooemigaaGreatGra
import Derived.Test.YtbknflaooemigaaGreatRei
namespace Go.Proofs.YtbknflaooemigaaGreat
section
set_option linter.unusedVariables false
set_option linter.unusedSimpArgs false
set_option linter.unusedSectionVars false

def Plc (ts : List Tok) (i : Inf) : Prop := (∃ t ∈ ts, t.line = i.line ∧ t.col = i.col) ∨ (i.kind = 14 ∧ i.line = 0 ∧ i.col = 0)
def All (P : Inf → Prop) : Fo → Prop
  | .nil => True
  | .cons i k r => P i ∧ All P k ∧ All P r
def Sub (r ts : List Tok) : Prop := ∀ u ∈ r, u ∈ ts
theorem Sub.refl (ts : List Tok) : Sub ts ts := fun _ h => h
theorem Sub.trans {a b c : List Tok} (h : Sub a b) (k : Sub b c) : Sub a c := fun u hu => k u (h u hu)
theorem sub_tail (ts : List Tok) : Sub ts.tail ts := fun u hu => List.mem_of_mem_tail hu
theorem All.mono {P Q : Inf → Prop} (h : ∀ i, P i → Q i) {F : Fo} (hF : All P F) : All Q F := by
  induction F with
  | nil => trivial
  | cons i k r ihk ihr => exact ⟨h i hF.1, ihk hF.2.1, ihr hF.2.2⟩
theorem All.app {P : Inf → Prop} {F G : Fo} (hF : All P F) (hG : All P G) : All P (F.app G) := by
  induction F with
  | nil => exact hG
  | cons i k r ihk ihr => exact ⟨hF.1, hF.2.1, ihr hF.2.2⟩
theorem Plc.up {a b : List Tok} (h : Sub a b) {i : Inf} (hi : Plc a i) : Plc b i := by
  rcases hi with ⟨t, ht, e⟩ | hi
  · exact .inl ⟨t, h t ht, e⟩
  · exact .inr hi
theorem All.up {a b : List Tok} (h : Sub a b) {F : Fo} (hF : All (Plc a) F) : All (Plc b) F := hF.mono fun i hi => hi.up h
theorem plc_hd {ts : List Tok} (h : ts ≠ []) {i : Inf} (h1 : i.line = (hd ts).line) (h2 : i.col = (hd ts).col) : Plc ts i := by
  cases ts with
  | nil => exact absurd rfl h
  | cons t l => exact .inl ⟨t, by simp, h1.symm, h2.symm⟩
theorem ne_sees {x : List UInt8} {ts : List Tok} (h : sees x ts = true) : ts ≠ [] := by
  obtain ⟨t, l, rfl, _⟩ := sees_cons h
  simp
theorem ne_any {S : List (List UInt8)} {ts : List Tok} (h : anyS S ts = true) : ts ≠ [] := by
  obtain ⟨t, l, rfl, _⟩ := anyS_cons h
  simp
theorem ne_kind {k : Nat} {ts : List Tok} (h : (hd ts).kind = k) (h0 : k ≠ 0) : ts ≠ [] := by
  obtain ⟨t, l, rfl, _⟩ := kind_cons h h0
  simp

def PlA (p : Pt) (d : Nat) (ts : List Tok) : Prop := ∀ F r, p d ts = .ok F r → Sub r ts ∧ All (Plc ts) F
def Pl (p : Pt) : Prop := ∀ d ts, PlA p d ts
theorem pl_stuck : Pl stuckP := fun d ts F r e => by cases e
theorem pl_nothing : Pl nothingP := fun d ts F r e => by cases e; exact ⟨Sub.refl _, trivial⟩
theorem pl_pass (q : List Tok → Bool) : Pl (passP q) := fun d ts F r e => by
  unfold passP at e
  split at e
  · cases e; exact ⟨sub_tail _, trivial⟩
  · cases e
theorem pl_take (x : List UInt8) : Pl (take x) := pl_pass _
theorem pl_kind (k : Nat) : Pl (kindP k) := pl_pass _
section
variable {a b p u E U B S : Pt}
theorem pla_seq {d : Nat} {ts : List Tok} (ha : PlA a d ts) (hb : Pl b) : PlA (seqP a b) d ts := fun F r e => by
  obtain ⟨F1, r1, e1, e2⟩ := bind_ok e
  obtain ⟨F2, r2, e3, e4⟩ := bind_ok e2
  cases e4
  obtain ⟨s1, a1⟩ := ha _ _ e1
  obtain ⟨s2, a2⟩ := hb _ _ _ _ e3
  exact ⟨s2.trans s1, a1.app (a2.up s1)⟩
theorem pl_seq (ha : Pl a) (hb : Pl b) : Pl (seqP a b) := fun d ts => pla_seq (ha d ts) hb
theorem pla_after (h : Pl p) (d : Nat) (ts : List Tok) : PlA (afterP p) d ts := fun F r e => by
  obtain ⟨s1, a1⟩ := h _ _ _ _ e
  exact ⟨s1.trans (sub_tail ts), a1.up (sub_tail ts)⟩
theorem pl_ite {x : List UInt8} (ha : ∀ d ts, sees x ts = true → PlA a d ts) (hb : Pl b) : Pl (iteP x a b) := fun d ts F r e => by
  unfold iteP at e
  split at e
  · rename_i h; exact ha d ts h F r e
  · exact hb d ts F r e
theorem pl_deeper (h : Pl p) : Pl (deeperP p) := fun d ts F r e => by
  unfold deeperP at e
  split at e
  · cases e
  · obtain ⟨s1, a1⟩ := h _ _ _ _ e
    exact ⟨s1.trans (sub_tail ts), a1.up (sub_tail ts)⟩
theorem pl_within {o c : List UInt8} (h : Pl p) : Pl (withinP o c p) := fun d ts F r e => by
  unfold withinP at e
  split at e
  · exact pl_seq (pl_deeper h) (pl_take c) d ts F r e
  · cases e
theorem within_ne {o c : List UInt8} {d : Nat} {ts : List Tok} {F : Fo} {r : List Tok} (e : withinP o c p d ts = .ok F r) : ts ≠ [] := by
  unfold withinP at e
  split at e
  · rename_i h; exact ne_sees h
  · cases e
theorem pla_node {mk : List Tok → Inf} {d : Nat} {ts : List Tok} (h : PlA p d ts) (hn : ∀ F r, p d ts = .ok F r → ts ≠ []) (h1 : (mk ts).line = (hd ts).line) (h2 : (mk ts).col = (hd ts).col) : PlA (nodeP mk p) d ts := fun F r e => by
  obtain ⟨F1, r1, e1, e2⟩ := bind_ok e
  cases e2
  obtain ⟨s1, a1⟩ := h _ _ e1
  exact ⟨s1, plc_hd (hn _ _ e1) h1 h2, a1, trivial⟩
theorem pl_until {x : List UInt8} (h : Pl p) (n : Nat) : Pl (untilP x p n) := by
  induction n with
  | zero => exact pl_stuck
  | succ n ih =>
    intro d ts F r e
    unfold untilP at e
    split at e
    · cases e; exact ⟨Sub.refl _, trivial⟩
    · obtain ⟨F1, r1, e1, e2⟩ := bind_ok e
      obtain ⟨F2, r2, e3, e4⟩ := bind_ok e2
      cases e4
      obtain ⟨s1, a1⟩ := h _ _ _ _ e1
      obtain ⟨s2, a2⟩ := ih _ _ _ _ e3
      exact ⟨s2.trans s1, a1.app (a2.up s1)⟩
theorem pl_listL (h : Pl p) (n : Nat) : Pl (listL p n) := by
  induction n with
  | zero => exact pl_stuck
  | succ n ih =>
    intro d ts F r e
    unfold listL at e
    obtain ⟨F1, r1, e1, e2⟩ := bind_ok e
    obtain ⟨s1, a1⟩ := h _ _ _ _ e1
    split at e2
    · obtain ⟨F2, r2, e3, e4⟩ := bind_ok e2
      cases e4
      obtain ⟨s2, a2⟩ := ih _ _ _ _ e3
      have s3 := (sub_tail r1).trans s1
      exact ⟨s2.trans s3, a1.app (a2.up s3)⟩
    · cases e2; exact ⟨s1, a1⟩
theorem pl_listed (h : Pl p) (n : Nat) : Pl (listedP p n) := pl_ite (fun d ts _ => pl_nothing d ts) (pl_listL h n)
theorem pl_joined (h : Pl p) {T : List (List UInt8)} {F G : Fo} {d : Nat} {ts r ts0 : List Tok} (hs : anyS T ts = true) (h0 : Sub ts ts0) (hF : All (Plc ts0) F) (e : joinedP p F d ts = .ok G r) : Sub r ts ∧ All (Plc ts0) G := by
  obtain ⟨F1, r1, e1, e2⟩ := bind_ok e
  cases e2
  obtain ⟨s1, a1⟩ := h _ _ _ _ e1
  exact ⟨s1.trans (sub_tail ts), (plc_hd (ne_any hs) rfl rfl).up h0, hF.app (a1.up ((sub_tail ts).trans h0)), trivial⟩
theorem pl_chainL (h : Pl p) {T : List (List UInt8)} (n : Nat) : ∀ {F G : Fo} {d : Nat} {ts r ts0 : List Tok}, Sub ts ts0 → All (Plc ts0) F → chainL p T n F d ts = .ok G r → Sub r ts ∧ All (Plc ts0) G := by
  induction n with
  | zero => intro F G d ts r ts0 h0 hF e; cases e
  | succ n ih =>
    intro F G d ts r ts0 h0 hF e
    unfold chainL at e
    split at e
    · rename_i hs
      obtain ⟨F1, r1, e1, e2⟩ := bind_ok e
      obtain ⟨s1, a1⟩ := pl_joined h hs h0 hF e1
      obtain ⟨s2, a2⟩ := ih (s1.trans h0) a1 e2
      exact ⟨s2.trans s1, a2⟩
    · cases e; exact ⟨Sub.refl _, hF⟩
theorem pl_chain {T : List (List UInt8)} (h : Pl p) (n : Nat) : Pl (chainP p T n) := fun d ts F r e => by
  obtain ⟨F1, r1, e1, e2⟩ := bind_ok e
  obtain ⟨s1, a1⟩ := h _ _ _ _ e1
  obtain ⟨s2, a2⟩ := pl_chainL h n s1 a1 e2
  exact ⟨s2.trans s1, a2⟩
theorem pl_pair {T : List (List UInt8)} (h : Pl p) : Pl (pairP p T) := fun d ts F r e => by
  obtain ⟨F1, r1, e1, e2⟩ := bind_ok e
  obtain ⟨s1, a1⟩ := h _ _ _ _ e1
  split at e2
  · rename_i hs
    obtain ⟨s2, a2⟩ := pl_joined h hs s1 a1 e2
    exact ⟨s2.trans s1, a2⟩
  · cases e2; exact ⟨s1, a1⟩
theorem pl_plain : Pl plainTypeP := fun d ts F r e => by
  unfold plainTypeP at e
  split at e
  · rename_i q h
    cases e
    refine ⟨sub_tail _, plc_hd ?_ rfl rfl, trivial, trivial⟩
    rcases typeK_kind h with k | k
    · exact ne_kind k (by decide)
    · exact ne_kind k (by decide)
  · cases e
theorem pl_const : Pl constP := fun d ts F r e => by
  unfold constP at e
  split at e
  · rename_i q h
    cases e
    refine ⟨sub_tail _, plc_hd ?_ rfl rfl, trivial, trivial⟩
    rcases constK_kind h with k | k | k | k
    all_goals exact ne_kind k (by decide)
  · cases e
theorem pl_listType (h : Pl p) : Pl (listTypeP p) := fun d ts => pla_node (pl_within h d ts) (fun F r e => within_ne e) rfl rfl
theorem pl_type (n : Nat) : Pl (typeP n) := by
  induction n with
  | zero => exact pl_stuck
  | succ n ih => exact pl_ite (fun d ts _ => pl_listType ih d ts) pl_plain
theorem pla_name (h : Pl E) (n : Nat) {d : Nat} {ts : List Tok} (hk : (hd ts).kind = 1) : PlA (nameP E n) d ts := fun F r e => by
  unfold nameP at e
  split at e
  · exact pla_node (pla_after (pl_within (pl_listed h n)) d ts) (fun F r _ => ne_kind hk (by decide)) rfl rfl F r e
  · cases e; exact ⟨sub_tail _, plc_hd (ne_kind hk (by decide)) rfl rfl, trivial, trivial⟩
theorem pla_make (h : Pl E) (n : Nat) {x : List UInt8} {d : Nat} {ts : List Tok} (hs : sees x ts = true) : PlA (makeP E n) d ts :=
  pla_node (pla_after (fun d ts F r e => by
    split at e
    · exact pl_seq pl_plain (pl_within pl_nothing) _ _ _ _ e
    · exact pl_seq (pl_listType (pl_type n)) (pl_within h) _ _ _ _ e) d ts) (fun F r _ => ne_sees hs) rfl rfl
theorem pl_atom (h : Pl E) (n : Nat) : Pl (atomP E n) := fun d ts F r e => by
  unfold atomP at e
  split at e
  · exact pl_within h _ _ _ _ e
  · split at e
    · rename_i hs; exact pla_make h n hs F r e
    · split at e
      · rename_i hk; exact pla_name h n hk F r e
      · exact pl_const _ _ _ _ e
theorem pl_postL (h : Pl E) (n : Nat) : ∀ {F G : Fo} {d : Nat} {ts r ts0 : List Tok}, Sub ts ts0 → All (Plc ts0) F → postL E n F d ts = .ok G r → Sub r ts ∧ All (Plc ts0) G := by
  induction n with
  | zero => intro F G d ts r ts0 h0 hF e; cases e
  | succ n ih =>
    intro F G d ts r ts0 h0 hF e
    unfold postL at e
    split at e
    · rename_i hs
      obtain ⟨F1, r1, e1, e2⟩ := bind_ok e
      obtain ⟨s1, a1⟩ := pl_within h _ _ _ _ e1
      obtain ⟨s2, a2⟩ := ih (s1.trans h0) (show All (Plc ts0) (.cons (mkK 28 ts) (F.app F1) .nil) from ⟨(plc_hd (ne_sees hs) rfl rfl).up h0, hF.app (a1.up h0), trivial⟩) e2
      exact ⟨s2.trans s1, a2⟩
    · split at e
      · rename_i hs
        obtain ⟨F1, r1, e1, e2⟩ := bind_ok e
        obtain ⟨s1, a1⟩ := pl_kind 1 _ _ _ _ e1
        have s3 := s1.trans (sub_tail ts)
        obtain ⟨s2, a2⟩ := ih (s3.trans h0) (show All (Plc ts0) (.cons (mkY 29 ts) F .nil) from ⟨(plc_hd (ne_sees hs) rfl rfl).up h0, hF, trivial⟩) e2
        exact ⟨s2.trans s3, a2⟩
      · cases e; exact ⟨Sub.refl _, hF⟩
theorem pl_post (h : Pl E) (n : Nat) : Pl (postP E n) := fun d ts F r e => by
  obtain ⟨F1, r1, e1, e2⟩ := bind_ok e
  obtain ⟨s1, a1⟩ := pl_atom h n _ _ _ _ e1
  obtain ⟨s2, a2⟩ := pl_postL h n s1 a1 e2
  exact ⟨s2.trans s1, a2⟩
theorem pl_unary (h : Pl U) (hp : Pl p) : Pl (unaryOf U p) := fun d ts F r e => by
  unfold unaryOf at e
  split at e
  · rename_i hs; exact pla_node (pl_deeper h d ts) (fun F r _ => ne_sees hs) rfl rfl F r e
  · split at e
    · rename_i hs; exact pla_node (pl_deeper h d ts) (fun F r _ => ne_sees hs) rfl rfl F r e
    · exact hp _ _ _ _ e
theorem pl_or (h : Pl u) (n : Nat) : Pl (orP u n) := pl_chain (pl_chain (pl_pair (pl_pair (pl_chain (pl_chain h n) n))) n) n
theorem pl_eu (n : Nat) : Pl (exprP n) ∧ Pl (unP n) := by
  induction n with
  | zero => exact ⟨pl_stuck, pl_stuck⟩
  | succ n ih =>
    have h : Pl (unP (n + 1)) := pl_unary ih.2 (pl_post ih.1 (n + 1))
    exact ⟨pl_or h (n + 1), h⟩
theorem pl_all {l : List Pt} (h : ∀ p ∈ l, Pl p) : Pl (seqAll l) := by
  induction l with
  | nil => exact pl_nothing
  | cons p l ih => exact pl_seq (h p (by simp)) (ih fun q hq => h q (by simp [hq]))
theorem pla_worded {k : Nat} {x : List UInt8} {l : List Pt} {d : Nat} {ts : List Tok} (hs : sees x ts = true) (hl : ∀ p ∈ l, Pl p) : PlA (wordedP k l) d ts := pla_node (pla_after (pl_all hl) d ts) (fun F r _ => ne_sees hs) rfl rfl
theorem pl_set (h : Pl E) (hG : Gd 0 E) : Pl (setP E) := fun d ts F r e => by
  obtain ⟨F1, r1, e1, e2⟩ := bind_ok e
  obtain ⟨s1, a1⟩ := h _ _ _ _ e1
  have hne : rootK F1 ≠ 0 → ts ≠ [] := fun hk hn => by
    have := (hG _ _ _ _ e1).1
    rw [hn] at this
    cases F1 with
    | nil => exact hk rfl
    | cons i a b => simp [Fo.cnt] at this
  split at e2
  · rename_i hk
    obtain ⟨F2, r2, e3, e4⟩ := bind_ok e2
    cases e4
    obtain ⟨s2, a2⟩ := pl_seq (pl_take [61]) (pl_seq h (pl_take [59])) _ _ _ _ e3
    exact ⟨s2.trans s1, plc_hd (hne (by omega)) rfl rfl, a1.app (a2.up s1), trivial⟩
  · split at e2
    · rename_i hk
      obtain ⟨F2, r2, e3, e4⟩ := bind_ok e2
      cases e4
      obtain ⟨s2, a2⟩ := pl_take _ _ _ _ _ e3
      exact ⟨s2.trans s1, plc_hd (hne (by omega)) rfl rfl, a1.app (a2.up s1), trivial⟩
    · cases e2
theorem pl_stmtOf (h : Pl E) (hG : Gd 0 E) (hB : Pl B) (n : Nat) : Pl (stmtOf E B n) := by
  refine pl_ite (fun d ts hs => pla_node (pla_after (pl_all fun p hp => ?_) d ts) (fun F r _ => ne_sees hs) rfl rfl) (pl_ite (fun d ts hs => pla_worded hs fun p hp => ?_) (pl_ite (fun d ts hs => pla_worded hs fun p hp => ?_) (pl_ite (fun d ts hs => pla_worded hs fun p hp => ?_) (pl_ite (fun d ts hs => pla_worded hs fun p hp => ?_) (pl_set h hG)))))
  · simp only [List.mem_cons, List.not_mem_nil, or_false] at hp
    rcases hp with rfl | rfl | rfl | rfl | rfl | rfl
    · exact pl_kind 1
    · exact pl_take _
    · exact pl_type n
    · exact pl_take _
    · exact h
    · exact pl_take _
  · simp only [List.mem_cons, List.not_mem_nil, or_false] at hp
    rcases hp with rfl | rfl | rfl
    · exact h
    · exact hB
    · exact pl_ite (fun d ts _ => pla_after hB d ts) pl_nothing
  · simp only [List.mem_cons, List.not_mem_nil, or_false] at hp
    rcases hp with rfl | rfl
    · exact h
    · exact hB
  · simp only [List.mem_cons, List.not_mem_nil, or_false] at hp
    rcases hp with rfl | rfl
    · exact pl_ite (fun d ts _ => pl_nothing d ts) h
    · exact pl_take _
  · simp only [List.mem_cons, List.not_mem_nil, or_false] at hp
    rcases hp with rfl | rfl
    · exact h
    · exact pl_take _
theorem pl_block (h : Pl S) (n : Nat) : Pl (blockOf S n) := fun d ts => pla_node (pl_within (pl_until h n) d ts) (fun F r e => within_ne e) rfl rfl
theorem pl_stmt (n : Nat) : Pl (stmtP n) := by
  induction n with
  | zero => exact pl_stuck
  | succ n ih => exact pl_stmtOf (pl_eu _).1 (gd_expr _) (pl_block ih n) _
theorem pl_typed (k n : Nat) : Pl (typedP k n) := fun d ts => pla_node (pl_seq (pl_kind 1) (pl_seq (pl_take [58]) (pl_seq (pl_type n) pl_nothing)) d ts) (fun F r e => by
  obtain ⟨F1, r1, e1, _⟩ := bind_ok e
  unfold kindP passP at e1
  split at e1
  · rename_i h; exact ne_kind (of_decide_eq_true h) (by decide)
  · cases e1) rfl rfl
theorem pl_field (n : Nat) : Pl (fieldP n) := pl_seq (pl_typed 3 n) (pl_take [59])
theorem pla_rec (n : Nat) {d : Nat} {ts : List Tok} (hs : sees [114, 101, 99] ts = true) : PlA (recP n) d ts :=
  pla_node (pla_after (pl_seq (pl_kind 2) (pl_within (pl_until (pl_field n) n))) d ts) (fun F r _ => ne_sees hs) rfl rfl
theorem pl_result (n : Nat) : Pl (resultP n) := fun d ts F r e => by
  unfold resultP at e
  split at e
  · obtain ⟨s1, a1⟩ := pl_type n _ _ _ _ e
    exact ⟨s1.trans (sub_tail ts), a1.up (sub_tail ts)⟩
  · cases e; exact ⟨Sub.refl _, .inr ⟨rfl, rfl, rfl⟩, trivial, trivial⟩
theorem pl_fn (n : Nat) : Pl (fnP n) := fun d ts F r e => by
  obtain ⟨F0, r0, e0, e1⟩ := bind_ok e
  obtain ⟨F1, r1, e2, e3⟩ := bind_ok e1
  obtain ⟨F2, r2, e4, e5⟩ := bind_ok e3
  cases e5
  obtain ⟨s0, _⟩ := pl_take _ _ _ _ _ e0
  obtain ⟨s1, a1⟩ := pl_seq (pl_kind 1) (pl_within (pl_listed (pl_typed 5 n) n)) _ _ _ _ e2
  obtain ⟨s2, a2⟩ := pl_seq (pl_result n) (pl_block (pl_stmt n) n) _ _ _ _ e4
  have hne : ts ≠ [] := by
    unfold take passP at e0
    split at e0
    · rename_i h; exact ne_sees h
    · cases e0
  exact ⟨s2.trans (s1.trans s0), plc_hd hne rfl rfl, (a1.up s0).app (a2.up (s1.trans s0)), trivial⟩
theorem pl_decl (n : Nat) : Pl (declP n) := pl_ite (fun d ts hs => pla_rec n hs) (pl_fn n)
theorem pl_progL (h : Pl p) (n : Nat) : Pl (progL p n) := by
  induction n with
  | zero => exact pl_stuck
  | succ n ih =>
    intro d ts F r e
    unfold progL at e
    split at e
    · cases e; exact ⟨Sub.refl _, trivial⟩
    · obtain ⟨F1, r1, e1, e2⟩ := bind_ok e
      obtain ⟨F2, r2, e3, e4⟩ := bind_ok e2
      cases e4
      obtain ⟨s1, a1⟩ := h _ _ _ _ e1
      obtain ⟨s2, a2⟩ := ih _ _ _ _ e3
      exact ⟨s2.trans s1, a1.app (a2.up s1)⟩
end

/-- Each node's place, as a row has it. -/
theorem all_pre {P : Inf → Prop} {F : Fo} (h : All P F) : ∀ x ∈ F.pre, ∃ i m, P i ∧ x = i.nd m := by
  induction F with
  | nil => intro x hx; simp [Fo.pre] at hx
  | cons i k r ihk ihr =>
    intro x hx
    simp only [Fo.pre, List.mem_cons, List.mem_append] at hx
    rcases hx with rfl | hx | hx
    · exact ⟨i, _, h.1, rfl⟩
    · exact ihk h.2.1 x hx
    · exact ihr h.2.2 x hx

/-- A program's nodes: the first at 1 1; each other at a token, or a result that is not there. -/
theorem prog_places {n d : Nat} {T r : List Tok} {F : Fo} (e : progP n d T = .ok F r) : ∃ x l, F.pre = x :: l ∧ x.line = 1 ∧ x.col = 1 ∧ ∀ y ∈ l, (∃ t ∈ T, (t.line : Int) = y.line ∧ (t.col : Int) = y.col) ∨ (y.kind = 14 ∧ y.line = 0 ∧ y.col = 0) := by
  obtain ⟨F1, r1, e1, e2⟩ := bind_ok e
  cases e2
  obtain ⟨_, a1⟩ := pl_progL (pl_decl n) n _ _ _ _ e1
  refine ⟨_, _, rfl, rfl, rfl, fun y hy => ?_⟩
  simp only [Fo.pre, List.append_nil] at hy
  obtain ⟨i, m, hi, rfl⟩ := all_pre a1 y hy
  rcases hi with ⟨t, ht, h1, h2⟩ | ⟨h0, h1, h2⟩
  · exact .inl ⟨t, ht, by simp [Inf.nd, h1], by simp [Inf.nd, h2]⟩
  · exact .inr ⟨by simp [Inf.nd, h0], by simp [Inf.nd, h1], by simp [Inf.nd, h2]⟩
end
end Go.Proofs.YtbknflaooemigaaGreat

namespace Go.Proofs.YtbknflaooemigaaGreat
section
set_option linter.unusedVariables false
set_option linter.unusedSimpArgs false

def Ok0 : Out → Prop
  | .ok _ _ => True
  | .bad c _ _ => c ≠ 0
def Cod (p : Pt) : Prop := ∀ d ts, Ok0 (p d ts)
theorem ok0_bind {o : Out} {f : Fo → List Tok → Out} (h : Ok0 o) (h2 : ∀ F r, Ok0 (f F r)) : Ok0 (o.bind f) := by
  cases o with
  | ok F r => exact h2 F r
  | bad c l k => exact h
theorem ok0_ite {c : Prop} [Decidable c] {a b : Out} (ha : Ok0 a) (hb : Ok0 b) : Ok0 (if c then a else b) := by split <;> assumption
theorem ok0_5 (ts : List Tok) : Ok0 (badAt 5 ts) := show (5 : Int) ≠ 0 by decide
theorem ok0_6 (ts : List Tok) : Ok0 (badAt 6 ts) := show (6 : Int) ≠ 0 by decide
theorem cod_stuck : Cod stuckP := fun d ts => show (5 : Int) ≠ 0 by decide
theorem cod_nothing : Cod nothingP := fun d ts => trivial
theorem cod_pass (q : List Tok → Bool) : Cod (passP q) := fun d ts => ok0_ite trivial (ok0_5 ts)
theorem cod_take (x : List UInt8) : Cod (take x) := cod_pass _
theorem cod_kind (k : Nat) : Cod (kindP k) := cod_pass _
section
variable {a b p u E U B S : Pt}
theorem cod_seq (ha : Cod a) (hb : Cod b) : Cod (seqP a b) := fun d ts => ok0_bind (ha d ts) fun F r => ok0_bind (hb d r) fun _ _ => trivial
theorem cod_after (h : Cod p) : Cod (afterP p) := fun d ts => h d _
theorem cod_ite {x : List UInt8} (ha : Cod a) (hb : Cod b) : Cod (iteP x a b) := fun d ts => ok0_ite (ha d ts) (hb d ts)
theorem cod_deeper (h : Cod p) : Cod (deeperP p) := fun d ts => ok0_ite (ok0_6 ts) (h _ _)
theorem cod_within {o c : List UInt8} (h : Cod p) : Cod (withinP o c p) := fun d ts => ok0_ite (cod_seq (cod_deeper h) (cod_take c) d ts) (ok0_5 ts)
theorem cod_node {mk : List Tok → Inf} (h : Cod p) : Cod (nodeP mk p) := fun d ts => ok0_bind (h d ts) fun _ _ => trivial
theorem cod_until {x : List UInt8} (h : Cod p) (n : Nat) : Cod (untilP x p n) := by
  induction n with
  | zero => exact cod_stuck
  | succ n ih => exact fun d ts => ok0_ite trivial (ok0_bind (h d ts) fun F r => ok0_bind (ih d r) fun _ _ => trivial)
theorem cod_listL (h : Cod p) (n : Nat) : Cod (listL p n) := by
  induction n with
  | zero => exact cod_stuck
  | succ n ih => exact fun d ts => ok0_bind (h d ts) fun F r => ok0_ite (ok0_bind (ih d _) fun _ _ => trivial) trivial
theorem cod_listed (h : Cod p) (n : Nat) : Cod (listedP p n) := cod_ite cod_nothing (cod_listL h n)
theorem cod_joined (h : Cod p) (F : Fo) : Cod (joinedP p F) := fun d ts => ok0_bind (h d _) fun _ _ => trivial
theorem cod_chainL {T : List (List UInt8)} (h : Cod p) (n : Nat) : ∀ F, Cod (chainL p T n F) := by
  induction n with
  | zero => exact fun F => cod_stuck
  | succ n ih => exact fun F d ts => ok0_ite (ok0_bind (cod_joined h F d ts) fun G r => ih G d r) trivial
theorem cod_chain {T : List (List UInt8)} (h : Cod p) (n : Nat) : Cod (chainP p T n) := fun d ts => ok0_bind (h d ts) fun F r => cod_chainL h n F d r
theorem cod_pair {T : List (List UInt8)} (h : Cod p) : Cod (pairP p T) := fun d ts => ok0_bind (h d ts) fun F r => ok0_ite (cod_joined h F d r) trivial
theorem cod_plain : Cod plainTypeP := fun d ts => by
  unfold plainTypeP
  split
  · trivial
  · exact ok0_5 ts
theorem cod_const : Cod constP := fun d ts => by
  unfold constP
  split
  · trivial
  · exact ok0_5 ts
theorem cod_listType (h : Cod p) : Cod (listTypeP p) := cod_node (cod_within h)
theorem cod_type (n : Nat) : Cod (typeP n) := by
  induction n with
  | zero => exact cod_stuck
  | succ n ih => exact cod_ite (cod_listType ih) cod_plain
theorem cod_name (h : Cod E) (n : Nat) : Cod (nameP E n) := fun d ts => ok0_ite (cod_node (cod_after (cod_within (cod_listed h n))) d ts) trivial
theorem cod_make (h : Cod E) (n : Nat) : Cod (makeP E n) := cod_node (cod_after fun d ts => ok0_ite (cod_seq cod_plain (cod_within cod_nothing) d ts) (cod_seq (cod_listType (cod_type n)) (cod_within h) d ts))
theorem cod_atom (h : Cod E) (n : Nat) : Cod (atomP E n) := fun d ts => ok0_ite (cod_within h d ts) (ok0_ite (cod_make h n d ts) (ok0_ite (cod_name h n d ts) (cod_const d ts)))
theorem cod_postL (h : Cod E) (n : Nat) : ∀ F, Cod (postL E n F) := by
  induction n with
  | zero => exact fun F => cod_stuck
  | succ n ih => exact fun F d ts => ok0_ite (ok0_bind (cod_within h d ts) fun G r => ih _ d r) (ok0_ite (ok0_bind (cod_kind 1 d _) fun G r => ih _ d r) trivial)
theorem cod_post (h : Cod E) (n : Nat) : Cod (postP E n) := fun d ts => ok0_bind (cod_atom h n d ts) fun F r => cod_postL h n F d r
theorem cod_unary (h : Cod U) (hp : Cod p) : Cod (unaryOf U p) := fun d ts => ok0_ite (cod_node (cod_deeper h) d ts) (ok0_ite (cod_node (cod_deeper h) d ts) (hp d ts))
theorem cod_or (h : Cod u) (n : Nat) : Cod (orP u n) := cod_chain (cod_chain (cod_pair (cod_pair (cod_chain (cod_chain h n) n))) n) n
theorem cod_eu (n : Nat) : Cod (exprP n) ∧ Cod (unP n) := by
  induction n with
  | zero => exact ⟨cod_stuck, cod_stuck⟩
  | succ n ih =>
    have h : Cod (unP (n + 1)) := cod_unary ih.2 (cod_post ih.1 (n + 1))
    exact ⟨cod_or h (n + 1), h⟩
theorem cod_all {l : List Pt} (h : ∀ p ∈ l, Cod p) : Cod (seqAll l) := by
  induction l with
  | nil => exact cod_nothing
  | cons p l ih => exact cod_seq (h p (by simp)) (ih fun q hq => h q (by simp [hq]))
theorem cod_worded {k : Nat} {l : List Pt} (hl : ∀ p ∈ l, Cod p) : Cod (wordedP k l) := cod_node (cod_after (cod_all hl))
theorem cod_set (h : Cod E) : Cod (setP E) := fun d ts => ok0_bind (h d ts) fun F r => ok0_ite (ok0_bind (cod_seq (cod_take _) (cod_seq h (cod_take _)) d r) fun _ _ => trivial) (ok0_ite (ok0_bind (cod_take _ d r) fun _ _ => trivial) (ok0_5 r))
theorem cod_else (h : Cod B) : Cod (elseP B) := cod_ite (cod_after h) cod_nothing
theorem cod_answer (h : Cod E) : Cod (answerP E) := cod_ite cod_nothing h
theorem cod_stmtOf (h : Cod E) (hB : Cod B) (n : Nat) : Cod (stmtOf E B n) := by
  refine cod_ite (cod_node (cod_after (cod_all fun p hp => ?_))) (cod_ite (cod_worded fun p hp => ?_) (cod_ite (cod_worded fun p hp => ?_) (cod_ite (cod_worded fun p hp => ?_) (cod_ite (cod_worded fun p hp => ?_) (cod_set h)))))
  all_goals simp only [List.mem_cons, List.not_mem_nil, or_false] at hp
  · rcases hp with rfl | rfl | rfl | rfl | rfl | rfl
    · exact cod_kind 1
    · exact cod_take _
    · exact cod_type n
    · exact cod_take _
    · exact h
    · exact cod_take _
  · rcases hp with rfl | rfl | rfl
    · exact h
    · exact hB
    · exact cod_else hB
  · rcases hp with rfl | rfl
    · exact h
    · exact hB
  · rcases hp with rfl | rfl
    · exact cod_answer h
    · exact cod_take _
  · rcases hp with rfl | rfl
    · exact h
    · exact cod_take _
theorem cod_block (h : Cod S) (n : Nat) : Cod (blockOf S n) := cod_node (cod_within (cod_until h n))
theorem cod_stmt (n : Nat) : Cod (stmtP n) := by
  induction n with
  | zero => exact cod_stuck
  | succ n ih => exact cod_stmtOf (cod_eu _).1 (cod_block ih n) _
theorem cod_typed (k n : Nat) : Cod (typedP k n) := cod_node (cod_seq (cod_kind 1) (cod_seq (cod_take [58]) (cod_seq (cod_type n) cod_nothing)))
theorem cod_rec (n : Nat) : Cod (recP n) := cod_node (cod_after (cod_seq (cod_kind 2) (cod_within (cod_until (cod_seq (cod_typed 3 n) (cod_take [59])) n))))
theorem cod_result (n : Nat) : Cod (resultP n) := fun d ts => ok0_ite (cod_type n d _) trivial
theorem cod_fn (n : Nat) : Cod (fnP n) := fun d ts => ok0_bind (cod_take _ d ts) fun _ r => ok0_bind (cod_seq (cod_kind 1) (cod_within (cod_listed (cod_typed 5 n) n)) d r) fun F r1 => ok0_bind (cod_seq (cod_result n) (cod_block (cod_stmt n) n) d r1) fun _ _ => trivial
theorem cod_decl (n : Nat) : Cod (declP n) := cod_ite (cod_rec n) (cod_fn n)
theorem cod_progL (h : Cod p) (n : Nat) : Cod (progL p n) := by
  induction n with
  | zero => exact cod_stuck
  | succ n ih => exact fun d ts => ok0_ite trivial (ok0_bind (h d ts) fun F r => ok0_bind (ih d r) fun _ _ => trivial)
theorem cod_prog (n : Nat) : Cod (progP n) := fun d ts => ok0_bind (cod_progL (cod_decl n) n d ts) fun _ _ => trivial
end
theorem cod_whole {p : Pt} (h : Cod p) (ts : List Tok) : Ok0 (wholeP p ts) := ok0_bind (h 0 ts) fun F r => ok0_ite trivial (ok0_5 r)


/-- Where a node stands: at 1 1 as the first, as a result that is not there, or at a token. -/
def There (L : List Nd) (T : List Tok) (i : Nat) : Prop := (i = 0 → (nd L i).line = 1 ∧ (nd L i).col = 1) ∧ (i ≠ 0 → ((nd L i).kind = 14 ∧ (nd L i).line = 0 ∧ (nd L i).col = 0) ∨ ∃ (m : Nat) (t : Tok), T[m]? = some t ∧ (t.line : Int) = (nd L i).line ∧ (t.col : Int) = (nd L i).col)

theorem read_places (s : List UInt8) (hs : s.length ≤ 65536) : ((readA progP s).2.1 ≠ 0 ∧ (readA progP s).1 = []) ∨ (∃ T L, toks s 1 1 = .ok T ∧ Ends T ∧ T.length ≤ s.length + 1 ∧ readA progP s = (L, (0, 0, 0)) ∧ 0 < L.length ∧ ∀ i, i < L.length → There L T i) := by
  have hl : ¬ 65536 < s.length := by omega
  unfold readA
  rw [if_neg hl]
  cases hT : toks s 1 1 with
  | error f => exact .inl ⟨(toks_ok s 1 1).2 f hT, rfl⟩
  | ok T =>
    obtain ⟨hE, hlen⟩ := (toks_ok s 1 1).1 T hT
    have hc := cod_whole (cod_prog T.length) T
    simp only
    cases hw : wholeP (progP T.length) T with
    | bad c l k => rw [hw] at hc; exact .inl ⟨hc, rfl⟩
    | ok F r =>
      obtain ⟨F0, r0, e2, e3⟩ := bind_ok hw
      split at e3
      · cases e3
        obtain ⟨x, l, hp, h1, h2, h3⟩ := prog_places e2
        refine .inr ⟨T, F.pre, rfl, hE, hlen, rfl, by rw [hp]; simp, fun i hi => ?_⟩
        rw [hp] at hi ⊢
        cases i with
        | zero => exact ⟨fun _ => ⟨h1, h2⟩, fun h => absurd rfl h⟩
        | succ i =>
          have hi' : i < l.length := by simpa using hi
          have e : nd (x :: l) (i + 1) = l[i] := by unfold nd; rw [List.getD_eq_getElem?_getD]; simp [hi']
          unfold There
          rw [e]
          refine ⟨fun h => absurd h (by omega), fun _ => ?_⟩
          rcases h3 l[i] (List.getElem_mem hi') with ⟨t, ht, h4, h5⟩ | h4
          · obtain ⟨m, hm⟩ := List.mem_iff_getElem?.1 ht
            exact .inr ⟨m, t, hm, h4, h5⟩
          · exact .inl h4
      · cases e3
end
end Go.Proofs.YtbknflaooemigaaGreat
