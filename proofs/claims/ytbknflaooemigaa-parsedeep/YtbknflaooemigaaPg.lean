/-
  Plain facts on the grammar: what is left is a part of what there was, no more nodes are made than tokens are gone over, expressions are one tree each. Conditions: as said.
-/
import Derived.Test.YtbknflaooemigaaPm
namespace Go.Proofs.Ytbknflaooemigaa
set_option linter.unusedVariables false

def Ends (ts : List Tok) : Prop := ∃ a e, ts = a ++ [e] ∧ e.kind = 8

theorem Ends.ne {ts : List Tok} (h : Ends ts) : ∃ t l, ts = t :: l := by
  obtain ⟨a, e, rfl, _⟩ := h
  cases a with
  | nil => exact ⟨e, [], rfl⟩
  | cons t l => exact ⟨t, l ++ [e], rfl⟩
theorem Ends.tl {t : Tok} {l : List Tok} (h : Ends (t :: l)) (hk : t.kind ≠ 8) : Ends l := by
  obtain ⟨a, e, ha, he⟩ := h
  cases a with
  | nil => simp at ha; rw [ha.1] at hk; exact absurd he hk
  | cons u m => simp at ha; exact ⟨m, e, ha.2, he⟩

theorem bind_ok {o : Out} {f : Fo → List Tok → Out} {G : Fo} {r : List Tok} (h : o.bind f = .ok G r) : ∃ F r1, o = .ok F r1 ∧ f F r1 = .ok G r := by
  cases o with
  | ok F r1 => exact ⟨F, r1, rfl, h⟩
  | bad c l k => cases h

theorem sees_cons {x : List UInt8} {ts : List Tok} (h : sees x ts = true) : ∃ t l, ts = t :: l ∧ (t.kind = 6 ∨ t.kind = 7) ∧ t.text = x := by
  cases ts with
  | nil => simp [sees, seesT, hd, tok0] at h
  | cons t l => simp [sees, seesT, hd] at h; exact ⟨t, l, rfl, h⟩
theorem anyS_cons {S : List (List UInt8)} {ts : List Tok} (h : anyS S ts = true) : ∃ t l, ts = t :: l ∧ (t.kind = 6 ∨ t.kind = 7) := by
  obtain ⟨x, _, hx⟩ := List.any_eq_true.1 h
  obtain ⟨t, l, h1, h2, _⟩ := sees_cons hx
  exact ⟨t, l, h1, h2⟩
theorem kind_cons {k : Nat} {ts : List Tok} (h : (hd ts).kind = k) (hk : k ≠ 0) : ∃ t l, ts = t :: l ∧ t.kind = k := by
  cases ts with
  | nil => simp [hd, tok0] at h; omega
  | cons t l => exact ⟨t, l, rfl, h⟩

/-- Of what is left: so much less than there was; it ends as that did; its tokens were there. -/
def Lft (n : Nat) (ts : List Tok) (r : List Tok) : Prop := n + r.length ≤ ts.length ∧ (Ends ts → Ends r) ∧ ∀ t ∈ r, t ∈ ts
theorem Lft.refl (ts : List Tok) : Lft 0 ts ts := ⟨by omega, id, fun _ h => h⟩
theorem Lft.trans {m n : Nat} {a b c : List Tok} (h : Lft m a b) (k : Lft n b c) : Lft (m + n) a c := ⟨by have := h.1; have := k.1; omega, fun e => k.2.1 (h.2.1 e), fun t ht => h.2.2 t (k.2.2 t ht)⟩
theorem Lft.mono {m n : Nat} {a b : List Tok} (h : Lft m a b) (hn : n ≤ m) : Lft n a b := ⟨by have := h.1; omega, h.2⟩
theorem Lft.tail {t : Tok} {l : List Tok} (h : t.kind ≠ 8) : Lft 1 (t :: l) l := ⟨by simp; omega, fun e => e.tl h, fun u hu => by simp [hu]⟩
theorem lft_sees {x : List UInt8} {ts : List Tok} (h : sees x ts = true) : Lft 1 ts ts.tail := by
  obtain ⟨t, l, rfl, hk, _⟩ := sees_cons h
  exact Lft.tail (by omega)
theorem lft_any {S : List (List UInt8)} {ts : List Tok} (h : anyS S ts = true) : Lft 1 ts ts.tail := by
  obtain ⟨t, l, rfl, hk⟩ := anyS_cons h
  exact Lft.tail (by omega)
theorem lft_kind {k : Nat} {ts : List Tok} (h : (hd ts).kind = k) (h0 : k ≠ 0) (h8 : k ≠ 8) : Lft 1 ts ts.tail := by
  obtain ⟨t, l, rfl, hk⟩ := kind_cons h h0
  exact Lft.tail (by omega)

def GA (s : Nat) (p : Pt) (d : Nat) (ts : List Tok) : Prop := ∀ F r, p d ts = .ok F r → Lft (F.cnt + s) ts r
def Gd (s : Nat) (p : Pt) : Prop := ∀ d ts, GA s p d ts

theorem Gd.mono {s s' : Nat} {p : Pt} (h : Gd s p) (hs : s' ≤ s) : Gd s' p := fun d ts F r e => (h d ts F r e).mono (by omega)
theorem gd_stuck (s : Nat) : Gd s stuckP := fun d ts F r e => by cases e
theorem gd_nothing : Gd 0 nothingP := fun d ts F r e => by cases e; exact Lft.refl _
theorem gd_take (x : List UInt8) : Gd 1 (take x) := fun d ts F r e => by
  unfold take passP at e
  split at e
  · rename_i h; cases e; exact lft_sees h
  · cases e
theorem gd_kind (k : Nat) (h0 : k ≠ 0) (h8 : k ≠ 8) : Gd 1 (kindP k) := fun d ts F r e => by
  unfold kindP passP at e
  split at e
  · rename_i h; cases e; exact lft_kind (of_decide_eq_true h) h0 h8
  · cases e
theorem ga_seq {s s' : Nat} {a b : Pt} {d : Nat} {ts : List Tok} (ha : GA s a d ts) (hb : Gd s' b) : GA (s + s') (seqP a b) d ts := fun F r e => by
  obtain ⟨F1, r1, e1, e2⟩ := bind_ok e
  obtain ⟨F2, r2, e3, e4⟩ := bind_ok e2
  cases e4
  rw [cnt_app]
  exact ((ha _ _ e1).trans (hb _ _ _ _ e3)).mono (by omega)
theorem gd_seq {s s' : Nat} {a b : Pt} (ha : Gd s a) (hb : Gd s' b) : Gd (s + s') (seqP a b) := fun d ts => ga_seq (ha d ts) hb
theorem gd_ite {s : Nat} {x : List UInt8} {a b : Pt} (ha : ∀ d ts, sees x ts = true → GA s a d ts) (hb : Gd s b) : Gd s (iteP x a b) := fun d ts F r e => by
  unfold iteP at e
  split at e
  · rename_i h; exact ha d ts h F r e
  · exact hb d ts F r e
theorem ga_after {s : Nat} {x : List UInt8} {p : Pt} {d : Nat} {ts : List Tok} (h : sees x ts = true) (hp : Gd s p) : GA (s + 1) (afterP p) d ts := fun F r e => ((lft_sees h).trans (hp _ _ _ _ e)).mono (by omega)
theorem ga_node {s : Nat} {mk : List Tok → Inf} {p : Pt} {d : Nat} {ts : List Tok} (h : GA (s + 1) p d ts) : GA s (nodeP mk p) d ts := fun F r e => by
  obtain ⟨F1, r1, e1, e2⟩ := bind_ok e
  cases e2
  exact (h _ _ e1).mono (by simp [Fo.cnt]; omega)
theorem ga_deeper {s : Nat} {x : List UInt8} {p : Pt} {d : Nat} {ts : List Tok} (h : sees x ts = true) (hp : Gd s p) : GA (s + 1) (deeperP p) d ts := fun F r e => by
  unfold deeperP at e
  split at e
  · cases e
  · exact ((lft_sees h).trans (hp _ _ _ _ e)).mono (by omega)
theorem gd_within {s : Nat} {o c : List UInt8} {p : Pt} (hp : Gd s p) : Gd (s + 2) (withinP o c p) := fun d ts F r e => by
  unfold withinP at e
  split at e
  · rename_i h
    have := ga_seq (ga_deeper (d := d) h hp) (gd_take c) F r e
    exact this.mono (by omega)
  · cases e
theorem gd_until {x : List UInt8} {p : Pt} (hp : Gd 0 p) (n : Nat) : Gd 0 (untilP x p n) := by
  induction n with
  | zero => exact gd_stuck 0
  | succ n ih =>
    intro d ts F r e
    unfold untilP at e
    split at e
    · cases e; exact Lft.refl _
    · obtain ⟨F1, r1, e1, e2⟩ := bind_ok e
      obtain ⟨F2, r2, e3, e4⟩ := bind_ok e2
      cases e4
      rw [cnt_app]
      exact ((hp _ _ _ _ e1).trans (ih _ _ _ _ e3)).mono (by omega)
theorem gd_listL {p : Pt} (hp : Gd 0 p) (n : Nat) : Gd 0 (listL p n) := by
  induction n with
  | zero => exact gd_stuck 0
  | succ n ih =>
    intro d ts F r e
    unfold listL at e
    obtain ⟨F1, r1, e1, e2⟩ := bind_ok e
    split at e2
    · rename_i h
      obtain ⟨F2, r2, e3, e4⟩ := bind_ok e2
      cases e4
      rw [cnt_app]
      exact (((hp _ _ _ _ e1).trans (lft_sees h)).trans (ih _ _ _ _ e3)).mono (by omega)
    · cases e2; exact hp _ _ _ _ e1
theorem gd_listed {p : Pt} (hp : Gd 0 p) (n : Nat) : Gd 0 (listedP p n) := gd_ite (fun d ts _ => gd_nothing d ts) (gd_listL hp n)
theorem joined_lft {p : Pt} (hp : Gd 0 p) {S : List (List UInt8)} {F G : Fo} {d : Nat} {ts r : List Tok} (hs : anyS S ts = true) (e : joinedP p F d ts = .ok G r) : ∃ n, Lft n ts r ∧ G.cnt = F.cnt + n := by
  obtain ⟨F1, r1, e1, e2⟩ := bind_ok e
  cases e2
  exact ⟨F1.cnt + 1, ((lft_any hs).trans (hp _ _ _ _ e1)).mono (by omega), by simp [Fo.cnt, cnt_app]; omega⟩
theorem chainL_lft {p : Pt} (hp : Gd 0 p) {S : List (List UInt8)} (n : Nat) : ∀ {F G : Fo} {d : Nat} {ts r : List Tok}, chainL p S n F d ts = .ok G r → ∃ n, Lft n ts r ∧ G.cnt = F.cnt + n := by
  induction n with
  | zero => intro F G d ts r e; cases e
  | succ n ih =>
    intro F G d ts r e
    unfold chainL at e
    split at e
    · rename_i h
      obtain ⟨F1, r1, e1, e2⟩ := bind_ok e
      obtain ⟨n1, l1, c1⟩ := joined_lft hp h e1
      obtain ⟨n2, l2, c2⟩ := ih e2
      exact ⟨n1 + n2, l1.trans l2, by omega⟩
    · cases e; exact ⟨0, Lft.refl _, rfl⟩
theorem gd_chain {p : Pt} (hp : Gd 0 p) (S : List (List UInt8)) (n : Nat) : Gd 0 (chainP p S n) := fun d ts F r e => by
  obtain ⟨F1, r1, e1, e2⟩ := bind_ok e
  obtain ⟨m, l, c⟩ := chainL_lft hp n e2
  exact ((hp _ _ _ _ e1).trans l).mono (by omega)
theorem gd_pair {p : Pt} (hp : Gd 0 p) (S : List (List UInt8)) : Gd 0 (pairP p S) := fun d ts F r e => by
  obtain ⟨F1, r1, e1, e2⟩ := bind_ok e
  split at e2
  · rename_i h
    obtain ⟨m, l, c⟩ := joined_lft hp h e2
    exact ((hp _ _ _ _ e1).trans l).mono (by omega)
  · cases e2; exact hp _ _ _ _ e1
theorem typeK_kind {t : Tok} {q} (h : typeK t = some q) : t.kind = 2 ∨ t.kind = 6 := by
  unfold typeK at h
  split at h
  · left; assumption
  · split at h
    · cases h
    · right; simp_all
theorem gd_plainType : Gd 0 plainTypeP := fun d ts F r e => by
  unfold plainTypeP at e
  split at e
  · rename_i q h
    cases e
    rcases typeK_kind h with k | k
    · exact (lft_kind k (by decide) (by decide)).mono (by simp [Fo.cnt])
    · exact (lft_kind k (by decide) (by decide)).mono (by simp [Fo.cnt])
  · cases e
theorem gd_listType {p : Pt} (hp : Gd 0 p) : Gd 1 (listTypeP p) := fun d ts => ga_node (gd_within hp d ts)
theorem gd_type (n : Nat) : Gd 0 (typeP n) := by
  induction n with
  | zero => exact gd_stuck 0
  | succ n ih => exact gd_ite (fun d ts _ => (gd_listType ih).mono (by omega) d ts) gd_plainType
theorem constK_kind {t : Tok} {q} (h : constK t = some q) : t.kind = 3 ∨ t.kind = 4 ∨ t.kind = 5 ∨ t.kind = 6 := by
  unfold constK at h
  split at h
  · left; assumption
  · split at h
    · right; left; assumption
    · split at h
      · right; right; left; assumption
      · split at h
        · cases h
        · right; right; right; simp_all
theorem gd_const : Gd 0 constP := fun d ts F r e => by
  unfold constP at e
  split at e
  · rename_i q h
    cases e
    rcases constK_kind h with k | k | k | k
    all_goals exact (lft_kind k (by decide) (by decide)).mono (by simp [Fo.cnt])
  · cases e
section
variable {E : Pt} (hE : Gd 0 E) (n : Nat)
include hE
theorem ga_name {d : Nat} {ts : List Tok} (h : (hd ts).kind = 1) : GA 0 (nameP E n) d ts := fun F r e => by
  have ht := lft_kind h (by decide) (by decide)
  unfold nameP at e
  split at e
  · obtain ⟨F1, r1, e1, e2⟩ := bind_ok e
    cases e2
    exact (ht.trans (gd_within (gd_listed hE n) _ _ _ _ e1)).mono (by simp [Fo.cnt]; omega)
  · cases e; exact ht.mono (by simp [Fo.cnt])
theorem ga_make {d : Nat} {ts : List Tok} (h : sees [109, 97, 107, 101] ts = true) : GA 0 (makeP E n) d ts := by
  refine ga_node (ga_after (s := 0) h fun d ts F r e => ?_)
  split at e
  · exact (gd_seq gd_plainType (gd_within gd_nothing) _ _ _ _ e).mono (by omega)
  · exact (gd_seq (gd_listType (gd_type n)) (gd_within hE) _ _ _ _ e).mono (by omega)
theorem gd_atom : Gd 0 (atomP E n) := fun d ts F r e => by
  unfold atomP at e
  split at e
  · exact (gd_within hE _ _ _ _ e).mono (by omega)
  · split at e
    · rename_i h; exact ga_make hE n h F r e
    · split at e
      · rename_i h; exact ga_name hE n h F r e
      · exact gd_const _ _ _ _ e
theorem postL_lft (m : Nat) : ∀ {F G : Fo} {d : Nat} {ts r : List Tok}, postL E m F d ts = .ok G r → ∃ k, Lft k ts r ∧ G.cnt = F.cnt + k := by
  induction m with
  | zero => intro F G d ts r e; cases e
  | succ m ih =>
    intro F G d ts r e
    unfold postL at e
    split at e
    · obtain ⟨F1, r1, e1, e2⟩ := bind_ok e
      obtain ⟨k, l, c⟩ := ih e2
      exact ⟨F1.cnt + 1 + k, (((gd_within hE _ _ _ _ e1).mono (n := F1.cnt + 1) (by omega)).trans l), by simp [Fo.cnt, cnt_app] at c; omega⟩
    · split at e
      · rename_i h
        obtain ⟨F1, r1, e1, e2⟩ := bind_ok e
        obtain ⟨k, l, c⟩ := ih e2
        exact ⟨1 + k, (((lft_sees h).trans (gd_kind 1 (by decide) (by decide) _ _ _ _ e1)).mono (n := 1) (by omega)).trans l, by simp [Fo.cnt] at c; omega⟩
      · cases e; exact ⟨0, Lft.refl _, rfl⟩
theorem gd_post : Gd 0 (postP E n) := fun d ts F r e => by
  obtain ⟨F1, r1, e1, e2⟩ := bind_ok e
  obtain ⟨m, l, c⟩ := postL_lft hE n e2
  exact ((gd_atom hE n _ _ _ _ e1).trans l).mono (by omega)
end
theorem gd_unary {U p : Pt} (hU : Gd 0 U) (hp : Gd 0 p) : Gd 0 (unaryOf U p) := fun d ts F r e => by
  unfold unaryOf at e
  split at e
  · rename_i h; exact ga_node (ga_deeper h hU) F r e
  · split at e
    · rename_i h; exact ga_node (ga_deeper h hU) F r e
    · exact hp _ _ _ _ e
theorem gd_or {u : Pt} (h : Gd 0 u) (n : Nat) : Gd 0 (orP u n) := gd_chain (gd_chain (gd_pair (gd_pair (gd_chain (gd_chain h _ n) _ n) _) _) _ n) _ n
theorem gd_eu (n : Nat) : Gd 0 (exprP n) ∧ Gd 0 (unP n) := by
  induction n with
  | zero => exact ⟨gd_stuck 0, gd_stuck 0⟩
  | succ n ih =>
    have h := gd_unary ih.2 (gd_post ih.1 (n + 1))
    exact ⟨gd_or h (n + 1), h⟩
theorem gd_expr (n : Nat) : Gd 0 (exprP n) := (gd_eu n).1
theorem gd_un (n : Nat) : Gd 0 (unP n) := (gd_eu n).2

theorem gd_worded {k : Nat} {x : List UInt8} {l : List Pt} {d : Nat} {ts : List Tok} (h : sees x ts = true) (hl : Gd 0 (seqAll l)) : GA 0 (wordedP k l) d ts := ga_node (ga_after h hl)
theorem gd_all {l : List Pt} (h : ∀ p ∈ l, Gd 0 p) : Gd 0 (seqAll l) := by
  induction l with
  | nil => exact gd_nothing
  | cons p l ih => exact gd_seq (h p (by simp)) (ih fun q hq => h q (by simp [hq]))
theorem gd_set {E : Pt} (hE : Gd 0 E) : Gd 0 (setP E) := fun d ts F r e => by
  obtain ⟨F1, r1, e1, e2⟩ := bind_ok e
  split at e2
  · obtain ⟨F2, r2, e3, e4⟩ := bind_ok e2
    cases e4
    have h2 := gd_seq (gd_take [61]) (gd_seq hE (gd_take [59])) _ _ _ _ e3
    exact ((hE _ _ _ _ e1).trans h2).mono (by simp [Fo.cnt, cnt_app]; omega)
  · split at e2
    · obtain ⟨F2, r2, e3, e4⟩ := bind_ok e2
      cases e4
      exact ((hE _ _ _ _ e1).trans (gd_take _ _ _ _ _ e3)).mono (by simp [Fo.cnt, cnt_app]; omega)
    · cases e2
theorem gd_stmtOf {E B : Pt} (hE : Gd 0 E) (hB : Gd 0 B) (n : Nat) : Gd 0 (stmtOf E B n) := by
  have ht : ∀ x, Gd 0 (take x) := fun x => (gd_take x).mono (by omega)
  refine gd_ite (fun d ts h => ga_node (ga_after h (gd_all fun p hp => ?_))) (gd_ite (fun d ts h => gd_worded h (gd_all fun p hp => ?_)) (gd_ite (fun d ts h => gd_worded h (gd_all fun p hp => ?_)) (gd_ite (fun d ts h => gd_worded h (gd_all fun p hp => ?_)) (gd_ite (fun d ts h => gd_worded h (gd_all fun p hp => ?_)) (gd_set hE)))))
  · simp only [List.mem_cons, List.not_mem_nil, or_false] at hp
    rcases hp with rfl | rfl | rfl | rfl | rfl | rfl
    · exact (gd_kind 1 (by decide) (by decide)).mono (by omega)
    · exact ht _
    · exact gd_type n
    · exact ht _
    · exact hE
    · exact ht _
  · simp only [List.mem_cons, List.not_mem_nil, or_false] at hp
    rcases hp with rfl | rfl | rfl
    · exact hE
    · exact hB
    · exact gd_ite (fun d ts h F r e => (ga_after h hB F r e).mono (by omega)) gd_nothing
  · simp only [List.mem_cons, List.not_mem_nil, or_false] at hp
    rcases hp with rfl | rfl
    · exact hE
    · exact hB
  · simp only [List.mem_cons, List.not_mem_nil, or_false] at hp
    rcases hp with rfl | rfl
    · exact gd_ite (fun d ts _ => gd_nothing d ts) hE
    · exact ht _
  · simp only [List.mem_cons, List.not_mem_nil, or_false] at hp
    rcases hp with rfl | rfl
    · exact hE
    · exact ht _
theorem gd_block {S : Pt} (h : Gd 0 S) (n : Nat) : Gd 1 (blockOf S n) := fun d ts => ga_node (gd_within (gd_until h n) d ts)
theorem gd_stmt (n : Nat) : Gd 0 (stmtP n) := by
  induction n with
  | zero => exact gd_stuck 0
  | succ n ih => exact gd_stmtOf (gd_expr _) ((gd_block ih n).mono (by omega)) _
theorem gd_typed (k n : Nat) : Gd 1 (typedP k n) := fun d ts => ga_node (by
  have := gd_seq (gd_kind 1 (by decide) (by decide)) (gd_seq (gd_take [58]) (gd_seq (gd_type n) gd_nothing)) d ts
  exact fun F r e => (this F r e).mono (by omega))
theorem gd_field (n : Nat) : Gd 1 (fieldP n) := (gd_seq (gd_typed 3 n) (gd_take [59])).mono (by omega)
theorem ga_rec (n : Nat) {d : Nat} {ts : List Tok} (h : sees [114, 101, 99] ts = true) : GA 0 (recP n) d ts :=
  ga_node (ga_after (s := 0) h ((gd_seq (gd_kind 2 (by decide) (by decide)) (gd_within (gd_until ((gd_field n).mono (by omega)) n))).mono (by omega)))
theorem result_lft (n : Nat) {d : Nat} {ts r : List Tok} {F : Fo} (e : resultP n d ts = .ok F r) : Lft (F.cnt - 1) ts r := by
  unfold resultP at e
  split at e
  · rename_i h; exact ((lft_sees h).trans (gd_type n _ _ _ _ e)).mono (by omega)
  · cases e; exact (Lft.refl ts).mono (by simp [Fo.cnt])
theorem gd_fn (n : Nat) : Gd 0 (fnP n) := fun d ts F r e => by
  obtain ⟨F0, r0, e0, e1⟩ := bind_ok e
  obtain ⟨F1, r1, e2, e3⟩ := bind_ok e1
  obtain ⟨F2, r2, e4, e5⟩ := bind_ok e3
  cases e5
  have h0 := gd_take _ _ _ _ _ e0
  have h1 := gd_seq (gd_kind 1 (by decide) (by decide)) (gd_within (gd_listed ((gd_typed 5 n).mono (by omega)) n)) _ _ _ _ e2
  obtain ⟨F3, r3, e6, e7⟩ := bind_ok e4
  obtain ⟨F4, r4, e8, e9⟩ := bind_ok e7
  cases e9
  have h2 := (result_lft n e6).trans (gd_block (gd_stmt n) n _ _ _ _ e8)
  exact ((h0.trans h1).trans h2).mono (by simp [Fo.cnt, cnt_app]; omega)
theorem gd_decl (n : Nat) : Gd 0 (declP n) := gd_ite (fun d ts h => ga_rec n h) (gd_fn n)
theorem gd_progL {p : Pt} (hp : Gd 0 p) (n : Nat) : Gd 0 (progL p n) := by
  induction n with
  | zero => exact gd_stuck 0
  | succ n ih =>
    intro d ts F r e
    unfold progL at e
    split at e
    · cases e; exact Lft.refl _
    · obtain ⟨F1, r1, e1, e2⟩ := bind_ok e
      obtain ⟨F2, r2, e3, e4⟩ := bind_ok e2
      cases e4
      rw [cnt_app]
      exact ((hp _ _ _ _ e1).trans (ih _ _ _ _ e3)).mono (by omega)

end Go.Proofs.Ytbknflaooemigaa
