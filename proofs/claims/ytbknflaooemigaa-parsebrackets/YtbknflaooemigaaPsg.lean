/-
  Plain fact: what is read as an expression is one tree, whose root is an expression's. Conditions: none.
-/
import Derived.Test.YtbknflaooemigaaPg
namespace Go.Proofs.Ytbknflaooemigaa
set_option linter.unusedVariables false
set_option linter.unusedSimpArgs false

def One1 (F : Fo) : Prop := ∃ i k, F = .cons i k .nil ∧ 21 ≤ i.kind ∧ i.kind ≤ 32
def Sing (p : Pt) : Prop := ∀ d ts F r, p d ts = .ok F r → One1 F

theorem sing_node {mk : List Tok → Inf} {p : Pt} (h : ∀ ts, 21 ≤ (mk ts).kind ∧ (mk ts).kind ≤ 32) : Sing (nodeP mk p) := fun d ts F r e => by
  obtain ⟨F1, r1, e1, e2⟩ := bind_ok e
  cases e2
  exact ⟨_, _, rfl, h ts⟩
theorem nil_take {x : List UInt8} {d : Nat} {ts r : List Tok} {F : Fo} (e : take x d ts = .ok F r) : F = .nil := by
  unfold take passP at e
  split at e
  · cases e; rfl
  · cases e
theorem sing_within {o c : List UInt8} {p : Pt} (h : Sing p) : Sing (withinP o c p) := fun d ts F r e => by
  unfold withinP at e
  split at e
  · obtain ⟨F1, r1, e1, e2⟩ := bind_ok e
    obtain ⟨F2, r2, e3, e4⟩ := bind_ok e2
    cases e4
    rw [nil_take e3, app_nil]
    unfold deeperP at e1
    split at e1
    · cases e1
    · exact h _ _ _ _ e1
  · cases e
theorem sing_joined {p : Pt} {F : Fo} {d : Nat} {ts r : List Tok} {G : Fo} (e : joinedP p F d ts = .ok G r) : One1 G := by
  obtain ⟨F1, r1, e1, e2⟩ := bind_ok e
  cases e2
  exact ⟨_, _, rfl, by simp [mkK, mkX, mkY, mkN], by simp [mkK, mkX, mkY, mkN]⟩
theorem sing_chainL {p : Pt} {S : List (List UInt8)} (n : Nat) : ∀ {F G : Fo} {d : Nat} {ts r : List Tok}, One1 F → chainL p S n F d ts = .ok G r → One1 G := by
  induction n with
  | zero => intro F G d ts r _ e; cases e
  | succ n ih =>
    intro F G d ts r hF e
    unfold chainL at e
    split at e
    · obtain ⟨F1, r1, e1, e2⟩ := bind_ok e
      exact ih (sing_joined e1) e2
    · cases e; exact hF
theorem sing_chain {p : Pt} (h : Sing p) (S : List (List UInt8)) (n : Nat) : Sing (chainP p S n) := fun d ts F r e => by
  obtain ⟨F1, r1, e1, e2⟩ := bind_ok e
  exact sing_chainL n (h _ _ _ _ e1) e2
theorem sing_pair {p : Pt} (h : Sing p) (S : List (List UInt8)) : Sing (pairP p S) := fun d ts F r e => by
  obtain ⟨F1, r1, e1, e2⟩ := bind_ok e
  split at e2
  · exact sing_joined e2
  · cases e2; exact h _ _ _ _ e1
theorem constK_sing {t : Tok} {q} (h : constK t = some q) : 21 ≤ q.1 ∧ q.1 ≤ 32 := by
  unfold constK at h
  repeat' split at h
  all_goals first | (cases h; simp) | cases h
theorem sing_const : Sing constP := fun d ts F r e => by
  unfold constP at e
  split at e
  · rename_i q h
    cases e
    exact ⟨_, _, rfl, constK_sing h⟩
  · cases e
theorem sing_name {E : Pt} {n : Nat} : Sing (nameP E n) := fun d ts F r e => by
  unfold nameP at e
  split at e
  · exact sing_node (fun ts => ⟨by simp [mkK, mkX, mkY, mkN], by simp [mkK, mkX, mkY, mkN]⟩) _ _ _ _ e
  · cases e; exact ⟨_, _, rfl, by simp [mkK, mkX, mkY, mkN], by simp [mkK, mkX, mkY, mkN]⟩
theorem sing_atom {E : Pt} (h : Sing E) (n : Nat) : Sing (atomP E n) := fun d ts F r e => by
  unfold atomP at e
  split at e
  · exact sing_within h _ _ _ _ e
  · split at e
    · exact sing_node (fun ts => ⟨by simp [mkK, mkX, mkY, mkN], by simp [mkK, mkX, mkY, mkN]⟩) _ _ _ _ e
    · split at e
      · exact sing_name _ _ _ _ e
      · exact sing_const _ _ _ _ e
theorem sing_postL {E : Pt} (n : Nat) : ∀ {F G : Fo} {d : Nat} {ts r : List Tok}, One1 F → postL E n F d ts = .ok G r → One1 G := by
  induction n with
  | zero => intro F G d ts r _ e; cases e
  | succ n ih =>
    intro F G d ts r hF e
    unfold postL at e
    split at e
    · obtain ⟨F1, r1, e1, e2⟩ := bind_ok e
      exact ih ⟨_, _, rfl, by simp [mkK, mkX, mkY, mkN], by simp [mkK, mkX, mkY, mkN]⟩ e2
    · split at e
      · obtain ⟨F1, r1, e1, e2⟩ := bind_ok e
        exact ih ⟨_, _, rfl, by simp [mkK, mkX, mkY, mkN], by simp [mkK, mkX, mkY, mkN]⟩ e2
      · cases e; exact hF
theorem sing_post {E : Pt} (h : Sing E) (n : Nat) : Sing (postP E n) := fun d ts F r e => by
  obtain ⟨F1, r1, e1, e2⟩ := bind_ok e
  exact sing_postL n (sing_atom h n _ _ _ _ e1) e2
theorem sing_unary {U p : Pt} (h : Sing p) : Sing (unaryOf U p) := fun d ts F r e => by
  unfold unaryOf at e
  split at e
  · exact sing_node (fun ts => ⟨by simp [mkK, mkX, mkY, mkN], by simp [mkK, mkX, mkY, mkN]⟩) _ _ _ _ e
  · split at e
    · exact sing_node (fun ts => ⟨by simp [mkK, mkX, mkY, mkN], by simp [mkK, mkX, mkY, mkN]⟩) _ _ _ _ e
    · exact h _ _ _ _ e
theorem sing_or {u : Pt} (h : Sing u) (n : Nat) : Sing (orP u n) := sing_chain (sing_chain (sing_pair (sing_pair (sing_chain (sing_chain h _ n) _ n) _) _) _ n) _ n
theorem sing_eu (n : Nat) : Sing (exprP n) ∧ Sing (unP n) := by
  induction n with
  | zero => exact ⟨(fun d ts F r e => by cases e), (fun d ts F r e => by cases e)⟩
  | succ n ih =>
    have h := sing_unary (U := unP n) (sing_post ih.1 (n + 1))
    exact ⟨sing_or h (n + 1), h⟩
theorem sing_expr (n : Nat) : Sing (exprP n) := (sing_eu n).1

theorem one_node {mk : List Tok → Inf} {p : Pt} {d : Nat} {ts r : List Tok} {F : Fo} (e : nodeP mk p d ts = .ok F r) : 1 ≤ F.cnt := by
  obtain ⟨F1, r1, e1, e2⟩ := bind_ok e
  cases e2
  simp [Fo.cnt]
theorem one_field {n d : Nat} {ts r : List Tok} {F : Fo} (e : fieldP n d ts = .ok F r) : 1 ≤ F.cnt := by
  obtain ⟨F1, r1, e1, e2⟩ := bind_ok e
  obtain ⟨F2, r2, e3, e4⟩ := bind_ok e2
  cases e4
  have := one_node e1
  rw [cnt_app]; omega
theorem one_set {E : Pt} {d : Nat} {ts r : List Tok} {F : Fo} (e : setP E d ts = .ok F r) : 1 ≤ F.cnt := by
  obtain ⟨F1, r1, e1, e2⟩ := bind_ok e
  split at e2
  · obtain ⟨F2, r2, e3, e4⟩ := bind_ok e2
    cases e4; simp [Fo.cnt]
  · split at e2
    · obtain ⟨F2, r2, e3, e4⟩ := bind_ok e2
      cases e4; simp [Fo.cnt]
    · cases e2
theorem one_stmt (n : Nat) {d : Nat} {ts r : List Tok} {F : Fo} (e : stmtP n d ts = .ok F r) : 1 ≤ F.cnt := by
  cases n with
  | zero => cases e
  | succ n =>
    simp only [stmtP, stmtOf, iteP] at e
    repeat' split at e
    all_goals first | exact one_node e | exact one_set e
theorem one_fn (n : Nat) {d : Nat} {ts r : List Tok} {F : Fo} (e : fnP n d ts = .ok F r) : 1 ≤ F.cnt := by
  obtain ⟨F0, r0, e0, e1⟩ := bind_ok e
  obtain ⟨F1, r1, e2, e3⟩ := bind_ok e1
  obtain ⟨F2, r2, e4, e5⟩ := bind_ok e3
  cases e5
  simp [Fo.cnt]
theorem one_decl (n : Nat) {d : Nat} {ts r : List Tok} {F : Fo} (e : declP n d ts = .ok F r) : 1 ≤ F.cnt := by
  unfold declP iteP at e
  split at e
  · exact one_node e
  · exact one_fn n e

end Go.Proofs.Ytbknflaooemigaa
