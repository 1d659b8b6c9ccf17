/-
  Plain facts on the grammar: a fault's code is not nought; an expression in round brackets is the same, or too deep. Conditions: as said.
-/
import Derived.Test.YtbknflaooemigaaNt2
import Derived.Test.YtbknflaooemigaaRei
import Derived.Test.YtbknflaooemigaaSms
namespace Go.Proofs.Ytbknflaooemigaa
set_option linter.unusedVariables false
set_option linter.unusedSimpArgs false

def Ok0 : Out → Prop
  | .ok _ _ => True
  | .bad c _ _ => c ≠ 0
def Cod (p : Pt) : Prop := ∀ d ts, Ok0 (p d ts)
theorem ok0_bind {o : Out} {f : Fo → List Tok → Out} (h : Ok0 o) (h2 : ∀ F r, Ok0 (f F r)) : Ok0 (o.bind f) := by
  cases o with
  | ok F r => exact h2 F r
  | bad c l k => exact h
theorem ok0_ite {c : Prop} [Decidable c] {a b : Out} (ha : Ok0 a) (hb : Ok0 b) : Ok0 (if c then a else b) := by split <;> assumption
theorem ok0_5 (ts : List Tok) : Ok0 (badAt 5 ts) := show (5 : Int) ≠ 0 by decide
theorem ok0_6 (ts : List Tok) : Ok0 (badAt 6 ts) := show (6 : Int) ≠ 0 by decide
theorem cod_stuck : Cod stuckP := fun d ts => show (5 : Int) ≠ 0 by decide
theorem cod_nothing : Cod nothingP := fun d ts => trivial
theorem cod_pass (q : List Tok → Bool) : Cod (passP q) := fun d ts => ok0_ite trivial (ok0_5 ts)
theorem cod_take (x : List UInt8) : Cod (take x) := cod_pass _
theorem cod_kind (k : Nat) : Cod (kindP k) := cod_pass _
section
variable {a b p u E U B S : Pt}
theorem cod_seq (ha : Cod a) (hb : Cod b) : Cod (seqP a b) := fun d ts => ok0_bind (ha d ts) fun F r => ok0_bind (hb d r) fun _ _ => trivial
theorem cod_after (h : Cod p) : Cod (afterP p) := fun d ts => h d _
theorem cod_ite {x : List UInt8} (ha : Cod a) (hb : Cod b) : Cod (iteP x a b) := fun d ts => ok0_ite (ha d ts) (hb d ts)
theorem cod_deeper (h : Cod p) : Cod (deeperP p) := fun d ts => ok0_ite (ok0_6 ts) (h _ _)
theorem cod_within {o c : List UInt8} (h : Cod p) : Cod (withinP o c p) := fun d ts => ok0_ite (cod_seq (cod_deeper h) (cod_take c) d ts) (ok0_5 ts)
theorem cod_node {mk : List Tok → Inf} (h : Cod p) : Cod (nodeP mk p) := fun d ts => ok0_bind (h d ts) fun _ _ => trivial
theorem cod_until {x : List UInt8} (h : Cod p) (n : Nat) : Cod (untilP x p n) := by
  induction n with
  | zero => exact cod_stuck
  | succ n ih => exact fun d ts => ok0_ite trivial (ok0_bind (h d ts) fun F r => ok0_bind (ih d r) fun _ _ => trivial)
theorem cod_listL (h : Cod p) (n : Nat) : Cod (listL p n) := by
  induction n with
  | zero => exact cod_stuck
  | succ n ih => exact fun d ts => ok0_bind (h d ts) fun F r => ok0_ite (ok0_bind (ih d _) fun _ _ => trivial) trivial
theorem cod_listed (h : Cod p) (n : Nat) : Cod (listedP p n) := cod_ite cod_nothing (cod_listL h n)
theorem cod_joined (h : Cod p) (F : Fo) : Cod (joinedP p F) := fun d ts => ok0_bind (h d _) fun _ _ => trivial
theorem cod_chainL {T : List (List UInt8)} (h : Cod p) (n : Nat) : ∀ F, Cod (chainL p T n F) := by
  induction n with
  | zero => exact fun F => cod_stuck
  | succ n ih => exact fun F d ts => ok0_ite (ok0_bind (cod_joined h F d ts) fun G r => ih G d r) trivial
theorem cod_chain {T : List (List UInt8)} (h : Cod p) (n : Nat) : Cod (chainP p T n) := fun d ts => ok0_bind (h d ts) fun F r => cod_chainL h n F d r
theorem cod_pair {T : List (List UInt8)} (h : Cod p) : Cod (pairP p T) := fun d ts => ok0_bind (h d ts) fun F r => ok0_ite (cod_joined h F d r) trivial
theorem cod_plain : Cod plainTypeP := fun d ts => by
  unfold plainTypeP
  split
  · trivial
  · exact ok0_5 ts
theorem cod_const : Cod constP := fun d ts => by
  unfold constP
  split
  · trivial
  · exact ok0_5 ts
theorem cod_listType (h : Cod p) : Cod (listTypeP p) := cod_node (cod_within h)
theorem cod_type (n : Nat) : Cod (typeP n) := by
  induction n with
  | zero => exact cod_stuck
  | succ n ih => exact cod_ite (cod_listType ih) cod_plain
theorem cod_name (h : Cod E) (n : Nat) : Cod (nameP E n) := fun d ts => ok0_ite (cod_node (cod_after (cod_within (cod_listed h n))) d ts) trivial
theorem cod_make (h : Cod E) (n : Nat) : Cod (makeP E n) := cod_node (cod_after fun d ts => ok0_ite (cod_seq cod_plain (cod_within cod_nothing) d ts) (cod_seq (cod_listType (cod_type n)) (cod_within h) d ts))
theorem cod_atom (h : Cod E) (n : Nat) : Cod (atomP E n) := fun d ts => ok0_ite (cod_within h d ts) (ok0_ite (cod_make h n d ts) (ok0_ite (cod_name h n d ts) (cod_const d ts)))
theorem cod_postL (h : Cod E) (n : Nat) : ∀ F, Cod (postL E n F) := by
  induction n with
  | zero => exact fun F => cod_stuck
  | succ n ih => exact fun F d ts => ok0_ite (ok0_bind (cod_within h d ts) fun G r => ih _ d r) (ok0_ite (ok0_bind (cod_kind 1 d _) fun G r => ih _ d r) trivial)
theorem cod_post (h : Cod E) (n : Nat) : Cod (postP E n) := fun d ts => ok0_bind (cod_atom h n d ts) fun F r => cod_postL h n F d r
theorem cod_unary (h : Cod U) (hp : Cod p) : Cod (unaryOf U p) := fun d ts => ok0_ite (cod_node (cod_deeper h) d ts) (ok0_ite (cod_node (cod_deeper h) d ts) (hp d ts))
theorem cod_or (h : Cod u) (n : Nat) : Cod (orP u n) := cod_chain (cod_chain (cod_pair (cod_pair (cod_chain (cod_chain h n) n))) n) n
theorem cod_eu (n : Nat) : Cod (exprP n) ∧ Cod (unP n) := by
  induction n with
  | zero => exact ⟨cod_stuck, cod_stuck⟩
  | succ n ih =>
    have h : Cod (unP (n + 1)) := cod_unary ih.2 (cod_post ih.1 (n + 1))
    exact ⟨cod_or h (n + 1), h⟩
end
theorem cod_whole {p : Pt} (h : Cod p) (ts : List Tok) : Ok0 (wholeP p ts) := ok0_bind (h 0 ts) fun F r => ok0_ite trivial (ok0_5 r)

/-- What two nodes share that are the same but for places. -/
def key (x : Nd) : Nat × Int × Int × List UInt8 := (x.kind, x.size, x.num, x.text.data.toList)
theorem key_eqN {x y : Nd} (h : key x = key y) : eqN x y = true := by
  unfold key at h
  injection h with h1 h2
  injection h2 with h2 h3
  injection h3 with h3 h4
  unfold eqN
  simp [h1, h2, h3, h4]
theorem Sm.keys {F G : Fo} (h : Sm F G) : F.pre.map key = G.pre.map key := by
  induction h with
  | nil => rfl
  | cons h1 h2 h3 hk hr ih1 ih2 => simp [Fo.pre, ih1, ih2, key, Inf.nd, h1, h2, h3, hk.cnt]
theorem keys_same {l m : List Nd} (h : l.map key = m.map key) : sameB l m = true := by
  have hl : l.length = m.length := by simpa using congrArg List.length h
  refine same_good hl fun i hi => key_eqN ?_
  have h1 : (l.map key)[i]? = (m.map key)[i]? := by rw [h]
  have hi' : i < m.length := by omega
  rw [List.getElem?_map, List.getElem?_map, List.getElem?_eq_getElem hi, List.getElem?_eq_getElem hi'] at h1
  simp only [Option.map_some, Option.some.injEq] at h1
  unfold nd
  rw [List.getD_eq_getElem?_getD, List.getD_eq_getElem?_getD, List.getElem?_eq_getElem hi, List.getElem?_eq_getElem hi']
  exact h1

theorem readA_bad {p : Nat → Pt} {s : List UInt8} (h : (readA p s).2.1 ≠ 0) : (readA p s).1 = [] := by
  unfold readA at h ⊢
  split
  · rfl
  · rename_i h1
    rw [if_neg h1] at h
    split
    · rfl
    · rename_i T hT
      rw [hT] at h
      simp only at h
      split
      · rename_i hw
        rw [hw] at h
        exact absurd rfl h
      · rfl

theorem brackets (K : Nat) (s : List UInt8) (hs : s.length ≤ 1000) (hA : (readA (fun _ => exprP K) s).2.1 = 0) (h6 : (readA (fun _ => exprP (K + 1)) (40 :: (s ++ [10, 41]))).2.1 ≠ 6) :
    (readA (fun _ => exprP (K + 1)) (40 :: (s ++ [10, 41]))).2.1 = 0 ∧ sameB (readA (fun _ => exprP K) s).1 (readA (fun _ => exprP (K + 1)) (40 :: (s ++ [10, 41]))).1 = true := by
  have hl1 : ¬ 65536 < s.length := by omega
  have hl : ¬ 65536 < (40 :: (s ++ [10, 41])).length := by simp; omega
  unfold readA at hA h6 ⊢
  rw [if_neg hl1] at hA ⊢
  rw [if_neg hl] at h6 ⊢
  cases hT : toks s 1 1 with
  | error f =>
    rw [hT] at hA
    exact absurd hA ((toks_ok s 1 1).2 f hT)
  | ok T =>
    rw [hT] at hA
    obtain ⟨T1, e1, hB⟩ := toks_brk _ s (Nat.lt_succ_self _) 1 1 T hT 1 2
    rw [toks_open, e1] at h6 ⊢
    simp only [Except.map] at hA h6 ⊢
    have hc := cod_whole (cod_eu K).1 T
    cases hw : wholeP (exprP K) T with
    | bad c l k =>
      rw [hw] at hA hc
      exact absurd hA hc
    | ok F r =>
      obtain ⟨F0, r0, e2, e3⟩ := bind_ok hw
      split at e3
      · rename_i h8
        cases e3
        rcases in_brackets K e2 h8 hB (o := ⟨7, 1, 1, 0, [40]⟩) rfl rfl with ⟨F', e, e4, h9, hS⟩ | ⟨l, k, e4⟩
        · have hw2 : wholeP (exprP (K + 1)) (⟨7, 1, 1, 0, [40]⟩ :: T1) = .ok F' [e] := by
            unfold wholeP
            rw [e4]
            show (if (hd [e]).kind = 8 then _ else _) = _
            rw [if_pos (show (hd [e]).kind = 8 from h9)]
          rw [hw2]
          exact ⟨rfl, keys_same hS.keys⟩
        · exfalso
          apply h6
          unfold wholeP
          rw [e4]
          rfl
      · cases e3

theorem whole_at (K : Nat) (hK : 500000 ≤ K) : Whole 10 (fun _ => exprP K) := ⟨by intro args w; simp [go_sem], fun w b tb to tc T v h => expr_does K ⟨h.rd, h.dr, h.en, (by have := h.rm; simp at this; omega), h.rm, h.dp⟩, fun T F r e => by
  have := gd_expr K 0 T F r e
  exact ⟨by have := this.1; omega, this.2.1⟩⟩

end Go.Proofs.Ytbknflaooemigaa
