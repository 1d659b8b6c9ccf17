/-
 The document's grammar over lists of tokens, with trees as forests: what is read next, what is left. No function of the program is spoken of. Conditions: as said. Plain facts on the grammar: what is left is a part of what there was, no more nodes are made than tokens are gone over, expressions are one tree each. Conditions: as said. Plain fact: what is read as an expression is one tree, whose root is an expression's. Conditions: none.
-/
import Derived.Test.YtbknflaooemigaaGreatTok
import Derived.Test.YtbknflaooemigaaGreatNd
namespace Go.Proofs.YtbknflaooemigaaGreat
section
set_option linter.unusedVariables false

/-- What a node is, but for its size. -/
structure Inf where
 kind : Nat
 line : Nat
 col : Nat
 num : Int
 text : List UInt8

/-- Trees in a row: the first one's root, its children, the other trees. -/
inductive Fo where
 | nil : Fo
 | cons (i : Inf) (k r : Fo) : Fo

def Inf.nd (i : Inf) (n : Nat) : Nd := ⟨i.kind, i.line, i.col, n, i.num, bs i.text⟩
def Fo.app : Fo → Fo → Fo
 | .nil, g => g
 | .cons i k r, g => .cons i k (r.app g)
def Fo.cnt : Fo → Nat
 | .nil => 0
 | .cons _ k r => k.cnt + 1 + r.cnt
/-- Each node behind its children. -/
def Fo.post : Fo → List Nd
 | .nil => []
 | .cons i k r => k.post ++ i.nd k.cnt :: r.post
/-- Each node ahead of its children. -/
def Fo.pre : Fo → List Nd
 | .nil => []
 | .cons i k r => i.nd k.cnt :: (k.pre ++ r.pre)

theorem app_nil (F : Fo) : F.app .nil = F := by
 induction F with
 | nil => rfl
 | cons i k r _ ih => simp [Fo.app, ih]
theorem app_assoc (F G H : Fo) : (F.app G).app H = F.app (G.app H) := by
 induction F with
 | nil => rfl
 | cons i k r _ ih => simp [Fo.app, ih]
theorem cnt_app (F G : Fo) : (F.app G).cnt = F.cnt + G.cnt := by
 induction F with
 | nil => simp [Fo.app, Fo.cnt]
 | cons i k r _ ih => simp [Fo.app, Fo.cnt, ih]; omega
theorem post_app (F G : Fo) : (F.app G).post = F.post ++ G.post := by
 induction F with
 | nil => rfl
 | cons i k r _ ih => simp [Fo.app, Fo.post, ih]
theorem pre_app (F G : Fo) : (F.app G).pre = F.pre ++ G.pre := by
 induction F with
 | nil => rfl
 | cons i k r _ ih => simp [Fo.app, Fo.pre, ih]
theorem post_len (F : Fo) : F.post.length = F.cnt := by
 induction F with
 | nil => rfl
 | cons i k r ihk ihr => simp [Fo.post, Fo.cnt, ihk, ihr]; omega
theorem pre_len (F : Fo) : F.pre.length = F.cnt := by
 induction F with
 | nil => rfl
 | cons i k r ihk ihr => simp [Fo.pre, Fo.cnt, ihk, ihr]; omega

/-- What comes of reading: trees and what is left, or a fault. -/
inductive Out where
 | ok (F : Fo) (r : List Tok) : Out
 | bad (c : Int) (l k : Nat) : Out
def Out.bind : Out → (Fo → List Tok → Out) → Out
 | .ok F r, f => f F r
 | .bad c l k, _ => .bad c l k
/-- How deep, the tokens: what comes of it. -/
abbrev Pt := Nat → List Tok → Out

def tok0 : Tok := ⟨0, 0, 0, 0, []⟩
def hd (ts : List Tok) : Tok := ts.headD tok0
def seesT (x : List UInt8) (t : Tok) : Bool := decide ((t.kind = 6 ∨ t.kind = 7) ∧ t.text = x)
def sees (x : List UInt8) (ts : List Tok) : Bool := seesT x (hd ts)
def badAt (c : Int) (ts : List Tok) : Out := .bad c (hd ts).line (hd ts).col
def nothingP : Pt := fun _ ts => .ok .nil ts
def stuckP : Pt := fun _ _ => .bad 5 0 0
def passP (q : List Tok → Bool) : Pt := fun _ ts => if q ts = true then .ok .nil ts.tail else badAt 5 ts
def take (x : List UInt8) : Pt := passP (sees x)
def kindP (k : Nat) : Pt := passP (fun ts => decide ((hd ts).kind = k))
def seqP (a b : Pt) : Pt := fun d ts => (a d ts).bind fun F r => (b d r).bind fun G r' => .ok (F.app G) r'
def afterP (p : Pt) : Pt := fun d ts => p d ts.tail
def iteP (x : List UInt8) (a b : Pt) : Pt := fun d ts => if sees x ts = true then a d ts else b d ts
def deeperP (p : Pt) : Pt := fun d ts => if d = 40 then badAt 6 ts else p (d + 1) ts.tail
def withinP (o c : List UInt8) (p : Pt) : Pt := fun d ts => if sees o ts = true then seqP (deeperP p) (take c) d ts else badAt 5 ts
def nodeP (mk : List Tok → Inf) (p : Pt) : Pt := fun d ts => (p d ts).bind fun F r => .ok (.cons (mk ts) F .nil) r
def untilP (x : List UInt8) (p : Pt) : Nat → Pt
 | 0 => stuckP
 | n + 1 => fun d ts => if sees x ts = true then .ok .nil ts else (p d ts).bind fun F r => (untilP x p n d r).bind fun G r' => .ok (F.app G) r'
def listL (p : Pt) : Nat → Pt
 | 0 => stuckP
 | n + 1 => fun d ts => (p d ts).bind fun F r => if sees [44] r = true then (listL p n d r.tail).bind fun G r' => .ok (F.app G) r' else .ok F r
def listedP (p : Pt) (n : Nat) : Pt := iteP [41] nothingP (listL p n)

def opOf (x : List UInt8) : Int :=
 if x = [43] then 1 else if x = [45] then 2 else if x = [42] then 3 else if x = [47] then 4 else if x = [37] then 5 else if x = [61, 61] then 6 else if x = [33, 61] then 7
 else if x = [60] then 8 else if x = [60, 61] then 9 else if x = [62] then 10 else if x = [62, 61] then 11 else if x = [38, 38] then 14 else 15
def anyS (S : List (List UInt8)) (ts : List Tok) : Bool := S.any fun x => sees x ts
def joinedP (p : Pt) (F : Fo) : Pt := fun d ts => (p d ts.tail).bind fun G r => .ok (.cons ⟨31, (hd ts).line, (hd ts).col, opOf (hd ts).text, []⟩ (F.app G) .nil) r
def chainL (p : Pt) (S : List (List UInt8)) : Nat → Fo → Pt
 | 0, _ => stuckP
 | n + 1, F => fun d ts => if anyS S ts = true then (joinedP p F d ts).bind fun G r => chainL p S n G d r else .ok F ts
def chainP (p : Pt) (S : List (List UInt8)) (n : Nat) : Pt := fun d ts => (p d ts).bind fun F r => chainL p S n F d r
def pairP (p : Pt) (S : List (List UInt8)) : Pt := fun d ts => (p d ts).bind fun F r => if anyS S r = true then joinedP p F d r else .ok F r

/-- A node of a kind at the next token's place. -/
def mkK (k : Nat) (ts : List Tok) : Inf := ⟨k, (hd ts).line, (hd ts).col, 0, []⟩
def mkN (k : Nat) (n : Int) (ts : List Tok) : Inf := ⟨k, (hd ts).line, (hd ts).col, n, []⟩
/-- .. with the next token's text. -/
def mkX (k : Nat) (ts : List Tok) : Inf := ⟨k, (hd ts).line, (hd ts).col, 0, (hd ts).text⟩
/-- .. with the text of the one behind. -/
def mkY (k : Nat) (ts : List Tok) : Inf := ⟨k, (hd ts).line, (hd ts).col, 0, (hd ts.tail).text⟩

def typeK (t : Tok) : Option (Nat × List UInt8) :=
 if t.kind = 2 then some (19, t.text) else if t.kind ≠ 6 then none
 else if t.text = [105, 110, 116] then some (15, []) else if t.text = [98, 111, 111, 108] then some (16, []) else if t.text = [115, 116, 114] then some (17, []) else if t.text = [99, 111, 109, 112] then some (18, []) else none
def plainTypeP : Pt := fun d ts => match typeK (hd ts) with
 | some q => .ok (.cons ⟨q.1, (hd ts).line, (hd ts).col, 0, q.2⟩ .nil .nil) ts.tail
 | none => badAt 5 ts
def listTypeP (p : Pt) : Pt := nodeP (mkK 20) (withinP [91] [93] p)
def typeP : Nat → Pt
 | 0 => stuckP
 | n + 1 => iteP [91] (listTypeP (typeP n)) plainTypeP
def constK (t : Tok) : Option (Nat × Int × List UInt8) :=
 if t.kind = 3 then some (21, t.num, []) else if t.kind = 4 then some (22, t.num, []) else if t.kind = 5 then some (23, 0, t.text) else if t.kind ≠ 6 then none
 else if t.text = [116, 114, 117, 101] then some (24, 1, []) else if t.text = [102, 97, 108, 115, 101] then some (24, 0, []) else if t.text = [110, 105, 108] then some (25, 0, []) else none
def constP : Pt := fun d ts => match constK (hd ts) with
 | some q => .ok (.cons ⟨q.1, (hd ts).line, (hd ts).col, q.2.1, q.2.2⟩ .nil .nil) ts.tail
 | none => badAt 5 ts
def nameP (E : Pt) (n : Nat) : Pt := fun d ts => if sees [40] ts.tail = true then nodeP (mkX 27) (afterP (withinP [40] [41] (listedP E n))) d ts else .ok (.cons (mkX 26 ts) .nil .nil) ts.tail
def makeP (E : Pt) (n : Nat) : Pt := nodeP (mkK 32) (afterP fun d ts => if (hd ts).kind = 2 then seqP plainTypeP (withinP [40] [41] nothingP) d ts else seqP (listTypeP (typeP n)) (withinP [40] [41] E) d ts)
def atomP (E : Pt) (n : Nat) : Pt := fun d ts => if sees [40] ts = true then withinP [40] [41] E d ts else if sees [109, 97, 107, 101] ts = true then makeP E n d ts else if (hd ts).kind = 1 then nameP E n d ts else constP d ts
def postL (E : Pt) : Nat → Fo → Pt
 | 0, _ => stuckP
 | n + 1, F => fun d ts => if sees [91] ts = true then (withinP [91] [93] E d ts).bind fun G r => postL E n (.cons (mkK 28 ts) (F.app G) .nil) d r
  else if sees [46] ts = true then (kindP 1 d ts.tail).bind fun _ r => postL E n (.cons (mkY 29 ts) F .nil) d r else .ok F ts
def postP (E : Pt) (n : Nat) : Pt := fun d ts => (atomP E n d ts).bind fun F r => postL E n F d r
def unaryOf (U p : Pt) : Pt := fun d ts => if sees [45] ts = true then nodeP (mkN 30 12) (deeperP U) d ts else if sees [33] ts = true then nodeP (mkN 30 13) (deeperP U) d ts else p d ts
def termP (u : Pt) (n : Nat) : Pt := chainP u [[42], [47], [37]] n
def sumP (u : Pt) (n : Nat) : Pt := chainP (termP u n) [[43], [45]] n
def lessP (u : Pt) (n : Nat) : Pt := pairP (sumP u n) [[60], [60, 61], [62], [62, 61]]
def equalP (u : Pt) (n : Nat) : Pt := pairP (lessP u n) [[61, 61], [33, 61]]
def andP (u : Pt) (n : Nat) : Pt := chainP (equalP u n) [[38, 38]] n
def orP (u : Pt) (n : Nat) : Pt := chainP (andP u n) [[124, 124]] n
/-- Expressions, and those of unary signs, of so many tokens. -/
def eu : Nat → Pt × Pt
 | 0 => (stuckP, stuckP)
 | n + 1 => (orP (unaryOf (eu n).2 (postP (eu n).1 (n + 1))) (n + 1), unaryOf (eu n).2 (postP (eu n).1 (n + 1)))
def exprP (n : Nat) : Pt := (eu n).1
def unP (n : Nat) : Pt := (eu n).2
def seqAll : List Pt → Pt
 | [] => nothingP
 | p :: l => seqP p (seqAll l)
def wordedP (k : Nat) (l : List Pt) : Pt := nodeP (mkK k) (afterP (seqAll l))
def rootK : Fo → Nat
 | .cons i _ _ => i.kind
 | .nil => 0
def setP (E : Pt) : Pt := fun d ts => (E d ts).bind fun F r =>
 if rootK F = 26 ∨ rootK F = 28 ∨ rootK F = 29 then (seqP (take [61]) (seqP E (take [59])) d r).bind fun G r' => .ok (.cons (mkK 8 ts) (F.app G) .nil) r'
 else if rootK F = 27 then (take [59] d r).bind fun G r' => .ok (.cons (mkK 13 ts) (F.app G) .nil) r' else badAt 5 r
def varP (E : Pt) (n : Nat) : Pt := nodeP (mkY 7) (afterP (seqAll [kindP 1, take [58], typeP n, take [61], E, take [59]]))
def elseP (B : Pt) : Pt := iteP [101, 108, 115, 101] (afterP B) nothingP
def answerP (E : Pt) : Pt := iteP [59] nothingP E
def stmtOf (E B : Pt) (n : Nat) : Pt := iteP [118, 97, 114] (varP E n) (iteP [105, 102] (wordedP 9 [E, B, elseP B]) (iteP [119, 104, 105, 108, 101] (wordedP 10 [E, B])
 (iteP [114, 101, 116, 117, 114, 110] (wordedP 11 [answerP E, take [59]]) (iteP [112, 114, 105, 110, 116] (wordedP 12 [E, take [59]]) (setP E)))))
def blockOf (S : Pt) (n : Nat) : Pt := nodeP (mkK 6) (withinP [123] [125] (untilP [125] S n))
def stmtP : Nat → Pt
 | 0 => stuckP
 | n + 1 => stmtOf (exprP (n + 1)) (blockOf (stmtP n) n) (n + 1)
def typedP (k n : Nat) : Pt := nodeP (mkX k) (seqAll [kindP 1, take [58], typeP n])
def fieldP (n : Nat) : Pt := seqP (typedP 3 n) (take [59])
def recP (n : Nat) : Pt := nodeP (mkY 2) (afterP (seqP (kindP 2) (withinP [123] [125] (untilP [125] (fieldP n) n))))
def resultP (n : Nat) : Pt := fun d ts => if sees [58] ts = true then typeP n d ts.tail else .ok (.cons ⟨14, 0, 0, 0, []⟩ .nil .nil) ts
def cntK (k : Nat) (l : List Nd) : Nat := (l.filter fun n => decide (n.kind = k)).length
def fnP (n : Nat) : Pt := fun d ts => (take [102, 110] d ts).bind fun _ r => (seqP (kindP 1) (withinP [40] [41] (listedP (typedP 5 n) n)) d r).bind fun F r1 =>
 (seqP (resultP n) (blockOf (stmtP n) n) d r1).bind fun G r2 => .ok (.cons ⟨4, (hd ts).line, (hd ts).col, (cntK 5 F.post : Nat), (hd r).text⟩ (F.app G) .nil) r2
def declP (n : Nat) : Pt := iteP [114, 101, 99] (recP n) (fnP n)
def progL (p : Pt) : Nat → Pt
 | 0 => stuckP
 | n + 1 => fun d ts => if (hd ts).kind = 8 then .ok .nil ts else (p d ts).bind fun F r => (progL p n d r).bind fun G r' => .ok (F.app G) r'
def progP (n : Nat) : Pt := fun d ts => (progL (declP n) n d ts).bind fun F r => .ok (.cons ⟨1, 1, 1, 0, []⟩ F .nil) r
/-- All of a text. -/
def wholeP (p : Pt) (ts : List Tok) : Out := (p 0 ts).bind fun F r => if (hd r).kind = 8 then .ok F r else badAt 5 r
end
end Go.Proofs.YtbknflaooemigaaGreat

namespace Go.Proofs.YtbknflaooemigaaGreat
section
set_option linter.unusedVariables false

def Ends (ts : List Tok) : Prop := ∃ a e, ts = a ++ [e] ∧ e.kind = 8

theorem Ends.ne {ts : List Tok} (h : Ends ts) : ∃ t l, ts = t :: l := by
 obtain ⟨a, e, rfl, _⟩ := h
 cases a with
 | nil => exact ⟨e, [], rfl⟩
 | cons t l => exact ⟨t, l ++ [e], rfl⟩
theorem Ends.tl {t : Tok} {l : List Tok} (h : Ends (t :: l)) (hk : t.kind ≠ 8) : Ends l := by
 obtain ⟨a, e, ha, he⟩ := h
 cases a with
 | nil => simp at ha; rw [ha.1] at hk; exact absurd he hk
 | cons u m => simp at ha; exact ⟨m, e, ha.2, he⟩

theorem bind_ok {o : Out} {f : Fo → List Tok → Out} {G : Fo} {r : List Tok} (h : o.bind f = .ok G r) : ∃ F r1, o = .ok F r1 ∧ f F r1 = .ok G r := by
 cases o with
 | ok F r1 => exact ⟨F, r1, rfl, h⟩
 | bad c l k => cases h

theorem sees_cons {x : List UInt8} {ts : List Tok} (h : sees x ts = true) : ∃ t l, ts = t :: l ∧ (t.kind = 6 ∨ t.kind = 7) ∧ t.text = x := by
 cases ts with
 | nil => simp [sees, seesT, hd, tok0] at h
 | cons t l => simp [sees, seesT, hd] at h; exact ⟨t, l, rfl, h⟩
theorem anyS_cons {S : List (List UInt8)} {ts : List Tok} (h : anyS S ts = true) : ∃ t l, ts = t :: l ∧ (t.kind = 6 ∨ t.kind = 7) := by
 obtain ⟨x, _, hx⟩ := List.any_eq_true.1 h
 obtain ⟨t, l, h1, h2, _⟩ := sees_cons hx
 exact ⟨t, l, h1, h2⟩
theorem kind_cons {k : Nat} {ts : List Tok} (h : (hd ts).kind = k) (hk : k ≠ 0) : ∃ t l, ts = t :: l ∧ t.kind = k := by
 cases ts with
 | nil => simp [hd, tok0] at h; omega
 | cons t l => exact ⟨t, l, rfl, h⟩

/-- Of what is left: so much less than there was; it ends as that did; its tokens were there. -/
def Lft (n : Nat) (ts : List Tok) (r : List Tok) : Prop := n + r.length ≤ ts.length ∧ (Ends ts → Ends r) ∧ ∀ t ∈ r, t ∈ ts
theorem Lft.refl (ts : List Tok) : Lft 0 ts ts := ⟨by omega, id, fun _ h => h⟩
theorem Lft.trans {m n : Nat} {a b c : List Tok} (h : Lft m a b) (k : Lft n b c) : Lft (m + n) a c := ⟨by have := h.1; have := k.1; omega, fun e => k.2.1 (h.2.1 e), fun t ht => h.2.2 t (k.2.2 t ht)⟩
theorem Lft.mono {m n : Nat} {a b : List Tok} (h : Lft m a b) (hn : n ≤ m) : Lft n a b := ⟨by have := h.1; omega, h.2⟩
theorem Lft.tail {t : Tok} {l : List Tok} (h : t.kind ≠ 8) : Lft 1 (t :: l) l := ⟨by simp; omega, fun e => e.tl h, fun u hu => by simp [hu]⟩
theorem lft_sees {x : List UInt8} {ts : List Tok} (h : sees x ts = true) : Lft 1 ts ts.tail := by
 obtain ⟨t, l, rfl, hk, _⟩ := sees_cons h
 exact Lft.tail (by omega)
theorem lft_any {S : List (List UInt8)} {ts : List Tok} (h : anyS S ts = true) : Lft 1 ts ts.tail := by
 obtain ⟨t, l, rfl, hk⟩ := anyS_cons h
 exact Lft.tail (by omega)
theorem lft_kind {k : Nat} {ts : List Tok} (h : (hd ts).kind = k) (h0 : k ≠ 0) (h8 : k ≠ 8) : Lft 1 ts ts.tail := by
 obtain ⟨t, l, rfl, hk⟩ := kind_cons h h0
 exact Lft.tail (by omega)

def GA (s : Nat) (p : Pt) (d : Nat) (ts : List Tok) : Prop := ∀ F r, p d ts = .ok F r → Lft (F.cnt + s) ts r
def Gd (s : Nat) (p : Pt) : Prop := ∀ d ts, GA s p d ts

theorem Gd.mono {s s' : Nat} {p : Pt} (h : Gd s p) (hs : s' ≤ s) : Gd s' p := fun d ts F r e => (h d ts F r e).mono (by omega)
theorem gd_stuck (s : Nat) : Gd s stuckP := fun d ts F r e => by cases e
theorem gd_nothing : Gd 0 nothingP := fun d ts F r e => by cases e; exact Lft.refl _
theorem gd_take (x : List UInt8) : Gd 1 (take x) := fun d ts F r e => by
 unfold take passP at e
 split at e
 ·rename_i h; cases e; exact lft_sees h
 ·cases e
theorem gd_kind (k : Nat) (h0 : k ≠ 0) (h8 : k ≠ 8) : Gd 1 (kindP k) := fun d ts F r e => by
 unfold kindP passP at e
 split at e
 ·rename_i h; cases e; exact lft_kind (of_decide_eq_true h) h0 h8
 ·cases e
theorem ga_seq {s s' : Nat} {a b : Pt} {d : Nat} {ts : List Tok} (ha : GA s a d ts) (hb : Gd s' b) : GA (s + s') (seqP a b) d ts := fun F r e => by
 obtain ⟨F1, r1, e1, e2⟩ := bind_ok e
 obtain ⟨F2, r2, e3, e4⟩ := bind_ok e2
 cases e4
 rw [cnt_app]
 exact ((ha _ _ e1).trans (hb _ _ _ _ e3)).mono (by omega)
theorem gd_seq {s s' : Nat} {a b : Pt} (ha : Gd s a) (hb : Gd s' b) : Gd (s + s') (seqP a b) := fun d ts => ga_seq (ha d ts) hb
theorem gd_ite {s : Nat} {x : List UInt8} {a b : Pt} (ha : ∀ d ts, sees x ts = true → GA s a d ts) (hb : Gd s b) : Gd s (iteP x a b) := fun d ts F r e => by
 unfold iteP at e
 split at e
 ·rename_i h; exact ha d ts h F r e
 ·exact hb d ts F r e
theorem ga_after {s : Nat} {x : List UInt8} {p : Pt} {d : Nat} {ts : List Tok} (h : sees x ts = true) (hp : Gd s p) : GA (s + 1) (afterP p) d ts := fun F r e => ((lft_sees h).trans (hp _ _ _ _ e)).mono (by omega)
theorem ga_node {s : Nat} {mk : List Tok → Inf} {p : Pt} {d : Nat} {ts : List Tok} (h : GA (s + 1) p d ts) : GA s (nodeP mk p) d ts := fun F r e => by
 obtain ⟨F1, r1, e1, e2⟩ := bind_ok e
 cases e2
 exact (h _ _ e1).mono (by simp [Fo.cnt]; omega)
theorem ga_deeper {s : Nat} {x : List UInt8} {p : Pt} {d : Nat} {ts : List Tok} (h : sees x ts = true) (hp : Gd s p) : GA (s + 1) (deeperP p) d ts := fun F r e => by
 unfold deeperP at e
 split at e
 ·cases e
 ·exact ((lft_sees h).trans (hp _ _ _ _ e)).mono (by omega)
theorem gd_within {s : Nat} {o c : List UInt8} {p : Pt} (hp : Gd s p) : Gd (s + 2) (withinP o c p) := fun d ts F r e => by
 unfold withinP at e
 split at e
 ·rename_i h
  have := ga_seq (ga_deeper (d := d) h hp) (gd_take c) F r e
  exact this.mono (by omega)
 ·cases e
theorem gd_until {x : List UInt8} {p : Pt} (hp : Gd 0 p) (n : Nat) : Gd 0 (untilP x p n) := by
 induction n with
 | zero => exact gd_stuck 0
 | succ n ih =>
  intro d ts F r e
  unfold untilP at e
  split at e
  ·cases e; exact Lft.refl _
  ·obtain ⟨F1, r1, e1, e2⟩ := bind_ok e
   obtain ⟨F2, r2, e3, e4⟩ := bind_ok e2
   cases e4
   rw [cnt_app]
   exact ((hp _ _ _ _ e1).trans (ih _ _ _ _ e3)).mono (by omega)
theorem gd_listL {p : Pt} (hp : Gd 0 p) (n : Nat) : Gd 0 (listL p n) := by
 induction n with
 | zero => exact gd_stuck 0
 | succ n ih =>
  intro d ts F r e
  unfold listL at e
  obtain ⟨F1, r1, e1, e2⟩ := bind_ok e
  split at e2
  ·rename_i h
   obtain ⟨F2, r2, e3, e4⟩ := bind_ok e2
   cases e4
   rw [cnt_app]
   exact (((hp _ _ _ _ e1).trans (lft_sees h)).trans (ih _ _ _ _ e3)).mono (by omega)
  ·cases e2; exact hp _ _ _ _ e1
theorem gd_listed {p : Pt} (hp : Gd 0 p) (n : Nat) : Gd 0 (listedP p n) := gd_ite (fun d ts _ => gd_nothing d ts) (gd_listL hp n)
theorem joined_lft {p : Pt} (hp : Gd 0 p) {S : List (List UInt8)} {F G : Fo} {d : Nat} {ts r : List Tok} (hs : anyS S ts = true) (e : joinedP p F d ts = .ok G r) : ∃ n, Lft n ts r ∧ G.cnt = F.cnt + n := by
 obtain ⟨F1, r1, e1, e2⟩ := bind_ok e
 cases e2
 exact ⟨F1.cnt + 1, ((lft_any hs).trans (hp _ _ _ _ e1)).mono (by omega), by simp [Fo.cnt, cnt_app]; omega⟩
theorem chainL_lft {p : Pt} (hp : Gd 0 p) {S : List (List UInt8)} (n : Nat) : ∀ {F G : Fo} {d : Nat} {ts r : List Tok}, chainL p S n F d ts = .ok G r → ∃ n, Lft n ts r ∧ G.cnt = F.cnt + n := by
 induction n with
 | zero => intro F G d ts r e; cases e
 | succ n ih =>
  intro F G d ts r e
  unfold chainL at e
  split at e
  ·rename_i h
   obtain ⟨F1, r1, e1, e2⟩ := bind_ok e
   obtain ⟨n1, l1, c1⟩ := joined_lft hp h e1
   obtain ⟨n2, l2, c2⟩ := ih e2
   exact ⟨n1 + n2, l1.trans l2, by omega⟩
  ·cases e; exact ⟨0, Lft.refl _, rfl⟩
theorem gd_chain {p : Pt} (hp : Gd 0 p) (S : List (List UInt8)) (n : Nat) : Gd 0 (chainP p S n) := fun d ts F r e => by
 obtain ⟨F1, r1, e1, e2⟩ := bind_ok e
 obtain ⟨m, l, c⟩ := chainL_lft hp n e2
 exact ((hp _ _ _ _ e1).trans l).mono (by omega)
theorem gd_pair {p : Pt} (hp : Gd 0 p) (S : List (List UInt8)) : Gd 0 (pairP p S) := fun d ts F r e => by
 obtain ⟨F1, r1, e1, e2⟩ := bind_ok e
 split at e2
 ·rename_i h
  obtain ⟨m, l, c⟩ := joined_lft hp h e2
  exact ((hp _ _ _ _ e1).trans l).mono (by omega)
 ·cases e2; exact hp _ _ _ _ e1
theorem typeK_kind {t : Tok} {q} (h : typeK t = some q) : t.kind = 2 ∨ t.kind = 6 := by
 unfold typeK at h
 split at h
 ·left; assumption
 ·split at h
  ·cases h
  ·right; simp_all
theorem gd_plainType : Gd 0 plainTypeP := fun d ts F r e => by
 unfold plainTypeP at e
 split at e
 ·rename_i q h
  cases e
  rcases typeK_kind h with k | k
  ·exact (lft_kind k (by decide) (by decide)).mono (by simp [Fo.cnt])
  ·exact (lft_kind k (by decide) (by decide)).mono (by simp [Fo.cnt])
 ·cases e
theorem gd_listType {p : Pt} (hp : Gd 0 p) : Gd 1 (listTypeP p) := fun d ts => ga_node (gd_within hp d ts)
theorem gd_type (n : Nat) : Gd 0 (typeP n) := by
 induction n with
 | zero => exact gd_stuck 0
 | succ n ih => exact gd_ite (fun d ts _ => (gd_listType ih).mono (by omega) d ts) gd_plainType
theorem constK_kind {t : Tok} {q} (h : constK t = some q) : t.kind = 3 ∨ t.kind = 4 ∨ t.kind = 5 ∨ t.kind = 6 := by
 unfold constK at h
 split at h
 ·left; assumption
 ·split at h
  ·right; left; assumption
  ·split at h
   ·right; right; left; assumption
   ·split at h
    ·cases h
    ·right; right; right; simp_all
theorem gd_const : Gd 0 constP := fun d ts F r e => by
 unfold constP at e
 split at e
 ·rename_i q h
  cases e
  rcases constK_kind h with k | k | k | k
  all_goals exact (lft_kind k (by decide) (by decide)).mono (by simp [Fo.cnt])
 ·cases e
section
variable {E : Pt} (hE : Gd 0 E) (n : Nat)
include hE
theorem ga_name {d : Nat} {ts : List Tok} (h : (hd ts).kind = 1) : GA 0 (nameP E n) d ts := fun F r e => by
 have ht := lft_kind h (by decide) (by decide)
 unfold nameP at e
 split at e
 ·obtain ⟨F1, r1, e1, e2⟩ := bind_ok e
  cases e2
  exact (ht.trans (gd_within (gd_listed hE n) _ _ _ _ e1)).mono (by simp [Fo.cnt]; omega)
 ·cases e; exact ht.mono (by simp [Fo.cnt])
theorem ga_make {d : Nat} {ts : List Tok} (h : sees [109, 97, 107, 101] ts = true) : GA 0 (makeP E n) d ts := by
 refine ga_node (ga_after (s := 0) h fun d ts F r e => ?_)
 split at e
 ·exact (gd_seq gd_plainType (gd_within gd_nothing) _ _ _ _ e).mono (by omega)
 ·exact (gd_seq (gd_listType (gd_type n)) (gd_within hE) _ _ _ _ e).mono (by omega)
theorem gd_atom : Gd 0 (atomP E n) := fun d ts F r e => by
 unfold atomP at e
 split at e
 ·exact (gd_within hE _ _ _ _ e).mono (by omega)
 ·split at e
  ·rename_i h; exact ga_make hE n h F r e
  ·split at e
   ·rename_i h; exact ga_name hE n h F r e
   ·exact gd_const _ _ _ _ e
theorem postL_lft (m : Nat) : ∀ {F G : Fo} {d : Nat} {ts r : List Tok}, postL E m F d ts = .ok G r → ∃ k, Lft k ts r ∧ G.cnt = F.cnt + k := by
 induction m with
 | zero => intro F G d ts r e; cases e
 | succ m ih =>
  intro F G d ts r e
  unfold postL at e
  split at e
  ·obtain ⟨F1, r1, e1, e2⟩ := bind_ok e
   obtain ⟨k, l, c⟩ := ih e2
   exact ⟨F1.cnt + 1 + k, (((gd_within hE _ _ _ _ e1).mono (n := F1.cnt + 1) (by omega)).trans l), by simp [Fo.cnt, cnt_app] at c; omega⟩
  ·split at e
   ·rename_i h
    obtain ⟨F1, r1, e1, e2⟩ := bind_ok e
    obtain ⟨k, l, c⟩ := ih e2
    exact ⟨1 + k, (((lft_sees h).trans (gd_kind 1 (by decide) (by decide) _ _ _ _ e1)).mono (n := 1) (by omega)).trans l, by simp [Fo.cnt] at c; omega⟩
   ·cases e; exact ⟨0, Lft.refl _, rfl⟩
theorem gd_post : Gd 0 (postP E n) := fun d ts F r e => by
 obtain ⟨F1, r1, e1, e2⟩ := bind_ok e
 obtain ⟨m, l, c⟩ := postL_lft hE n e2
 exact ((gd_atom hE n _ _ _ _ e1).trans l).mono (by omega)
end
theorem gd_unary {U p : Pt} (hU : Gd 0 U) (hp : Gd 0 p) : Gd 0 (unaryOf U p) := fun d ts F r e => by
 unfold unaryOf at e
 split at e
 ·rename_i h; exact ga_node (ga_deeper h hU) F r e
 ·split at e
  ·rename_i h; exact ga_node (ga_deeper h hU) F r e
  ·exact hp _ _ _ _ e
theorem gd_or {u : Pt} (h : Gd 0 u) (n : Nat) : Gd 0 (orP u n) := gd_chain (gd_chain (gd_pair (gd_pair (gd_chain (gd_chain h _ n) _ n) _) _) _ n) _ n
theorem gd_eu (n : Nat) : Gd 0 (exprP n) ∧ Gd 0 (unP n) := by
 induction n with
 | zero => exact ⟨gd_stuck 0, gd_stuck 0⟩
 | succ n ih =>
  have h := gd_unary ih.2 (gd_post ih.1 (n + 1))
  exact ⟨gd_or h (n + 1), h⟩
theorem gd_expr (n : Nat) : Gd 0 (exprP n) := (gd_eu n).1
theorem gd_un (n : Nat) : Gd 0 (unP n) := (gd_eu n).2

theorem gd_worded {k : Nat} {x : List UInt8} {l : List Pt} {d : Nat} {ts : List Tok} (h : sees x ts = true) (hl : Gd 0 (seqAll l)) : GA 0 (wordedP k l) d ts := ga_node (ga_after h hl)
theorem gd_all {l : List Pt} (h : ∀ p ∈ l, Gd 0 p) : Gd 0 (seqAll l) := by
 induction l with
 | nil => exact gd_nothing
 | cons p l ih => exact gd_seq (h p (by simp)) (ih fun q hq => h q (by simp [hq]))
theorem gd_set {E : Pt} (hE : Gd 0 E) : Gd 0 (setP E) := fun d ts F r e => by
 obtain ⟨F1, r1, e1, e2⟩ := bind_ok e
 split at e2
 ·obtain ⟨F2, r2, e3, e4⟩ := bind_ok e2
  cases e4
  have h2 := gd_seq (gd_take [61]) (gd_seq hE (gd_take [59])) _ _ _ _ e3
  exact ((hE _ _ _ _ e1).trans h2).mono (by simp [Fo.cnt, cnt_app]; omega)
 ·split at e2
  ·obtain ⟨F2, r2, e3, e4⟩ := bind_ok e2
   cases e4
   exact ((hE _ _ _ _ e1).trans (gd_take _ _ _ _ _ e3)).mono (by simp [Fo.cnt, cnt_app]; omega)
  ·cases e2
theorem gd_stmtOf {E B : Pt} (hE : Gd 0 E) (hB : Gd 0 B) (n : Nat) : Gd 0 (stmtOf E B n) := by
 have ht : ∀ x, Gd 0 (take x) := fun x => (gd_take x).mono (by omega)
 refine gd_ite (fun d ts h => ga_node (ga_after h (gd_all fun p hp => ?_))) (gd_ite (fun d ts h => gd_worded h (gd_all fun p hp => ?_)) (gd_ite (fun d ts h => gd_worded h (gd_all fun p hp => ?_)) (gd_ite (fun d ts h => gd_worded h (gd_all fun p hp => ?_)) (gd_ite (fun d ts h => gd_worded h (gd_all fun p hp => ?_)) (gd_set hE)))))
 ·simp only [List.mem_cons, List.not_mem_nil, or_false] at hp
  rcases hp with rfl | rfl | rfl | rfl | rfl | rfl
  ·exact (gd_kind 1 (by decide) (by decide)).mono (by omega)
  ·exact ht _
  ·exact gd_type n
  ·exact ht _
  ·exact hE
  ·exact ht _
 ·simp only [List.mem_cons, List.not_mem_nil, or_false] at hp
  rcases hp with rfl | rfl | rfl
  ·exact hE
  ·exact hB
  ·exact gd_ite (fun d ts h F r e => (ga_after h hB F r e).mono (by omega)) gd_nothing
 ·simp only [List.mem_cons, List.not_mem_nil, or_false] at hp
  rcases hp with rfl | rfl
  ·exact hE
  ·exact hB
 ·simp only [List.mem_cons, List.not_mem_nil, or_false] at hp
  rcases hp with rfl | rfl
  ·exact gd_ite (fun d ts _ => gd_nothing d ts) hE
  ·exact ht _
 ·simp only [List.mem_cons, List.not_mem_nil, or_false] at hp
  rcases hp with rfl | rfl
  ·exact hE
  ·exact ht _
theorem gd_block {S : Pt} (h : Gd 0 S) (n : Nat) : Gd 1 (blockOf S n) := fun d ts => ga_node (gd_within (gd_until h n) d ts)
theorem gd_stmt (n : Nat) : Gd 0 (stmtP n) := by
 induction n with
 | zero => exact gd_stuck 0
 | succ n ih => exact gd_stmtOf (gd_expr _) ((gd_block ih n).mono (by omega)) _
theorem gd_typed (k n : Nat) : Gd 1 (typedP k n) := fun d ts => ga_node (by
 have := gd_seq (gd_kind 1 (by decide) (by decide)) (gd_seq (gd_take [58]) (gd_seq (gd_type n) gd_nothing)) d ts
 exact fun F r e => (this F r e).mono (by omega))
theorem gd_field (n : Nat) : Gd 1 (fieldP n) := (gd_seq (gd_typed 3 n) (gd_take [59])).mono (by omega)
theorem ga_rec (n : Nat) {d : Nat} {ts : List Tok} (h : sees [114, 101, 99] ts = true) : GA 0 (recP n) d ts :=
 ga_node (ga_after (s := 0) h ((gd_seq (gd_kind 2 (by decide) (by decide)) (gd_within (gd_until ((gd_field n).mono (by omega)) n))).mono (by omega)))
theorem result_lft (n : Nat) {d : Nat} {ts r : List Tok} {F : Fo} (e : resultP n d ts = .ok F r) : Lft (F.cnt - 1) ts r := by
 unfold resultP at e
 split at e
 ·rename_i h; exact ((lft_sees h).trans (gd_type n _ _ _ _ e)).mono (by omega)
 ·cases e; exact (Lft.refl ts).mono (by simp [Fo.cnt])
theorem gd_fn (n : Nat) : Gd 0 (fnP n) := fun d ts F r e => by
 obtain ⟨F0, r0, e0, e1⟩ := bind_ok e
 obtain ⟨F1, r1, e2, e3⟩ := bind_ok e1
 obtain ⟨F2, r2, e4, e5⟩ := bind_ok e3
 cases e5
 have h0 := gd_take _ _ _ _ _ e0
 have h1 := gd_seq (gd_kind 1 (by decide) (by decide)) (gd_within (gd_listed ((gd_typed 5 n).mono (by omega)) n)) _ _ _ _ e2
 obtain ⟨F3, r3, e6, e7⟩ := bind_ok e4
 obtain ⟨F4, r4, e8, e9⟩ := bind_ok e7
 cases e9
 have h2 := (result_lft n e6).trans (gd_block (gd_stmt n) n _ _ _ _ e8)
 exact ((h0.trans h1).trans h2).mono (by simp [Fo.cnt, cnt_app]; omega)
theorem gd_decl (n : Nat) : Gd 0 (declP n) := gd_ite (fun d ts h => ga_rec n h) (gd_fn n)
theorem gd_progL {p : Pt} (hp : Gd 0 p) (n : Nat) : Gd 0 (progL p n) := by
 induction n with
 | zero => exact gd_stuck 0
 | succ n ih =>
  intro d ts F r e
  unfold progL at e
  split at e
  ·cases e; exact Lft.refl _
  ·obtain ⟨F1, r1, e1, e2⟩ := bind_ok e
   obtain ⟨F2, r2, e3, e4⟩ := bind_ok e2
   cases e4
   rw [cnt_app]
   exact ((hp _ _ _ _ e1).trans (ih _ _ _ _ e3)).mono (by omega)
end
end Go.Proofs.YtbknflaooemigaaGreat

namespace Go.Proofs.YtbknflaooemigaaGreat
section
set_option linter.unusedVariables false
set_option linter.unusedSimpArgs false

def One1 (F : Fo) : Prop := ∃ i k, F = .cons i k .nil ∧ 21 ≤ i.kind ∧ i.kind ≤ 32
def Sing (p : Pt) : Prop := ∀ d ts F r, p d ts = .ok F r → One1 F

theorem sing_node {mk : List Tok → Inf} {p : Pt} (h : ∀ ts, 21 ≤ (mk ts).kind ∧ (mk ts).kind ≤ 32) : Sing (nodeP mk p) := fun d ts F r e => by
 obtain ⟨F1, r1, e1, e2⟩ := bind_ok e
 cases e2
 exact ⟨_, _, rfl, h ts⟩
theorem nil_take {x : List UInt8} {d : Nat} {ts r : List Tok} {F : Fo} (e : take x d ts = .ok F r) : F = .nil := by
 unfold take passP at e
 split at e
 ·cases e; rfl
 ·cases e
theorem sing_within {o c : List UInt8} {p : Pt} (h : Sing p) : Sing (withinP o c p) := fun d ts F r e => by
 unfold withinP at e
 split at e
 ·obtain ⟨F1, r1, e1, e2⟩ := bind_ok e
  obtain ⟨F2, r2, e3, e4⟩ := bind_ok e2
  cases e4
  rw [nil_take e3, app_nil]
  unfold deeperP at e1
  split at e1
  ·cases e1
  ·exact h _ _ _ _ e1
 ·cases e
theorem sing_joined {p : Pt} {F : Fo} {d : Nat} {ts r : List Tok} {G : Fo} (e : joinedP p F d ts = .ok G r) : One1 G := by
 obtain ⟨F1, r1, e1, e2⟩ := bind_ok e
 cases e2
 exact ⟨_, _, rfl, by simp [mkK, mkX, mkY, mkN], by simp [mkK, mkX, mkY, mkN]⟩
theorem sing_chainL {p : Pt} {S : List (List UInt8)} (n : Nat) : ∀ {F G : Fo} {d : Nat} {ts r : List Tok}, One1 F → chainL p S n F d ts = .ok G r → One1 G := by
 induction n with
 | zero => intro F G d ts r _ e; cases e
 | succ n ih =>
  intro F G d ts r hF e
  unfold chainL at e
  split at e
  ·obtain ⟨F1, r1, e1, e2⟩ := bind_ok e
   exact ih (sing_joined e1) e2
  ·cases e; exact hF
theorem sing_chain {p : Pt} (h : Sing p) (S : List (List UInt8)) (n : Nat) : Sing (chainP p S n) := fun d ts F r e => by
 obtain ⟨F1, r1, e1, e2⟩ := bind_ok e
 exact sing_chainL n (h _ _ _ _ e1) e2
theorem sing_pair {p : Pt} (h : Sing p) (S : List (List UInt8)) : Sing (pairP p S) := fun d ts F r e => by
 obtain ⟨F1, r1, e1, e2⟩ := bind_ok e
 split at e2
 ·exact sing_joined e2
 ·cases e2; exact h _ _ _ _ e1
theorem constK_sing {t : Tok} {q} (h : constK t = some q) : 21 ≤ q.1 ∧ q.1 ≤ 32 := by
 unfold constK at h
 repeat' split at h
 all_goals first | (cases h; simp) | cases h
theorem sing_const : Sing constP := fun d ts F r e => by
 unfold constP at e
 split at e
 ·rename_i q h
  cases e
  exact ⟨_, _, rfl, constK_sing h⟩
 ·cases e
theorem sing_name {E : Pt} {n : Nat} : Sing (nameP E n) := fun d ts F r e => by
 unfold nameP at e
 split at e
 ·exact sing_node (fun ts => ⟨by simp [mkK, mkX, mkY, mkN], by simp [mkK, mkX, mkY, mkN]⟩) _ _ _ _ e
 ·cases e; exact ⟨_, _, rfl, by simp [mkK, mkX, mkY, mkN], by simp [mkK, mkX, mkY, mkN]⟩
theorem sing_atom {E : Pt} (h : Sing E) (n : Nat) : Sing (atomP E n) := fun d ts F r e => by
 unfold atomP at e
 split at e
 ·exact sing_within h _ _ _ _ e
 ·split at e
  ·exact sing_node (fun ts => ⟨by simp [mkK, mkX, mkY, mkN], by simp [mkK, mkX, mkY, mkN]⟩) _ _ _ _ e
  ·split at e
   ·exact sing_name _ _ _ _ e
   ·exact sing_const _ _ _ _ e
theorem sing_postL {E : Pt} (n : Nat) : ∀ {F G : Fo} {d : Nat} {ts r : List Tok}, One1 F → postL E n F d ts = .ok G r → One1 G := by
 induction n with
 | zero => intro F G d ts r _ e; cases e
 | succ n ih =>
  intro F G d ts r hF e
  unfold postL at e
  split at e
  ·obtain ⟨F1, r1, e1, e2⟩ := bind_ok e
   exact ih ⟨_, _, rfl, by simp [mkK, mkX, mkY, mkN], by simp [mkK, mkX, mkY, mkN]⟩ e2
  ·split at e
   ·obtain ⟨F1, r1, e1, e2⟩ := bind_ok e
    exact ih ⟨_, _, rfl, by simp [mkK, mkX, mkY, mkN], by simp [mkK, mkX, mkY, mkN]⟩ e2
   ·cases e; exact hF
theorem sing_post {E : Pt} (h : Sing E) (n : Nat) : Sing (postP E n) := fun d ts F r e => by
 obtain ⟨F1, r1, e1, e2⟩ := bind_ok e
 exact sing_postL n (sing_atom h n _ _ _ _ e1) e2
theorem sing_unary {U p : Pt} (h : Sing p) : Sing (unaryOf U p) := fun d ts F r e => by
 unfold unaryOf at e
 split at e
 ·exact sing_node (fun ts => ⟨by simp [mkK, mkX, mkY, mkN], by simp [mkK, mkX, mkY, mkN]⟩) _ _ _ _ e
 ·split at e
  ·exact sing_node (fun ts => ⟨by simp [mkK, mkX, mkY, mkN], by simp [mkK, mkX, mkY, mkN]⟩) _ _ _ _ e
  ·exact h _ _ _ _ e
theorem sing_or {u : Pt} (h : Sing u) (n : Nat) : Sing (orP u n) := sing_chain (sing_chain (sing_pair (sing_pair (sing_chain (sing_chain h _ n) _ n) _) _) _ n) _ n
theorem sing_eu (n : Nat) : Sing (exprP n) ∧ Sing (unP n) := by
 induction n with
 | zero => exact ⟨(fun d ts F r e => by cases e), (fun d ts F r e => by cases e)⟩
 | succ n ih =>
  have h := sing_unary (U := unP n) (sing_post ih.1 (n + 1))
  exact ⟨sing_or h (n + 1), h⟩
theorem sing_expr (n : Nat) : Sing (exprP n) := (sing_eu n).1

theorem one_node {mk : List Tok → Inf} {p : Pt} {d : Nat} {ts r : List Tok} {F : Fo} (e : nodeP mk p d ts = .ok F r) : 1 ≤ F.cnt := by
 obtain ⟨F1, r1, e1, e2⟩ := bind_ok e
 cases e2
 simp [Fo.cnt]
theorem one_field {n d : Nat} {ts r : List Tok} {F : Fo} (e : fieldP n d ts = .ok F r) : 1 ≤ F.cnt := by
 obtain ⟨F1, r1, e1, e2⟩ := bind_ok e
 obtain ⟨F2, r2, e3, e4⟩ := bind_ok e2
 cases e4
 have := one_node e1
 rw [cnt_app]; omega
theorem one_set {E : Pt} {d : Nat} {ts r : List Tok} {F : Fo} (e : setP E d ts = .ok F r) : 1 ≤ F.cnt := by
 obtain ⟨F1, r1, e1, e2⟩ := bind_ok e
 split at e2
 ·obtain ⟨F2, r2, e3, e4⟩ := bind_ok e2
  cases e4; simp [Fo.cnt]
 ·split at e2
  ·obtain ⟨F2, r2, e3, e4⟩ := bind_ok e2
   cases e4; simp [Fo.cnt]
  ·cases e2
theorem one_stmt (n : Nat) {d : Nat} {ts r : List Tok} {F : Fo} (e : stmtP n d ts = .ok F r) : 1 ≤ F.cnt := by
 cases n with
 | zero => cases e
 | succ n =>
  simp only [stmtP, stmtOf, iteP] at e
  repeat' split at e
  all_goals first | exact one_node e | exact one_set e
theorem one_fn (n : Nat) {d : Nat} {ts r : List Tok} {F : Fo} (e : fnP n d ts = .ok F r) : 1 ≤ F.cnt := by
 obtain ⟨F0, r0, e0, e1⟩ := bind_ok e
 obtain ⟨F1, r1, e2, e3⟩ := bind_ok e1
 obtain ⟨F2, r2, e4, e5⟩ := bind_ok e3
 cases e5
 simp [Fo.cnt]
theorem one_decl (n : Nat) {d : Nat} {ts r : List Tok} {F : Fo} (e : declP n d ts = .ok F r) : 1 ≤ F.cnt := by
 unfold declP iteP at e
 split at e
 ·exact one_node e
 ·exact one_fn n e
end
end Go.Proofs.YtbknflaooemigaaGreat
