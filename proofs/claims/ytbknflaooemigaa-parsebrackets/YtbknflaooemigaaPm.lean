/-
  The document's grammar over lists of tokens, with trees as forests: what is read next, what is left. No function of the program is spoken of. Conditions: as said.
-/
import Derived.Test.YtbknflaooemigaaTok
import Derived.Test.YtbknflaooemigaaNd
namespace Go.Proofs.Ytbknflaooemigaa
set_option linter.unusedVariables false

/-- What a node is, but for its size. -/
structure Inf where
  kind : Nat
  line : Nat
  col : Nat
  num : Int
  text : List UInt8

/-- Trees in a row: the first one's root, its children, the other trees. -/
inductive Fo where
  | nil : Fo
  | cons (i : Inf) (k r : Fo) : Fo

def Inf.nd (i : Inf) (n : Nat) : Nd := ⟨i.kind, i.line, i.col, n, i.num, bs i.text⟩
def Fo.app : Fo → Fo → Fo
  | .nil, g => g
  | .cons i k r, g => .cons i k (r.app g)
def Fo.cnt : Fo → Nat
  | .nil => 0
  | .cons _ k r => k.cnt + 1 + r.cnt
/-- Each node behind its children. -/
def Fo.post : Fo → List Nd
  | .nil => []
  | .cons i k r => k.post ++ i.nd k.cnt :: r.post
/-- Each node ahead of its children. -/
def Fo.pre : Fo → List Nd
  | .nil => []
  | .cons i k r => i.nd k.cnt :: (k.pre ++ r.pre)

theorem app_nil (F : Fo) : F.app .nil = F := by
  induction F with
  | nil => rfl
  | cons i k r _ ih => simp [Fo.app, ih]
theorem app_assoc (F G H : Fo) : (F.app G).app H = F.app (G.app H) := by
  induction F with
  | nil => rfl
  | cons i k r _ ih => simp [Fo.app, ih]
theorem cnt_app (F G : Fo) : (F.app G).cnt = F.cnt + G.cnt := by
  induction F with
  | nil => simp [Fo.app, Fo.cnt]
  | cons i k r _ ih => simp [Fo.app, Fo.cnt, ih]; omega
theorem post_app (F G : Fo) : (F.app G).post = F.post ++ G.post := by
  induction F with
  | nil => rfl
  | cons i k r _ ih => simp [Fo.app, Fo.post, ih]
theorem pre_app (F G : Fo) : (F.app G).pre = F.pre ++ G.pre := by
  induction F with
  | nil => rfl
  | cons i k r _ ih => simp [Fo.app, Fo.pre, ih]
theorem post_len (F : Fo) : F.post.length = F.cnt := by
  induction F with
  | nil => rfl
  | cons i k r ihk ihr => simp [Fo.post, Fo.cnt, ihk, ihr]; omega
theorem pre_len (F : Fo) : F.pre.length = F.cnt := by
  induction F with
  | nil => rfl
  | cons i k r ihk ihr => simp [Fo.pre, Fo.cnt, ihk, ihr]; omega

/-- What comes of reading: trees and what is left, or a fault. -/
inductive Out where
  | ok (F : Fo) (r : List Tok) : Out
  | bad (c : Int) (l k : Nat) : Out
def Out.bind : Out → (Fo → List Tok → Out) → Out
  | .ok F r, f => f F r
  | .bad c l k, _ => .bad c l k
/-- How deep, the tokens: what comes of it. -/
abbrev Pt := Nat → List Tok → Out

def tok0 : Tok := ⟨0, 0, 0, 0, []⟩
def hd (ts : List Tok) : Tok := ts.headD tok0
def seesT (x : List UInt8) (t : Tok) : Bool := decide ((t.kind = 6 ∨ t.kind = 7) ∧ t.text = x)
def sees (x : List UInt8) (ts : List Tok) : Bool := seesT x (hd ts)
def badAt (c : Int) (ts : List Tok) : Out := .bad c (hd ts).line (hd ts).col
def nothingP : Pt := fun _ ts => .ok .nil ts
def stuckP : Pt := fun _ _ => .bad 5 0 0
def passP (q : List Tok → Bool) : Pt := fun _ ts => if q ts = true then .ok .nil ts.tail else badAt 5 ts
def take (x : List UInt8) : Pt := passP (sees x)
def kindP (k : Nat) : Pt := passP (fun ts => decide ((hd ts).kind = k))
def seqP (a b : Pt) : Pt := fun d ts => (a d ts).bind fun F r => (b d r).bind fun G r' => .ok (F.app G) r'
def afterP (p : Pt) : Pt := fun d ts => p d ts.tail
def iteP (x : List UInt8) (a b : Pt) : Pt := fun d ts => if sees x ts = true then a d ts else b d ts
def deeperP (p : Pt) : Pt := fun d ts => if d = 40 then badAt 6 ts else p (d + 1) ts.tail
def withinP (o c : List UInt8) (p : Pt) : Pt := fun d ts => if sees o ts = true then seqP (deeperP p) (take c) d ts else badAt 5 ts
def nodeP (mk : List Tok → Inf) (p : Pt) : Pt := fun d ts => (p d ts).bind fun F r => .ok (.cons (mk ts) F .nil) r
def untilP (x : List UInt8) (p : Pt) : Nat → Pt
  | 0 => stuckP
  | n + 1 => fun d ts => if sees x ts = true then .ok .nil ts else (p d ts).bind fun F r => (untilP x p n d r).bind fun G r' => .ok (F.app G) r'
def listL (p : Pt) : Nat → Pt
  | 0 => stuckP
  | n + 1 => fun d ts => (p d ts).bind fun F r => if sees [44] r = true then (listL p n d r.tail).bind fun G r' => .ok (F.app G) r' else .ok F r
def listedP (p : Pt) (n : Nat) : Pt := iteP [41] nothingP (listL p n)

def opOf (x : List UInt8) : Int :=
  if x = [43] then 1 else if x = [45] then 2 else if x = [42] then 3 else if x = [47] then 4 else if x = [37] then 5 else if x = [61, 61] then 6 else if x = [33, 61] then 7
  else if x = [60] then 8 else if x = [60, 61] then 9 else if x = [62] then 10 else if x = [62, 61] then 11 else if x = [38, 38] then 14 else 15
def anyS (S : List (List UInt8)) (ts : List Tok) : Bool := S.any fun x => sees x ts
def joinedP (p : Pt) (F : Fo) : Pt := fun d ts => (p d ts.tail).bind fun G r => .ok (.cons ⟨31, (hd ts).line, (hd ts).col, opOf (hd ts).text, []⟩ (F.app G) .nil) r
def chainL (p : Pt) (S : List (List UInt8)) : Nat → Fo → Pt
  | 0, _ => stuckP
  | n + 1, F => fun d ts => if anyS S ts = true then (joinedP p F d ts).bind fun G r => chainL p S n G d r else .ok F ts
def chainP (p : Pt) (S : List (List UInt8)) (n : Nat) : Pt := fun d ts => (p d ts).bind fun F r => chainL p S n F d r
def pairP (p : Pt) (S : List (List UInt8)) : Pt := fun d ts => (p d ts).bind fun F r => if anyS S r = true then joinedP p F d r else .ok F r

/-- A node of a kind at the next token's place. -/
def mkK (k : Nat) (ts : List Tok) : Inf := ⟨k, (hd ts).line, (hd ts).col, 0, []⟩
def mkN (k : Nat) (n : Int) (ts : List Tok) : Inf := ⟨k, (hd ts).line, (hd ts).col, n, []⟩
/-- .. with the next token's text. -/
def mkX (k : Nat) (ts : List Tok) : Inf := ⟨k, (hd ts).line, (hd ts).col, 0, (hd ts).text⟩
/-- .. with the text of the one behind. -/
def mkY (k : Nat) (ts : List Tok) : Inf := ⟨k, (hd ts).line, (hd ts).col, 0, (hd ts.tail).text⟩

def typeK (t : Tok) : Option (Nat × List UInt8) :=
  if t.kind = 2 then some (19, t.text) else if t.kind ≠ 6 then none
  else if t.text = [105, 110, 116] then some (15, []) else if t.text = [98, 111, 111, 108] then some (16, []) else if t.text = [115, 116, 114] then some (17, []) else if t.text = [99, 111, 109, 112] then some (18, []) else none
def plainTypeP : Pt := fun d ts => match typeK (hd ts) with
  | some q => .ok (.cons ⟨q.1, (hd ts).line, (hd ts).col, 0, q.2⟩ .nil .nil) ts.tail
  | none => badAt 5 ts
def listTypeP (p : Pt) : Pt := nodeP (mkK 20) (withinP [91] [93] p)
def typeP : Nat → Pt
  | 0 => stuckP
  | n + 1 => iteP [91] (listTypeP (typeP n)) plainTypeP
def constK (t : Tok) : Option (Nat × Int × List UInt8) :=
  if t.kind = 3 then some (21, t.num, []) else if t.kind = 4 then some (22, t.num, []) else if t.kind = 5 then some (23, 0, t.text) else if t.kind ≠ 6 then none
  else if t.text = [116, 114, 117, 101] then some (24, 1, []) else if t.text = [102, 97, 108, 115, 101] then some (24, 0, []) else if t.text = [110, 105, 108] then some (25, 0, []) else none
def constP : Pt := fun d ts => match constK (hd ts) with
  | some q => .ok (.cons ⟨q.1, (hd ts).line, (hd ts).col, q.2.1, q.2.2⟩ .nil .nil) ts.tail
  | none => badAt 5 ts
def nameP (E : Pt) (n : Nat) : Pt := fun d ts => if sees [40] ts.tail = true then nodeP (mkX 27) (afterP (withinP [40] [41] (listedP E n))) d ts else .ok (.cons (mkX 26 ts) .nil .nil) ts.tail
def makeP (E : Pt) (n : Nat) : Pt := nodeP (mkK 32) (afterP fun d ts => if (hd ts).kind = 2 then seqP plainTypeP (withinP [40] [41] nothingP) d ts else seqP (listTypeP (typeP n)) (withinP [40] [41] E) d ts)
def atomP (E : Pt) (n : Nat) : Pt := fun d ts => if sees [40] ts = true then withinP [40] [41] E d ts else if sees [109, 97, 107, 101] ts = true then makeP E n d ts else if (hd ts).kind = 1 then nameP E n d ts else constP d ts
def postL (E : Pt) : Nat → Fo → Pt
  | 0, _ => stuckP
  | n + 1, F => fun d ts => if sees [91] ts = true then (withinP [91] [93] E d ts).bind fun G r => postL E n (.cons (mkK 28 ts) (F.app G) .nil) d r
    else if sees [46] ts = true then (kindP 1 d ts.tail).bind fun _ r => postL E n (.cons (mkY 29 ts) F .nil) d r else .ok F ts
def postP (E : Pt) (n : Nat) : Pt := fun d ts => (atomP E n d ts).bind fun F r => postL E n F d r
def unaryOf (U p : Pt) : Pt := fun d ts => if sees [45] ts = true then nodeP (mkN 30 12) (deeperP U) d ts else if sees [33] ts = true then nodeP (mkN 30 13) (deeperP U) d ts else p d ts
def termP (u : Pt) (n : Nat) : Pt := chainP u [[42], [47], [37]] n
def sumP (u : Pt) (n : Nat) : Pt := chainP (termP u n) [[43], [45]] n
def lessP (u : Pt) (n : Nat) : Pt := pairP (sumP u n) [[60], [60, 61], [62], [62, 61]]
def equalP (u : Pt) (n : Nat) : Pt := pairP (lessP u n) [[61, 61], [33, 61]]
def andP (u : Pt) (n : Nat) : Pt := chainP (equalP u n) [[38, 38]] n
def orP (u : Pt) (n : Nat) : Pt := chainP (andP u n) [[124, 124]] n
/-- Expressions, and those of unary signs, of so many tokens. -/
def eu : Nat → Pt × Pt
  | 0 => (stuckP, stuckP)
  | n + 1 => (orP (unaryOf (eu n).2 (postP (eu n).1 (n + 1))) (n + 1), unaryOf (eu n).2 (postP (eu n).1 (n + 1)))
def exprP (n : Nat) : Pt := (eu n).1
def unP (n : Nat) : Pt := (eu n).2
theorem exprP_succ (n : Nat) : exprP (n + 1) = orP (unP (n + 1)) (n + 1) := rfl
theorem unP_succ (n : Nat) : unP (n + 1) = unaryOf (unP n) (postP (exprP n) (n + 1)) := rfl

def seqAll : List Pt → Pt
  | [] => nothingP
  | p :: l => seqP p (seqAll l)
def wordedP (k : Nat) (l : List Pt) : Pt := nodeP (mkK k) (afterP (seqAll l))
def rootK : Fo → Nat
  | .cons i _ _ => i.kind
  | .nil => 0
def setP (E : Pt) : Pt := fun d ts => (E d ts).bind fun F r =>
  if rootK F = 26 ∨ rootK F = 28 ∨ rootK F = 29 then (seqP (take [61]) (seqP E (take [59])) d r).bind fun G r' => .ok (.cons (mkK 8 ts) (F.app G) .nil) r'
  else if rootK F = 27 then (take [59] d r).bind fun G r' => .ok (.cons (mkK 13 ts) (F.app G) .nil) r' else badAt 5 r
def varP (E : Pt) (n : Nat) : Pt := nodeP (mkY 7) (afterP (seqAll [kindP 1, take [58], typeP n, take [61], E, take [59]]))
def elseP (B : Pt) : Pt := iteP [101, 108, 115, 101] (afterP B) nothingP
def answerP (E : Pt) : Pt := iteP [59] nothingP E
def stmtOf (E B : Pt) (n : Nat) : Pt := iteP [118, 97, 114] (varP E n) (iteP [105, 102] (wordedP 9 [E, B, elseP B]) (iteP [119, 104, 105, 108, 101] (wordedP 10 [E, B])
  (iteP [114, 101, 116, 117, 114, 110] (wordedP 11 [answerP E, take [59]]) (iteP [112, 114, 105, 110, 116] (wordedP 12 [E, take [59]]) (setP E)))))
def blockOf (S : Pt) (n : Nat) : Pt := nodeP (mkK 6) (withinP [123] [125] (untilP [125] S n))
def stmtP : Nat → Pt
  | 0 => stuckP
  | n + 1 => stmtOf (exprP (n + 1)) (blockOf (stmtP n) n) (n + 1)
def typedP (k n : Nat) : Pt := nodeP (mkX k) (seqAll [kindP 1, take [58], typeP n])
def fieldP (n : Nat) : Pt := seqP (typedP 3 n) (take [59])
def recP (n : Nat) : Pt := nodeP (mkY 2) (afterP (seqP (kindP 2) (withinP [123] [125] (untilP [125] (fieldP n) n))))
def resultP (n : Nat) : Pt := fun d ts => if sees [58] ts = true then typeP n d ts.tail else .ok (.cons ⟨14, 0, 0, 0, []⟩ .nil .nil) ts
def cntK (k : Nat) (l : List Nd) : Nat := (l.filter fun n => decide (n.kind = k)).length
def fnP (n : Nat) : Pt := fun d ts => (take [102, 110] d ts).bind fun _ r => (seqP (kindP 1) (withinP [40] [41] (listedP (typedP 5 n) n)) d r).bind fun F r1 =>
  (seqP (resultP n) (blockOf (stmtP n) n) d r1).bind fun G r2 => .ok (.cons ⟨4, (hd ts).line, (hd ts).col, (cntK 5 F.post : Nat), (hd r).text⟩ (F.app G) .nil) r2
def declP (n : Nat) : Pt := iteP [114, 101, 99] (recP n) (fnP n)
def progL (p : Pt) : Nat → Pt
  | 0 => stuckP
  | n + 1 => fun d ts => if (hd ts).kind = 8 then .ok .nil ts else (p d ts).bind fun F r => (progL p n d r).bind fun G r' => .ok (F.app G) r'
def progP (n : Nat) : Pt := fun d ts => (progL (declP n) n d ts).bind fun F r => .ok (.cons ⟨1, 1, 1, 0, []⟩ F .nil) r
/-- All of a text. -/
def wholeP (p : Pt) (ts : List Tok) : Out := (p 0 ts).bind fun F r => if (hd r).kind = 8 then .ok F r else badAt 5 r

end Go.Proofs.Ytbknflaooemigaa
