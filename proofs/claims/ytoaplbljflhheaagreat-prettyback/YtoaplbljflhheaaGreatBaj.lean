/-
 Contracts and plain facts on the way to PrettyBack. Conditions: as each says.
-/
import Derived.Test.YtoaplbljflhheaaGreatBag
import Derived.Test.YtoaplbljflhheaaGreatBad
import Derived.ScopeJumps
import Derived.WalkMore
import Derived.Test.YtoaplbljflhheaaGreatBab
set_option maxHeartbeats 40000000
set_option maxRecDepth 100000
set_option linter.unusedVariables false
set_option linter.unusedSimpArgs false
namespace Go.Proofs.YtoaplbljflhheaaGreat
open _root_.Go.Proofs.Tryz
section
section
structure Inf where
 kind : Nat
 line : Nat
 col : Nat
 num : Int
 text : List UInt8
inductive Fo where
 | nil : Fo
 | cons (i : Inf) (k r : Fo) : Fo
def Inf.nd (i : Inf) (n : Nat) : Nd := ⟨i.kind, i.line, i.col, n, i.num, bs i.text⟩
def Fo.app : Fo -> Fo -> Fo
 | .nil, g => g
 | .cons i k r, g => .cons i k (r.app g)
def Fo.cnt : Fo -> Nat
 | .nil => 0
 | .cons _ k r => k.cnt + 1 + r.cnt
def Fo.post : Fo -> List Nd
 | .nil => []
 | .cons i k r => k.post ++ i.nd k.cnt :: r.post
def Fo.pre : Fo -> List Nd
 | .nil => []
 | .cons i k r => i.nd k.cnt :: (k.pre ++ r.pre)
theorem Nl (F : Fo) : F.app .nil = F := by
 induction F with
 | nil => rfl
 | cons i k r _ ih => simp [Fo.app, ih]
theorem Mx (F G H : Fo) : (F.app G).app H = F.app (G.app H) := by
 induction F with
 | nil => rfl
 | cons i k r _ ih => simp [Fo.app, ih]
theorem Bx (F G : Fo) : (F.app G).cnt = F.cnt + G.cnt := by
 induction F with
 | nil => simp [Fo.app, Fo.cnt]
 | cons i k r _ ih => simp [Fo.app, Fo.cnt, ih]; omega
theorem Bo (F G : Fo) : (F.app G).post = F.post ++ G.post := by
 induction F with
 | nil => rfl
 | cons i k r _ ih => simp [Fo.app, Fo.post, ih]
theorem Ao (F : Fo) : F.post.length = F.cnt := by
 induction F with
 | nil => rfl
 | cons i k r ihk ihr => simp [Fo.post, Fo.cnt, ihk, ihr]; omega
theorem Cz (F : Fo) : F.pre.length = F.cnt := by
 induction F with
 | nil => rfl
 | cons i k r ihk ihr => simp [Fo.pre, Fo.cnt, ihk, ihr]; omega
inductive Out where
 | ok (F : Fo) (r : List Tok) : Out
 | bad (c : Int) (l k : Nat) : Out
def Out.bind : Out -> (Fo -> List Tok -> Out) -> Out
 | .ok F r, f => f F r
 | .bad c l k, _ => .bad c l k
abbrev Pt := Nat -> List Tok -> Out
def c1s : Tok := ⟨0, 0, 0, 0, []⟩
def hd (ts : List Tok) : Tok := ts.headD c1s
def Lr (x : List UInt8) (t : Tok) : Bool := decide ((t.kind = 6 ∨ t.kind = 7) ∧ t.text = x)
def sees (x : List UInt8) (ts : List Tok) : Bool := Lr x (hd ts)
def N7 (c : Int) (ts : List Tok) : Out := .bad c (hd ts).line (hd ts).col
def Bb : Pt := fun _ ts => .ok .nil ts
def Jm : Pt := fun _ _ => .bad 5 0 0
def Jv (q : List Tok -> Bool) : Pt := fun _ ts => if q ts = true then .ok .nil ts.tail else N7 5 ts
def take (x : List UInt8) : Pt := Jv (sees x)
def Hc (k : Nat) : Pt := Jv (fun ts => decide ((hd ts).kind = k))
def Fd (a b : Pt) : Pt := fun d ts => (a d ts).bind fun F r => (b d r).bind fun G r' => .ok (F.app G) r'
def Ci (p : Pt) : Pt := fun d ts => p d ts.tail
def Hp (x : List UInt8) (a b : Pt) : Pt := fun d ts => if sees x ts = true then a d ts else b d ts
def C9 (p : Pt) : Pt := fun d ts => if d = 40 then N7 6 ts else p (d + 1) ts.tail
def Az (o c : List UInt8) (p : Pt) : Pt := fun d ts => if sees o ts = true then Fd (C9 p) (take c) d ts else N7 5 ts
def B7 (mk : List Tok -> Inf) (p : Pt) : Pt := fun d ts => (p d ts).bind fun F r => .ok (.cons (mk ts) F .nil) r
def Cx (x : List UInt8) (p : Pt) : Nat -> Pt
 | 0 => Jm
 | n + 1 => fun d ts => if sees x ts = true then .ok .nil ts else (p d ts).bind fun F r => (Cx x p n d r).bind fun G r' => .ok (F.app G) r'
def I8 (p : Pt) : Nat -> Pt
 | 0 => Jm
 | n + 1 => fun d ts => (p d ts).bind fun F r => if sees [44] r = true then (I8 p n d r.tail).bind fun G r' => .ok (F.app G) r' else .ok F r
def Ee (p : Pt) (n : Nat) : Pt := Hp [41] Bb (I8 p n)
def Lf (x : List UInt8) : Int :=
 if x = [43] then 1 else if x = [45] then 2 else if x = [42] then 3 else if x = [47] then 4 else if x = [37] then 5 else if x = [61, 61] then 6 else if x = [33, 61] then 7
 else if x = [60] then 8 else if x = [60, 61] then 9 else if x = [62] then 10 else if x = [62, 61] then 11 else if x = [38, 38] then 14 else 15
def anyS (S : List (List UInt8)) (ts : List Tok) : Bool := S.any fun x => sees x ts
def Ds (p : Pt) (F : Fo) : Pt := fun d ts => (p d ts.tail).bind fun G r => .ok (.cons ⟨31, (hd ts).line, (hd ts).col, Lf (hd ts).text, []⟩ (F.app G) .nil) r
def C4 (p : Pt) (S : List (List UInt8)) : Nat -> Fo -> Pt
 | 0, _ => Jm
 | n + 1, F => fun d ts => if anyS S ts = true then (Ds p F d ts).bind fun G r => C4 p S n G d r else .ok F ts
def Dc (p : Pt) (S : List (List UInt8)) (n : Nat) : Pt := fun d ts => (p d ts).bind fun F r => C4 p S n F d r
def Ld (p : Pt) (S : List (List UInt8)) : Pt := fun d ts => (p d ts).bind fun F r => if anyS S r = true then Ds p F d r else .ok F r
def mkK (k : Nat) (ts : List Tok) : Inf := ⟨k, (hd ts).line, (hd ts).col, 0, []⟩
def mkN (k : Nat) (n : Int) (ts : List Tok) : Inf := ⟨k, (hd ts).line, (hd ts).col, n, []⟩
def mkX (k : Nat) (ts : List Tok) : Inf := ⟨k, (hd ts).line, (hd ts).col, 0, (hd ts).text⟩
def mkY (k : Nat) (ts : List Tok) : Inf := ⟨k, (hd ts).line, (hd ts).col, 0, (hd ts.tail).text⟩
def Lc (t : Tok) : Option (Nat × List UInt8) :=
 if t.kind = 2 then some (19, t.text) else if t.kind ≠ 6 then none
 else if t.text = [105, 110, 116] then some (15, []) else if t.text = [98, 111, 111, 108] then some (16, []) else if t.text = [115, 116, 114] then some (17, []) else if t.text = [99, 111, 109, 112] then some (18, []) else none
def Ba : Pt := fun d ts => match Lc (hd ts) with
 | some q => .ok (.cons ⟨q.1, (hd ts).line, (hd ts).col, 0, q.2⟩ .nil .nil) ts.tail
 | none => N7 5 ts
def Bq (p : Pt) : Pt := B7 (mkK 20) (Az [91] [93] p)
def Eb : Nat -> Pt
 | 0 => Jm
 | n + 1 => Hp [91] (Bq (Eb n)) Ba
def Cc (t : Tok) : Option (Nat × Int × List UInt8) :=
 if t.kind = 3 then some (21, t.num, []) else if t.kind = 4 then some (22, t.num, []) else if t.kind = 5 then some (23, 0, t.text) else if t.kind ≠ 6 then none
 else if t.text = [116, 114, 117, 101] then some (24, 1, []) else if t.text = [102, 97, 108, 115, 101] then some (24, 0, []) else if t.text = [110, 105, 108] then some (25, 0, []) else none
def Hv : Pt := fun d ts => match Cc (hd ts) with
 | some q => .ok (.cons ⟨q.1, (hd ts).line, (hd ts).col, q.2.1, q.2.2⟩ .nil .nil) ts.tail
 | none => N7 5 ts
def H7 (E : Pt) (n : Nat) : Pt := fun d ts => if sees [40] ts.tail = true then B7 (mkX 27) (Ci (Az [40] [41] (Ee E n))) d ts else .ok (.cons (mkX 26 ts) .nil .nil) ts.tail
def Lu (E : Pt) (n : Nat) : Pt := B7 (mkK 32) (Ci fun d ts => if (hd ts).kind = 2 then Fd Ba (Az [40] [41] Bb) d ts else Fd (Bq (Eb n)) (Az [40] [41] E) d ts)
def Fk (E : Pt) (n : Nat) : Pt := fun d ts => if sees [40] ts = true then Az [40] [41] E d ts else if sees [109, 97, 107, 101] ts = true then Lu E n d ts else if (hd ts).kind = 1 then H7 E n d ts else Hv d ts
def Dl (E : Pt) : Nat -> Fo -> Pt
 | 0, _ => Jm
 | n + 1, F => fun d ts => if sees [91] ts = true then (Az [91] [93] E d ts).bind fun G r => Dl E n (.cons (mkK 28 ts) (F.app G) .nil) d r
  else if sees [46] ts = true then (Hc 1 d ts.tail).bind fun _ r => Dl E n (.cons (mkY 29 ts) F .nil) d r else .ok F ts
def I7 (E : Pt) (n : Nat) : Pt := fun d ts => (Fk E n d ts).bind fun F r => Dl E n F d r
def Dm (U p : Pt) : Pt := fun d ts => if sees [45] ts = true then B7 (mkN 30 12) (C9 U) d ts else if sees [33] ts = true then B7 (mkN 30 13) (C9 U) d ts else p d ts
def b3e (u : Pt) (n : Nat) : Pt := Dc u [[42], [47], [37]] n
def c1u (u : Pt) (n : Nat) : Pt := Dc (b3e u n) [[43], [45]] n
def b4x (u : Pt) (n : Nat) : Pt := Ld (c1u u n) [[60], [60, 61], [62], [62, 61]]
def a5r (u : Pt) (n : Nat) : Pt := Ld (b4x u n) [[61, 61], [33, 61]]
def c2x (u : Pt) (n : Nat) : Pt := Dc (a5r u n) [[38, 38]] n
def orP (u : Pt) (n : Nat) : Pt := Dc (c2x u n) [[124, 124]] n
def eu : Nat -> Pt × Pt
 | 0 => (Jm, Jm)
 | n + 1 => (orP (Dm (eu n).2 (I7 (eu n).1 (n + 1))) (n + 1), Dm (eu n).2 (I7 (eu n).1 (n + 1)))
def Bu (n : Nat) : Pt := (eu n).1
def unP (n : Nat) : Pt := (eu n).2
theorem Nc (n : Nat) : Bu (n + 1) = orP (unP (n + 1)) (n + 1) := rfl
theorem Yd (n : Nat) : unP (n + 1) = Dm (unP n) (I7 (Bu n) (n + 1)) := rfl
def Cv : List Pt -> Pt
 | [] => Bb
 | p :: l => Fd p (Cv l)
def C6 (k : Nat) (l : List Pt) : Pt := B7 (mkK k) (Ci (Cv l))
def Ho : Fo -> Nat
 | .cons i _ _ => i.kind
 | .nil => 0
def M2 (E : Pt) : Pt := fun d ts => (E d ts).bind fun F r =>
 if Ho F = 26 ∨ Ho F = 28 ∨ Ho F = 29 then (Fd (take [61]) (Fd E (take [59])) d r).bind fun G r' => .ok (.cons (mkK 8 ts) (F.app G) .nil) r'
 else if Ho F = 27 then (take [59] d r).bind fun G r' => .ok (.cons (mkK 13 ts) (F.app G) .nil) r' else N7 5 r
def a14 (E : Pt) (n : Nat) : Pt := B7 (mkY 7) (Ci (Cv [Hc 1, take [58], Eb n, take [61], E, take [59]]))
def S8 (B : Pt) : Pt := Hp [101, 108, 115, 101] (Ci B) Bb
def Jj (E : Pt) : Pt := Hp [59] Bb E
def Ik (E B : Pt) (n : Nat) : Pt := Hp [118, 97, 114] (a14 E n) (Hp [105, 102] (C6 9 [E, B, S8 B]) (Hp [119, 104, 105, 108, 101] (C6 10 [E, B])
 (Hp [114, 101, 116, 117, 114, 110] (C6 11 [Jj E, take [59]]) (Hp [112, 114, 105, 110, 116] (C6 12 [E, take [59]]) (M2 E)))))
def Fb (S : Pt) (n : Nat) : Pt := B7 (mkK 6) (Az [123] [125] (Cx [125] S n))
def L7 : Nat -> Pt
 | 0 => Jm
 | n + 1 => Ik (Bu (n + 1)) (Fb (L7 n) n) (n + 1)
def Er (k n : Nat) : Pt := B7 (mkX k) (Cv [Hc 1, take [58], Eb n])
def Jr (n : Nat) : Pt := Fd (Er 3 n) (take [59])
def a8n (n : Nat) : Pt := B7 (mkY 2) (Ci (Fd (Hc 2) (Az [123] [125] (Cx [125] (Jr n) n))))
def Gb (n : Nat) : Pt := fun d ts => if sees [58] ts = true then Eb n d ts.tail else .ok (.cons ⟨14, 0, 0, 0, []⟩ .nil .nil) ts
def Lm (k : Nat) (l : List Nd) : Nat := (l.filter fun n => decide (n.kind = k)).length
def fnP (n : Nat) : Pt := fun d ts => (take [102, 110] d ts).bind fun _ r => (Fd (Hc 1) (Az [40] [41] (Ee (Er 5 n) n)) d r).bind fun F r1 =>
 (Fd (Gb n) (Fb (L7 n) n) d r1).bind fun G r2 => .ok (.cons ⟨4, (hd ts).line, (hd ts).col, (Lm 5 F.post : Nat), (hd r).text⟩ (F.app G) .nil) r2
def Ia (n : Nat) : Pt := Hp [114, 101, 99] (a8n n) (fnP n)
def Ip (p : Pt) : Nat -> Pt
 | 0 => Jm
 | n + 1 => fun d ts => if (hd ts).kind = 8 then .ok .nil ts else (p d ts).bind fun F r => (Ip p n d r).bind fun G r' => .ok (F.app G) r'
def Ju (n : Nat) : Pt := fun d ts => (Ip (Ia n) n d ts).bind fun F r => .ok (.cons ⟨1, 1, 1, 0, []⟩ F .nil) r
def Ig (p : Pt) (ts : List Tok) : Out := (p 0 ts).bind fun F r => if (hd r).kind = 8 then .ok F r else N7 5 r
end
end
section
section
def Ya (ts : List Tok) : Prop := ∃ a e, ts = a ++ [e] ∧ e.kind = 8
theorem Ya.ne {ts : List Tok} (h : Ya ts) : ∃ t l, ts = t :: l := by
 obtain ⟨a, e, rfl, _⟩ := h
 cases a with
 | nil => exact ⟨e, [], rfl⟩
 | cons t l => exact ⟨t, l ++ [e], rfl⟩
theorem Ya.tl {t : Tok} {l : List Tok} (h : Ya (t :: l)) (hk : t.kind ≠ 8) : Ya l := by
 obtain ⟨a, e, ha, he⟩ := h
 cases a with
 | nil => simp at ha; rw [ha.1] at hk; exact absurd he hk
 | cons u m => simp at ha; exact ⟨m, e, ha.2, he⟩
theorem Af {o : Out} {f : Fo -> List Tok -> Out} {G : Fo} {r : List Tok} (h : o.bind f = .ok G r) : ∃ F r1, o = .ok F r1 ∧ f F r1 = .ok G r := by
 cases o with
 | ok F r1 => exact ⟨F, r1, rfl, h⟩
 | bad c l k => cases h
theorem B0 {x : List UInt8} {ts : List Tok} (h : sees x ts = true) : ∃ t l, ts = t :: l ∧ (t.kind = 6 ∨ t.kind = 7) ∧ t.text = x := by
 cases ts with
 | nil => simp [sees, Lr, hd, c1s] at h
 | cons t l => simp [sees, Lr, hd] at h; exact ⟨t, l, rfl, h⟩
theorem Qh {S : List (List UInt8)} {ts : List Tok} (h : anyS S ts = true) : ∃ t l, ts = t :: l ∧ (t.kind = 6 ∨ t.kind = 7) := by
 obtain ⟨x, _, hx⟩ := List.any_eq_true.1 h;obtain ⟨t, l, h1, h2, _⟩ := B0 hx;exact ⟨t, l, h1, h2⟩
theorem a4z {k : Nat} {ts : List Tok} (h : (hd ts).kind = k) (hk : k ≠ 0) : ∃ t l, ts = t :: l ∧ t.kind = k := by
 cases ts with
 | nil => simp [hd, c1s] at h; omega
 | cons t l => exact ⟨t, l, rfl, h⟩
def Lft (n : Nat) (ts : List Tok) (r : List Tok) : Prop := n + r.length <= ts.length ∧ (Ya ts -> Ya r) ∧ ∀ t ∈ r, t ∈ ts
theorem Lft.refl (ts : List Tok) : Lft 0 ts ts := ⟨by omega, id, fun _ h => h⟩
theorem Lft.trans {m n : Nat} {a b c : List Tok} (h : Lft m a b) (k : Lft n b c) : Lft (m + n) a c := ⟨by have := h.1; have := k.1; omega, fun e => k.2.1 (h.2.1 e), fun t ht => h.2.2 t (k.2.2 t ht)⟩
theorem Lft.mono {m n : Nat} {a b : List Tok} (h : Lft m a b) (hn : n <= m) : Lft n a b := ⟨by have := h.1; omega, h.2⟩
theorem Lft.tail {t : Tok} {l : List Tok} (h : t.kind ≠ 8) : Lft 1 (t :: l) l := ⟨by simp; omega, fun e => e.tl h, fun u hu => by simp [hu]⟩
theorem Hs {x : List UInt8} {ts : List Tok} (h : sees x ts = true) : Lft 1 ts ts.tail := by
 obtain ⟨t, l, rfl, hk, _⟩ := B0 h;exact Lft.tail (by omega)
theorem a4t {S : List (List UInt8)} {ts : List Tok} (h : anyS S ts = true) : Lft 1 ts ts.tail := by
 obtain ⟨t, l, rfl, hk⟩ := Qh h;exact Lft.tail (by omega)
theorem Mm {k : Nat} {ts : List Tok} (h : (hd ts).kind = k) (h0 : k ≠ 0) (h8 : k ≠ 8) : Lft 1 ts ts.tail := by
 obtain ⟨t, l, rfl, hk⟩ := a4z h h0;exact Lft.tail (by omega)
def GA (s : Nat) (p : Pt) (d : Nat) (ts : List Tok) : Prop := ∀ F r, p d ts = .ok F r -> Lft (F.cnt + s) ts r
def Gd (s : Nat) (p : Pt) : Prop := ∀ d ts, GA s p d ts
theorem Gd.mono {s s' : Nat} {p : Pt} (h : Gd s p) (hs : s' <= s) : Gd s' p := fun d ts F r e => (h d ts F r e).mono (by omega)
theorem Je (s : Nat) : Gd s Jm := fun d ts F r e => by cases e
theorem C1 : Gd 0 Bb := fun d ts F r e => by cases e; exact Lft.refl _
theorem Ct (x : List UInt8) : Gd 1 (take x) := fun d ts F r e => by
 unfold take Jv at e;split at e
 ·rename_i h; cases e; exact Hs h
 ·cases e
theorem Gg (k : Nat) (h0 : k ≠ 0) (h8 : k ≠ 8) : Gd 1 (Hc k) := fun d ts F r e => by
 unfold Hc Jv at e;split at e
 ·rename_i h; cases e; exact Mm (of_decide_eq_true h) h0 h8
 ·cases e
theorem b2b {s s' : Nat} {a b : Pt} {d : Nat} {ts : List Tok} (ha : GA s a d ts) (hb : Gd s' b) : GA (s + s') (Fd a b) d ts := fun F r e => by
 obtain ⟨F1, r1, e1, e2⟩ := Af e;obtain ⟨F2, r2, e3, e4⟩ := Af e2;cases e4;rw [Bx];exact ((ha _ _ e1).trans (hb _ _ _ _ e3)).mono (by omega)
theorem Jp {s s' : Nat} {a b : Pt} (ha : Gd s a) (hb : Gd s' b) : Gd (s + s') (Fd a b) := fun d ts => b2b (ha d ts) hb
theorem Jq {s : Nat} {x : List UInt8} {a b : Pt} (ha : ∀ d ts, sees x ts = true -> GA s a d ts) (hb : Gd s b) : Gd s (Hp x a b) := fun d ts F r e => by
 unfold Hp at e;split at e
 ·rename_i h; exact ha d ts h F r e
 ·exact hb d ts F r e
theorem K6 {s : Nat} {x : List UInt8} {p : Pt} {d : Nat} {ts : List Tok} (h : sees x ts = true) (hp : Gd s p) : GA (s + 1) (Ci p) d ts := fun F r e => ((Hs h).trans (hp _ _ _ _ e)).mono (by omega)
theorem Jg {s : Nat} {mk : List Tok -> Inf} {p : Pt} {d : Nat} {ts : List Tok} (h : GA (s + 1) p d ts) : GA s (B7 mk p) d ts := fun F r e => by
 obtain ⟨F1, r1, e1, e2⟩ := Af e;cases e2;exact (h _ _ e1).mono (by simp [Fo.cnt]; omega)
theorem Ki {s : Nat} {x : List UInt8} {p : Pt} {d : Nat} {ts : List Tok} (h : sees x ts = true) (hp : Gd s p) : GA (s + 1) (C9 p) d ts := fun F r e => by
 unfold C9 at e;split at e
 ·cases e
 ·exact ((Hs h).trans (hp _ _ _ _ e)).mono (by omega)
theorem Bs {s : Nat} {o c : List UInt8} {p : Pt} (hp : Gd s p) : Gd (s + 2) (Az o c p) := fun d ts F r e => by
 unfold Az at e;split at e
 ·rename_i h;have := b2b (Ki (d := d) h hp) (Ct c) F r e;exact this.mono (by omega)
 ·cases e
theorem Hu {x : List UInt8} {p : Pt} (hp : Gd 0 p) (n : Nat) : Gd 0 (Cx x p n) := by
 induction n with
 | zero => exact Je 0
 | succ n ih =>
  intro d ts F r e;unfold Cx at e;split at e
  ·cases e; exact Lft.refl _
  ·obtain ⟨F1, r1, e1, e2⟩ := Af e;obtain ⟨F2, r2, e3, e4⟩ := Af e2;cases e4;rw [Bx];exact ((hp _ _ _ _ e1).trans (ih _ _ _ _ e3)).mono (by omega)
theorem b0h {p : Pt} (hp : Gd 0 p) (n : Nat) : Gd 0 (I8 p n) := by
 induction n with
 | zero => exact Je 0
 | succ n ih =>
  intro d ts F r e;unfold I8 at e;obtain ⟨F1, r1, e1, e2⟩ := Af e;split at e2
  ·rename_i h;obtain ⟨F2, r2, e3, e4⟩ := Af e2;cases e4;rw [Bx];exact (((hp _ _ _ _ e1).trans (Hs h)).trans (ih _ _ _ _ e3)).mono (by omega)
  ·cases e2; exact hp _ _ _ _ e1
theorem D8 {p : Pt} (hp : Gd 0 p) (n : Nat) : Gd 0 (Ee p n) := Jq (fun d ts _ => C1 d ts) (b0h hp n)
theorem Rv {p : Pt} (hp : Gd 0 p) {S : List (List UInt8)} {F G : Fo} {d : Nat} {ts r : List Tok} (hs : anyS S ts = true) (e : Ds p F d ts = .ok G r) : ∃ n, Lft n ts r ∧ G.cnt = F.cnt + n := by
 obtain ⟨F1, r1, e1, e2⟩ := Af e;cases e2;exact ⟨F1.cnt + 1, ((a4t hs).trans (hp _ _ _ _ e1)).mono (by omega), by simp [Fo.cnt, Bx]; omega⟩
theorem a1n {p : Pt} (hp : Gd 0 p) {S : List (List UInt8)} (n : Nat) : ∀ {F G : Fo} {d : Nat} {ts r : List Tok}, C4 p S n F d ts = .ok G r -> ∃ n, Lft n ts r ∧ G.cnt = F.cnt + n := by
 induction n with
 | zero => intro F G d ts r e; cases e
 | succ n ih =>
  intro F G d ts r e;unfold C4 at e;split at e
  ·rename_i h;obtain ⟨F1, r1, e1, e2⟩ := Af e;obtain ⟨n1, l1, c1⟩ := Rv hp h e1;obtain ⟨n2, l2, c2⟩ := ih e2;exact ⟨n1 + n2, l1.trans l2, by omega⟩
  ·cases e; exact ⟨0, Lft.refl _, rfl⟩
theorem Jf {p : Pt} (hp : Gd 0 p) (S : List (List UInt8)) (n : Nat) : Gd 0 (Dc p S n) := fun d ts F r e => by
 obtain ⟨F1, r1, e1, e2⟩ := Af e;obtain ⟨m, l, c⟩ := a1n hp n e2;exact ((hp _ _ _ _ e1).trans l).mono (by omega)
theorem S3 {p : Pt} (hp : Gd 0 p) (S : List (List UInt8)) : Gd 0 (Ld p S) := fun d ts F r e => by
 obtain ⟨F1, r1, e1, e2⟩ := Af e;split at e2
 ·rename_i h;obtain ⟨m, l, c⟩ := Rv hp h e2;exact ((hp _ _ _ _ e1).trans l).mono (by omega)
 ·cases e2; exact hp _ _ _ _ e1
theorem Q8 {t : Tok} {q} (h : Lc t = some q) : t.kind = 2 ∨ t.kind = 6 := by
 unfold Lc at h;split at h
 ·left; assumption
 ·split at h
  ·cases h
  ·right; simp_all
theorem Kh : Gd 0 Ba := fun d ts F r e => by
 unfold Ba at e;split at e
 ·rename_i q h;cases e;rcases Q8 h with k | k
  ·exact (Mm k (by decide) (by decide)).mono (by simp [Fo.cnt])
  ·exact (Mm k (by decide) (by decide)).mono (by simp [Fo.cnt])
 ·cases e
theorem L1 {p : Pt} (hp : Gd 0 p) : Gd 1 (Bq p) := fun d ts => Jg (Bs hp d ts)
theorem Jd (n : Nat) : Gd 0 (Eb n) := by
 induction n with
 | zero => exact Je 0
 | succ n ih => exact Jq (fun d ts _ => (L1 ih).mono (by omega) d ts) Kh
theorem P9 {t : Tok} {q} (h : Cc t = some q) : t.kind = 3 ∨ t.kind = 4 ∨ t.kind = 5 ∨ t.kind = 6 := by
 unfold Cc at h;split at h
 ·left; assumption
 ·split at h
  ·right; left; assumption
  ·split at h
   ·right; right; left; assumption
   ·split at h
    ·cases h
    ·right; right; right; simp_all
theorem b0i : Gd 0 Hv := fun d ts F r e => by
 unfold Hv at e;split at e
 ·rename_i q h;cases e;rcases P9 h with k | k | k | k
  all_goals exact (Mm k (by decide) (by decide)).mono (by simp [Fo.cnt])
 ·cases e
section
variable {E : Pt} (hE : Gd 0 E) (n : Nat)
include hE
theorem b48 {d : Nat} {ts : List Tok} (h : (hd ts).kind = 1) : GA 0 (H7 E n) d ts := fun F r e => by
 have ht := Mm h (by decide) (by decide);unfold H7 at e;split at e
 ·obtain ⟨F1, r1, e1, e2⟩ := Af e;cases e2;exact (ht.trans (Bs (D8 hE n) _ _ _ _ e1)).mono (by simp [Fo.cnt]; omega)
 ·cases e; exact ht.mono (by simp [Fo.cnt])
theorem b49 {d : Nat} {ts : List Tok} (h : sees [109, 97, 107, 101] ts = true) : GA 0 (Lu E n) d ts := by
 refine Jg (K6 (s := 0) h fun d ts F r e => ?_);split at e
 ·exact (Jp Kh (Bs C1) _ _ _ _ e).mono (by omega)
 ·exact (Jp (L1 (Jd n)) (Bs hE) _ _ _ _ e).mono (by omega)
theorem a5h : Gd 0 (Fk E n) := fun d ts F r e => by
 unfold Fk at e;split at e
 ·exact (Bs hE _ _ _ _ e).mono (by omega)
 ·split at e
  ·rename_i h; exact b49 hE n h F r e
  ·split at e
   ·rename_i h; exact b48 hE n h F r e
   ·exact b0i _ _ _ _ e
theorem a3u (m : Nat) : ∀ {F G : Fo} {d : Nat} {ts r : List Tok}, Dl E m F d ts = .ok G r -> ∃ k, Lft k ts r ∧ G.cnt = F.cnt + k := by
 induction m with
 | zero => intro F G d ts r e; cases e
 | succ m ih =>
  intro F G d ts r e;unfold Dl at e;split at e
  ·obtain ⟨F1, r1, e1, e2⟩ := Af e;obtain ⟨k, l, c⟩ := ih e2;exact ⟨F1.cnt + 1 + k, (((Bs hE _ _ _ _ e1).mono (n := F1.cnt + 1) (by omega)).trans l), by simp [Fo.cnt, Bx] at c; omega⟩
  ·split at e
   ·rename_i h;obtain ⟨F1, r1, e1, e2⟩ := Af e;obtain ⟨k, l, c⟩ := ih e2;exact ⟨1 + k, (((Hs h).trans (Gg 1 (by decide) (by decide) _ _ _ _ e1)).mono (n := 1) (by omega)).trans l, by simp [Fo.cnt] at c; omega⟩
   ·cases e; exact ⟨0, Lft.refl _, rfl⟩
theorem b47 : Gd 0 (I7 E n) := fun d ts F r e => by
 obtain ⟨F1, r1, e1, e2⟩ := Af e;obtain ⟨m, l, c⟩ := a3u hE n e2;exact ((a5h hE n _ _ _ _ e1).trans l).mono (by omega)
end
theorem b0f {U p : Pt} (hU : Gd 0 U) (hp : Gd 0 p) : Gd 0 (Dm U p) := fun d ts F r e => by
 unfold Dm at e;split at e
 ·rename_i h; exact Jg (Ki h hU) F r e
 ·split at e
  ·rename_i h; exact Jg (Ki h hU) F r e
  ·exact hp _ _ _ _ e
theorem c2l {u : Pt} (h : Gd 0 u) (n : Nat) : Gd 0 (orP u n) := Jf (Jf (S3 (S3 (Jf (Jf h _ n) _ n) _) _) _ n) _ n
theorem b98 (n : Nat) : Gd 0 (Bu n) ∧ Gd 0 (unP n) := by
 induction n with
 | zero => exact ⟨Je 0, Je 0⟩
 | succ n ih =>
  have h := b0f ih.2 (b47 ih.1 (n + 1));exact ⟨c2l h (n + 1), h⟩
theorem S4 (n : Nat) : Gd 0 (Bu n) := (b98 n).1
theorem b96 (n : Nat) : Gd 0 (unP n) := (b98 n).2
theorem Mq {k : Nat} {x : List UInt8} {l : List Pt} {d : Nat} {ts : List Tok} (h : sees x ts = true) (hl : Gd 0 (Cv l)) : GA 0 (C6 k l) d ts := Jg (K6 h hl)
theorem Vk {l : List Pt} (h : ∀ p ∈ l, Gd 0 p) : Gd 0 (Cv l) := by
 induction l with
 | nil => exact C1
 | cons p l ih => exact Jp (h p (by simp)) (ih fun q hq => h q (by simp [hq]))
theorem b97 {E : Pt} (hE : Gd 0 E) : Gd 0 (M2 E) := fun d ts F r e => by
 obtain ⟨F1, r1, e1, e2⟩ := Af e;split at e2
 ·obtain ⟨F2, r2, e3, e4⟩ := Af e2;cases e4;have h2 := Jp (Ct [61]) (Jp hE (Ct [59])) _ _ _ _ e3;exact ((hE _ _ _ _ e1).trans h2).mono (by simp [Fo.cnt, Bx]; omega)
 ·split at e2
  ·obtain ⟨F2, r2, e3, e4⟩ := Af e2;cases e4;exact ((hE _ _ _ _ e1).trans (Ct _ _ _ _ _ e3)).mono (by simp [Fo.cnt, Bx]; omega)
  ·cases e2
theorem a5g {E B : Pt} (hE : Gd 0 E) (hB : Gd 0 B) (n : Nat) : Gd 0 (Ik E B n) := by
 have ht : ∀ x, Gd 0 (take x) := fun x => (Ct x).mono (by omega)
 refine Jq (fun d ts h => Jg (K6 h (Vk fun p hp => ?_))) (Jq (fun d ts h => Mq h (Vk fun p hp => ?_)) (Jq (fun d ts h => Mq h (Vk fun p hp => ?_)) (Jq (fun d ts h => Mq h (Vk fun p hp => ?_)) (Jq (fun d ts h => Mq h (Vk fun p hp => ?_)) (b97 hE)))))
 ·simp only [List.mem_cons, List.not_mem_nil, or_false] at hp;rcases hp with rfl | rfl | rfl | rfl | rfl | rfl
  ·exact (Gg 1 (by decide) (by decide)).mono (by omega)
  ·exact ht _
  ·exact Jd n
  ·exact ht _
  ·exact hE
  ·exact ht _
 ·simp only [List.mem_cons, List.not_mem_nil, or_false] at hp;rcases hp with rfl | rfl | rfl
  ·exact hE
  ·exact hB
  ·exact Jq (fun d ts h F r e => (K6 h hB F r e).mono (by omega)) C1
 ·simp only [List.mem_cons, List.not_mem_nil, or_false] at hp;rcases hp with rfl | rfl
  ·exact hE
  ·exact hB
 ·simp only [List.mem_cons, List.not_mem_nil, or_false] at hp;rcases hp with rfl | rfl
  ·exact Jq (fun d ts _ => C1 d ts) hE
  ·exact ht _
 ·simp only [List.mem_cons, List.not_mem_nil, or_false] at hp;rcases hp with rfl | rfl
  ·exact hE
  ·exact ht _
theorem Om {S : Pt} (h : Gd 0 S) (n : Nat) : Gd 1 (Fb S n) := fun d ts => Jg (Bs (Hu h n) d ts)
theorem P3 (n : Nat) : Gd 0 (L7 n) := by
 induction n with
 | zero => exact Je 0
 | succ n ih => exact a5g (S4 _) ((Om ih n).mono (by omega)) _
theorem Fu (k n : Nat) : Gd 1 (Er k n) := fun d ts => Jg (by
 have := Jp (Gg 1 (by decide) (by decide)) (Jp (Ct [58]) (Jp (Jd n) C1)) d ts
 exact fun F r e => (this F r e).mono (by omega))
theorem K5 (n : Nat) : Gd 1 (Jr n) := (Jp (Fu 3 n) (Ct [59])).mono (by omega)
theorem b99 (n : Nat) {d : Nat} {ts : List Tok} (h : sees [114, 101, 99] ts = true) : GA 0 (a8n n) d ts :=
 Jg (K6 (s := 0) h ((Jp (Gg 2 (by decide) (by decide)) (Bs (Hu ((K5 n).mono (by omega)) n))).mono (by omega)))
theorem Ku (n : Nat) {d : Nat} {ts r : List Tok} {F : Fo} (e : Gb n d ts = .ok F r) : Lft (F.cnt - 1) ts r := by
 unfold Gb at e;split at e
 ·rename_i h; exact ((Hs h).trans (Jd n _ _ _ _ e)).mono (by omega)
 ·cases e; exact (Lft.refl ts).mono (by simp [Fo.cnt])
theorem c2m (n : Nat) : Gd 0 (fnP n) := fun d ts F r e => by
 obtain ⟨F0, r0, e0, e1⟩ := Af e;obtain ⟨F1, r1, e2, e3⟩ := Af e1;obtain ⟨F2, r2, e4, e5⟩ := Af e3;cases e5;have h0 := Ct _ _ _ _ _ e0;have h1 := Jp (Gg 1 (by decide) (by decide)) (Bs (D8 ((Fu 5 n).mono (by omega)) n)) _ _ _ _ e2;obtain ⟨F3, r3, e6, e7⟩ := Af e4;obtain ⟨F4, r4, e8, e9⟩ := Af e7;cases e9;have h2 := (Ku n e6).trans (Om (P3 n) n _ _ _ _ e8);exact ((h0.trans h1).trans h2).mono (by simp [Fo.cnt, Bx]; omega)
theorem Xs (n : Nat) : Gd 0 (Ia n) := Jq (fun d ts h => b99 n h) (c2m n)
theorem b0g {p : Pt} (hp : Gd 0 p) (n : Nat) : Gd 0 (Ip p n) := by
 induction n with
 | zero => exact Je 0
 | succ n ih =>
  intro d ts F r e;unfold Ip at e;split at e
  ·cases e; exact Lft.refl _
  ·obtain ⟨F1, r1, e1, e2⟩ := Af e;obtain ⟨F2, r2, e3, e4⟩ := Af e2;cases e4;rw [Bx];exact ((hp _ _ _ _ e1).trans (ih _ _ _ _ e3)).mono (by omega)
end
end
section
section
def a68 (F : Fo) : Prop := ∃ i k, F = .cons i k .nil ∧ 21 <= i.kind ∧ i.kind <= 32
def Qo (p : Pt) : Prop := ∀ d ts F r, p d ts = .ok F r -> a68 F
theorem L9 {mk : List Tok -> Inf} {p : Pt} (h : ∀ ts, 21 <= (mk ts).kind ∧ (mk ts).kind <= 32) : Qo (B7 mk p) := fun d ts F r e => by
 obtain ⟨F1, r1, e1, e2⟩ := Af e;cases e2;exact ⟨_, _, rfl, h ts⟩
theorem Sm {x : List UInt8} {d : Nat} {ts r : List Tok} {F : Fo} (e : take x d ts = .ok F r) : F = .nil := by
 unfold take Jv at e;split at e
 ·cases e; rfl
 ·cases e
theorem Wo {o c : List UInt8} {p : Pt} (h : Qo p) : Qo (Az o c p) := fun d ts F r e => by
 unfold Az at e;split at e
 ·obtain ⟨F1, r1, e1, e2⟩ := Af e;obtain ⟨F2, r2, e3, e4⟩ := Af e2;cases e4;rw [Sm e3, Nl];unfold C9 at e1;split at e1
  ·cases e1
  ·exact h _ _ _ _ e1
 ·cases e
theorem O6 {p : Pt} {F : Fo} {d : Nat} {ts r : List Tok} {G : Fo} (e : Ds p F d ts = .ok G r) : a68 G := by
 obtain ⟨F1, r1, e1, e2⟩ := Af e;cases e2;exact ⟨_, _, rfl, by simp [mkK, mkX, mkY, mkN], by simp [mkK, mkX, mkY, mkN]⟩
theorem Wp {p : Pt} {S : List (List UInt8)} (n : Nat) : ∀ {F G : Fo} {d : Nat} {ts r : List Tok}, a68 F -> C4 p S n F d ts = .ok G r -> a68 G := by
 induction n with
 | zero => intro F G d ts r _ e; cases e
 | succ n ih =>
  intro F G d ts r hF e;unfold C4 at e;split at e
  ·obtain ⟨F1, r1, e1, e2⟩ := Af e;exact ih (O6 e1) e2
  ·cases e; exact hF
theorem Kr {p : Pt} (h : Qo p) (S : List (List UInt8)) (n : Nat) : Qo (Dc p S n) := fun d ts F r e => by
 obtain ⟨F1, r1, e1, e2⟩ := Af e;exact Wp n (h _ _ _ _ e1) e2
theorem T6 {p : Pt} (h : Qo p) (S : List (List UInt8)) : Qo (Ld p S) := fun d ts F r e => by
 obtain ⟨F1, r1, e1, e2⟩ := Af e;split at e2
 ·exact O6 e2
 ·cases e2; exact h _ _ _ _ e1
theorem X1 {t : Tok} {q} (h : Cc t = some q) : 21 <= q.1 ∧ q.1 <= 32 := by
 unfold Cc at h
 repeat' split at h
 all_goals first | (cases h; simp) | cases h
theorem a0i : Qo Hv := fun d ts F r e => by
 unfold Hv at e;split at e
 ·rename_i q h;cases e;exact ⟨_, _, rfl, X1 h⟩
 ·cases e
theorem a2m {E : Pt} {n : Nat} : Qo (H7 E n) := fun d ts F r e => by
 unfold H7 at e;split at e
 ·exact L9 (fun ts => ⟨by simp [mkK, mkX, mkY, mkN], by simp [mkK, mkX, mkY, mkN]⟩) _ _ _ _ e
 ·cases e; exact ⟨_, _, rfl, by simp [mkK, mkX, mkY, mkN], by simp [mkK, mkX, mkY, mkN]⟩
theorem a2o {E : Pt} (h : Qo E) (n : Nat) : Qo (Fk E n) := fun d ts F r e => by
 unfold Fk at e;split at e
 ·exact Wo h _ _ _ _ e
 ·split at e
  ·exact L9 (fun ts => ⟨by simp [mkK, mkX, mkY, mkN], by simp [mkK, mkX, mkY, mkN]⟩) _ _ _ _ e
  ·split at e
   ·exact a2m _ _ _ _ e
   ·exact a0i _ _ _ _ e
theorem a0h {E : Pt} (n : Nat) : ∀ {F G : Fo} {d : Nat} {ts r : List Tok}, a68 F -> Dl E n F d ts = .ok G r -> a68 G := by
 induction n with
 | zero => intro F G d ts r _ e; cases e
 | succ n ih =>
  intro F G d ts r hF e;unfold Dl at e;split at e
  ·obtain ⟨F1, r1, e1, e2⟩ := Af e;exact ih ⟨_, _, rfl, by simp [mkK, mkX, mkY, mkN], by simp [mkK, mkX, mkY, mkN]⟩ e2
  ·split at e
   ·obtain ⟨F1, r1, e1, e2⟩ := Af e;exact ih ⟨_, _, rfl, by simp [mkK, mkX, mkY, mkN], by simp [mkK, mkX, mkY, mkN]⟩ e2
   ·cases e; exact hF
theorem a2l {E : Pt} (h : Qo E) (n : Nat) : Qo (I7 E n) := fun d ts F r e => by
 obtain ⟨F1, r1, e1, e2⟩ := Af e;exact a0h n (a2o h n _ _ _ _ e1) e2
theorem a0g {U p : Pt} (h : Qo p) : Qo (Dm U p) := fun d ts F r e => by
 unfold Dm at e;split at e
 ·exact L9 (fun ts => ⟨by simp [mkK, mkX, mkY, mkN], by simp [mkK, mkX, mkY, mkN]⟩) _ _ _ _ e
 ·split at e
  ·exact L9 (fun ts => ⟨by simp [mkK, mkX, mkY, mkN], by simp [mkK, mkX, mkY, mkN]⟩) _ _ _ _ e
  ·exact h _ _ _ _ e
theorem b3t {u : Pt} (h : Qo u) (n : Nat) : Qo (orP u n) := Kr (Kr (T6 (T6 (Kr (Kr h _ n) _ n) _) _) _ n) _ n
theorem b3u (n : Nat) : Qo (Bu n) ∧ Qo (unP n) := by
 induction n with
 | zero => exact ⟨(fun d ts F r e => by cases e), (fun d ts F r e => by cases e)⟩
 | succ n ih =>
  have h := a0g (U := unP n) (a2l ih.1 (n + 1));exact ⟨b3t h (n + 1), h⟩
theorem a2n (n : Nat) : Qo (Bu n) := (b3u n).1
theorem Sj {mk : List Tok -> Inf} {p : Pt} {d : Nat} {ts r : List Tok} {F : Fo} (e : B7 mk p d ts = .ok F r) : 1 <= F.cnt := by
 obtain ⟨F1, r1, e1, e2⟩ := Af e;cases e2;simp [Fo.cnt]
theorem Uv {n d : Nat} {ts r : List Tok} {F : Fo} (e : Jr n d ts = .ok F r) : 1 <= F.cnt := by
 obtain ⟨F1, r1, e1, e2⟩ := Af e;obtain ⟨F2, r2, e3, e4⟩ := Af e2;cases e4;have := Sj e1;rw [Bx]; omega
theorem b4j {E : Pt} {d : Nat} {ts r : List Tok} {F : Fo} (e : M2 E d ts = .ok F r) : 1 <= F.cnt := by
 obtain ⟨F1, r1, e1, e2⟩ := Af e;split at e2
 ·obtain ⟨F2, r2, e3, e4⟩ := Af e2;cases e4; simp [Fo.cnt]
 ·split at e2
  ·obtain ⟨F2, r2, e3, e4⟩ := Af e2;cases e4; simp [Fo.cnt]
  ·cases e2
theorem a84 (n : Nat) {d : Nat} {ts r : List Tok} {F : Fo} (e : L7 n d ts = .ok F r) : 1 <= F.cnt := by
 cases n with
 | zero => cases e
 | succ n =>
  simp only [L7, Ik, Hp] at e
  repeat' split at e
  all_goals first | exact Sj e | exact b4j e
theorem b8u (n : Nat) {d : Nat} {ts r : List Tok} {F : Fo} (e : fnP n d ts = .ok F r) : 1 <= F.cnt := by
 obtain ⟨F0, r0, e0, e1⟩ := Af e;obtain ⟨F1, r1, e2, e3⟩ := Af e1;obtain ⟨F2, r2, e4, e5⟩ := Af e3;cases e5;simp [Fo.cnt]
theorem a87 (n : Nat) {d : Nat} {ts r : List Tok} {F : Fo} (e : Ia n d ts = .ok F r) : 1 <= F.cnt := by
 unfold Ia Hp at e;split at e
 ·exact Sj e
 ·exact b8u n e
end
end
section
section
open Go.RowKit
theorem a2j (c : UInt8) (w : World) : Calls prog 127 #[byt c] w fun e w' => e = .returned (.bool (sml c)) ∧ w = w' := by
 by_cases h95 : c = 95
 ·subst h95;go_enter func127, ntmps127;go_wp2;go_ret;exact ⟨rfl, rfl⟩
 have e95 : ((c.toNat : Int) == 95) = false := Av (n := 95) (by decide) h95;by_cases h1 : (97 : Int) <= c.toNat
 ·by_cases h2 : (c.toNat : Int) <= 122
  ·have H := zz (show sml c = true by simp [sml]; omega);clear h95;go_enter func127, ntmps127;go_wp2;go_ret;rw [H.out];exact ⟨rfl, rfl⟩
  ·have H := zz (show sml c = false by simp [sml, h95]; omega);clear h95;go_enter func127, ntmps127;go_wp2;go_ret;rw [H.out];exact ⟨rfl, rfl⟩
 ·have H := zz (show sml c = false by simp [sml, h95]; omega);clear h95;go_enter func127, ntmps127;go_wp2;go_ret;rw [H.out];exact ⟨rfl, rfl⟩
theorem a5c (c : UInt8) (w : World) : Calls prog 128 #[byt c] w fun e w' => e = .returned (.bool (grt c)) ∧ w = w' := by
 by_cases h1 : (65 : Int) <= c.toNat
 ·by_cases h2 : (c.toNat : Int) <= 90
  ·have H := zz (show grt c = true by simp [grt]; omega);go_enter func128, ntmps128;go_wp2;go_ret;rw [H.out];exact ⟨rfl, rfl⟩
  ·have H := zz (show grt c = false by simp [grt]; omega);go_enter func128, ntmps128;go_wp2;go_ret;rw [H.out];exact ⟨rfl, rfl⟩
 ·have H := zz (show grt c = false by simp [grt]; omega);go_enter func128, ntmps128;go_wp2;go_ret;rw [H.out];exact ⟨rfl, rfl⟩
theorem Oo (c : UInt8) (w : World) : Calls prog 132 #[byt c] w fun e w' => e = .returned (.bool (dgt c)) ∧ w = w' := by
 by_cases h1 : (48 : Int) <= c.toNat
 ·by_cases h2 : (c.toNat : Int) <= 57
  ·have H := zz (show dgt c = true by simp [dgt]; omega);go_enter func132, ntmps132;go_wp2;go_ret;rw [H.out];exact ⟨rfl, rfl⟩
  ·have H := zz (show dgt c = false by simp [dgt]; omega);go_enter func132, ntmps132;go_wp2;go_ret;rw [H.out];exact ⟨rfl, rfl⟩
 ·have H := zz (show dgt c = false by simp [dgt]; omega);go_enter func132, ntmps132;go_wp2;go_ret;rw [H.out];exact ⟨rfl, rfl⟩
theorem Oc {c : UInt8} {b : Bool} (h : sml c = b) (w : World) : Calls prog 127 #[byt c] w fun e w' => e = .returned (.bool b) ∧ w = w' := h ▸ a2j c w
theorem K4 {c : UInt8} {b : Bool} (h : grt c = b) (w : World) : Calls prog 128 #[byt c] w fun e w' => e = .returned (.bool b) ∧ w = w' := h ▸ a5c c w
theorem Zg {c : UInt8} {b : Bool} (h : dgt c = b) (w : World) : Calls prog 132 #[byt c] w fun e w' => e = .returned (.bool b) ∧ w = w' := h ▸ Oo c w
theorem Y7 (c : UInt8) (w : World) : Calls prog 129 #[byt c] w fun e w' => e = .returned (.bool (nam c)) ∧ w = w' := by
 cases h1 : sml c with
 | true =>
  have H1 := zz (fun w => Oc h1 w);have H := zz (show nam c = true by simp [nam, h1]);clear h1;go_enter func129, ntmps129;go_wp2_with fail;refine (H1.out _).mono ?_;rintro e w' ⟨rfl, rfl⟩;go_wp2;go_ret;rw [H.out]
  exact ⟨rfl, rfl⟩
 | false =>
  have H1 := zz (fun w => Oc h1 w)
  cases h2 : grt c with
  | true =>
   have H2 := zz (fun w => K4 h2 w);have H := zz (show nam c = true by simp [nam, h2]);clear h1 h2;go_enter func129, ntmps129;go_wp2_with fail;refine (H1.out _).mono ?_;rintro e w' ⟨rfl, rfl⟩;go_wp2_with fail;refine (H2.out _).mono ?_;rintro e w' ⟨rfl, rfl⟩;go_wp2;go_ret;rw [H.out]
   exact ⟨rfl, rfl⟩
  | false =>
   have H2 := zz (fun w => K4 h2 w);have H3 := zz (fun w => Oo c w);have H := zz (show nam c = dgt c by simp [nam, h1, h2]);clear h1 h2;go_enter func129, ntmps129;go_wp2_with fail;refine (H1.out _).mono ?_;rintro e w' ⟨rfl, rfl⟩;go_wp2_with fail;refine (H2.out _).mono ?_;rintro e w' ⟨rfl, rfl⟩;go_wp2_with fail;refine (H3.out _).mono ?_;rintro e w' ⟨rfl, rfl⟩;go_wp2;go_ret;rw [H.out];exact ⟨rfl, rfl⟩
theorem a4g (c : UInt8) (w : World) : Calls prog 95 #[byt c] w fun e w' => e = .returned (.bool (nlf c)) ∧ w = w' := by
 by_cases h : c = 10
 ·subst h;go_enter func95, ntmps95;go_wp2;go_ret;exact ⟨rfl, rfl⟩
 ·have e1 : ((c.toNat : Int) != 10) = true := c01 (n := 10) (by decide) h;have H := zz (show nlf c = true by simp [nlf, h]);clear h;go_enter func95, ntmps95;go_wp2;go_ret;rw [H.out];exact ⟨rfl, rfl⟩
theorem a4e (c : UInt8) (w : World) : Calls prog 189 #[byt c] w fun e w' => e = .returned (.bool (nou c)) ∧ w = w' := by
 by_cases h : c = 48
 ·subst h;go_enter func189, ntmps189;go_wp2;go_ret;exact ⟨rfl, rfl⟩
 ·have e1 : ((c.toNat : Int) == 48) = false := Av (n := 48) (by decide) h;have H := zz (show nou c = false by simp [nou, h]);clear h;go_enter func189, ntmps189;go_wp2;go_ret;rw [H.out];exact ⟨rfl, rfl⟩
def kdN (c : UInt8) : Nat := if sml c = true then 1 else if grt c = true then 2 else if dgt c = true then 3 else 0
theorem Pe {c : UInt8} {n : Nat} {a : Int} (h : kdN c = n) (h2 : a = n) : Ending.returned (.int .i64 a) = .returned (.int .i64 (kdN c : Nat)) := by rw [h, h2]
theorem b9x (c : UInt8) : (0 < kdN c) ↔ nam c = true := by
 unfold kdN nam;cases sml c <;> cases grt c <;> cases dgt c <;> simp
end
end
section
section
open Go.RowKit
theorem G9 {p : UInt8 -> Bool} {c : UInt8} {t : List UInt8} (h : p c = true) : Bz p (c :: t) = Bz p t + 1 := by rw [Bz, if_pos h]
theorem Il {p : UInt8 -> Bool} {c : UInt8} {t : List UInt8} (h : p c = false) : Bz p (c :: t) = 0 := by rw [Bz, if_neg (by simp [h])]
theorem b3z (s : ByteArray) (hs : s.size <= 1000000) (w : World) :
  Calls prog 94 #[.string s, .func (.func 95) #[] #[]] w fun e w' => e = .returned (.int .i64 (Bz nlf s.data.toList : Nat)) ∧ w = w' := by
 obtain ⟨R, hR⟩ : ∃ R, Bz nlf s.data.toList = R := ⟨_, rfl⟩;rw [hR];replace hR := zz hR;go_enter func94, ntmps94;go_wp2
 go_loop [5] (fun i => ∃ k : Nat, k <= s.size ∧ i = .int .i64 k ∧ k + Bz nlf (s.data.toList.drop k) = R) (fun i => s.size - (intOf i).toNat)
 case atStart => exact ⟨0, Nat.zero_le _, rfl, by rw [<- hR.out]; simp⟩
 case round =>
  obtain ⟨k, hk, rfl, hk2⟩ := hrel;by_cases hlt : k < s.size
  ·rw [Au s k hlt] at hk2
   cases hp : nlf s[k] with
   | true =>
    have HP := zz (fun w => a4g s[k] w);rw [hp] at HP;rw [G9 hp] at hk2;replace hk2 := zz hk2;clear hp;go_wp2_with fail;refine (HP.out _).mono ?_;rintro e w' ⟨rfl, rfl⟩;go_wp2
    go_round
    case rel => exact ⟨k + 1, hlt, by go_num, by have := hk2.out; omega⟩
    case measure => simp [intOf]; omega
   | false =>
    have HP := zz (fun w => a4g s[k] w);rw [hp] at HP;rw [Il hp] at hk2;replace hk2 := zz hk2;clear hp;go_wp2_with fail;refine (HP.out _).mono ?_;rintro e w' ⟨rfl, rfl⟩;go_wp2;go_ret;exact ⟨Cs (by have := hk2.out; omega), rfl⟩
  ·rw [Co s k (by omega)] at hk2;have hlt2 : ¬ (k : Int) < s.size := by omega
   replace hk2 := zz (show k = R from hk2);go_wp2;go_ret;exact ⟨Cs (by have := hk2.out; omega), rfl⟩
theorem a0l (s : ByteArray) (hs : s.size <= 1000000) (R : Nat) (hR : Bz nlf s.data.toList = R) (w : World) :
  Calls prog 94 #[.string s, .func (.func 95) #[] #[]] w fun e w' => e = .returned (.int .i64 (R : Nat)) ∧ w = w' := hR ▸ b3z s hs w
theorem b30 (s : ByteArray) (hs : s.size <= 1000000) (w : World) :
  Calls prog 94 #[.string s, .func (.func 129) #[] #[]] w fun e w' => e = .returned (.int .i64 (Bz nam s.data.toList : Nat)) ∧ w = w' := by
 obtain ⟨R, hR⟩ : ∃ R, Bz nam s.data.toList = R := ⟨_, rfl⟩;rw [hR];replace hR := zz hR;go_enter func94, ntmps94;go_wp2
 go_loop [5] (fun i => ∃ k : Nat, k <= s.size ∧ i = .int .i64 k ∧ k + Bz nam (s.data.toList.drop k) = R) (fun i => s.size - (intOf i).toNat)
 case atStart => exact ⟨0, Nat.zero_le _, rfl, by rw [<- hR.out]; simp⟩
 case round =>
  obtain ⟨k, hk, rfl, hk2⟩ := hrel;by_cases hlt : k < s.size
  ·rw [Au s k hlt] at hk2
   cases hp : nam s[k] with
   | true =>
    have HP := zz (fun w => Y7 s[k] w);rw [hp] at HP;rw [G9 hp] at hk2;replace hk2 := zz hk2;clear hp;go_wp2_with fail;refine (HP.out _).mono ?_;rintro e w' ⟨rfl, rfl⟩;go_wp2
    go_round
    case rel => exact ⟨k + 1, hlt, by go_num, by have := hk2.out; omega⟩
    case measure => simp [intOf]; omega
   | false =>
    have HP := zz (fun w => Y7 s[k] w);rw [hp] at HP;rw [Il hp] at hk2;replace hk2 := zz hk2;clear hp;go_wp2_with fail;refine (HP.out _).mono ?_;rintro e w' ⟨rfl, rfl⟩;go_wp2;go_ret;exact ⟨Cs (by have := hk2.out; omega), rfl⟩
  ·rw [Co s k (by omega)] at hk2;have hlt2 : ¬ (k : Int) < s.size := by omega
   replace hk2 := zz (show k = R from hk2);go_wp2;go_ret;exact ⟨Cs (by have := hk2.out; omega), rfl⟩
theorem Re (s : ByteArray) (hs : s.size <= 1000000) (R : Nat) (hR : Bz nam s.data.toList = R) (w : World) :
  Calls prog 94 #[.string s, .func (.func 129) #[] #[]] w fun e w' => e = .returned (.int .i64 (R : Nat)) ∧ w = w' := hR ▸ b30 s hs w
theorem b31 (s : ByteArray) (hs : s.size <= 1000000) (w : World) :
  Calls prog 94 #[.string s, .func (.func 132) #[] #[]] w fun e w' => e = .returned (.int .i64 (Bz dgt s.data.toList : Nat)) ∧ w = w' := by
 obtain ⟨R, hR⟩ : ∃ R, Bz dgt s.data.toList = R := ⟨_, rfl⟩;rw [hR];replace hR := zz hR;go_enter func94, ntmps94;go_wp2
 go_loop [5] (fun i => ∃ k : Nat, k <= s.size ∧ i = .int .i64 k ∧ k + Bz dgt (s.data.toList.drop k) = R) (fun i => s.size - (intOf i).toNat)
 case atStart => exact ⟨0, Nat.zero_le _, rfl, by rw [<- hR.out]; simp⟩
 case round =>
  obtain ⟨k, hk, rfl, hk2⟩ := hrel;by_cases hlt : k < s.size
  ·rw [Au s k hlt] at hk2
   cases hp : dgt s[k] with
   | true =>
    have HP := zz (fun w => Oo s[k] w);rw [hp] at HP;rw [G9 hp] at hk2;replace hk2 := zz hk2;clear hp;go_wp2_with fail;refine (HP.out _).mono ?_;rintro e w' ⟨rfl, rfl⟩;go_wp2
    go_round
    case rel => exact ⟨k + 1, hlt, by go_num, by have := hk2.out; omega⟩
    case measure => simp [intOf]; omega
   | false =>
    have HP := zz (fun w => Oo s[k] w);rw [hp] at HP;rw [Il hp] at hk2;replace hk2 := zz hk2;clear hp;go_wp2_with fail;refine (HP.out _).mono ?_;rintro e w' ⟨rfl, rfl⟩;go_wp2;go_ret;exact ⟨Cs (by have := hk2.out; omega), rfl⟩
  ·rw [Co s k (by omega)] at hk2;have hlt2 : ¬ (k : Int) < s.size := by omega
   replace hk2 := zz (show k = R from hk2);go_wp2;go_ret;exact ⟨Cs (by have := hk2.out; omega), rfl⟩
theorem a0m (s : ByteArray) (hs : s.size <= 1000000) (R : Nat) (hR : Bz dgt s.data.toList = R) (w : World) :
  Calls prog 94 #[.string s, .func (.func 132) #[] #[]] w fun e w' => e = .returned (.int .i64 (R : Nat)) ∧ w = w' := hR ▸ b31 s hs w
theorem b3y (s : ByteArray) (hs : s.size <= 1000000) (w : World) :
  Calls prog 94 #[.string s, .func (.func 189) #[] #[]] w fun e w' => e = .returned (.int .i64 (Bz nou s.data.toList : Nat)) ∧ w = w' := by
 obtain ⟨R, hR⟩ : ∃ R, Bz nou s.data.toList = R := ⟨_, rfl⟩;rw [hR];replace hR := zz hR;go_enter func94, ntmps94;go_wp2
 go_loop [5] (fun i => ∃ k : Nat, k <= s.size ∧ i = .int .i64 k ∧ k + Bz nou (s.data.toList.drop k) = R) (fun i => s.size - (intOf i).toNat)
 case atStart => exact ⟨0, Nat.zero_le _, rfl, by rw [<- hR.out]; simp⟩
 case round =>
  obtain ⟨k, hk, rfl, hk2⟩ := hrel;by_cases hlt : k < s.size
  ·rw [Au s k hlt] at hk2
   cases hp : nou s[k] with
   | true =>
    have HP := zz (fun w => a4e s[k] w);rw [hp] at HP;rw [G9 hp] at hk2;replace hk2 := zz hk2;clear hp;go_wp2_with fail;refine (HP.out _).mono ?_;rintro e w' ⟨rfl, rfl⟩;go_wp2
    go_round
    case rel => exact ⟨k + 1, hlt, by go_num, by have := hk2.out; omega⟩
    case measure => simp [intOf]; omega
   | false =>
    have HP := zz (fun w => a4e s[k] w);rw [hp] at HP;rw [Il hp] at hk2;replace hk2 := zz hk2;clear hp;go_wp2_with fail;refine (HP.out _).mono ?_;rintro e w' ⟨rfl, rfl⟩;go_wp2;go_ret;exact ⟨Cs (by have := hk2.out; omega), rfl⟩
  ·rw [Co s k (by omega)] at hk2;have hlt2 : ¬ (k : Int) < s.size := by omega
   replace hk2 := zz (show k = R from hk2);go_wp2;go_ret;exact ⟨Cs (by have := hk2.out; omega), rfl⟩
theorem a0k (s : ByteArray) (hs : s.size <= 1000000) (R : Nat) (hR : Bz nou s.data.toList = R) (w : World) :
  Calls prog 94 #[.string s, .func (.func 189) #[] #[]] w fun e w' => e = .returned (.int .i64 (R : Nat)) ∧ w = w' := hR ▸ b3y s hs w
end
end
section
section
open Go.RowKit
theorem D2 {s : ByteArray} {l : List UInt8} (h : s.data.toList ≠ l) : (s.toList == l) = false := by rw [ByteArray.toList_eq]; simpa using h
theorem Gm {s : ByteArray} {l : List UInt8} (h : s.data.toList = l) : s = bs l := by rw [<- h, Ry]
theorem b65 (w : World) : Calls prog 107 #[.string { data := #[114, 101, 99] }] w fun e w' => e = .returned (.bool true) ∧ w = w' := by
 go_enter func107, ntmps107;go_wp2;go_ret;exact ⟨rfl, rfl⟩
theorem b64 (w : World) : Calls prog 107 #[.string { data := #[102, 110] }] w fun e w' => e = .returned (.bool true) ∧ w = w' := by
 go_enter func107, ntmps107;go_wp2;go_ret;exact ⟨rfl, rfl⟩
theorem b63 (w : World) : Calls prog 107 #[.string { data := #[118, 97, 114] }] w fun e w' => e = .returned (.bool true) ∧ w = w' := by
 go_enter func107, ntmps107;go_wp2;go_ret;exact ⟨rfl, rfl⟩
theorem b62 (w : World) : Calls prog 107 #[.string { data := #[105, 102] }] w fun e w' => e = .returned (.bool true) ∧ w = w' := by
 go_enter func107, ntmps107;go_wp2;go_ret;exact ⟨rfl, rfl⟩
theorem b61 (w : World) : Calls prog 107 #[.string { data := #[101, 108, 115, 101] }] w fun e w' => e = .returned (.bool true) ∧ w = w' := by
 go_enter func107, ntmps107;go_wp2;go_ret;exact ⟨rfl, rfl⟩
theorem b60 (w : World) : Calls prog 107 #[.string { data := #[119, 104, 105, 108, 101] }] w fun e w' => e = .returned (.bool true) ∧ w = w' := by
 go_enter func107, ntmps107;go_wp2;go_ret;exact ⟨rfl, rfl⟩
theorem b6z (w : World) : Calls prog 107 #[.string { data := #[114, 101, 116, 117, 114, 110] }] w fun e w' => e = .returned (.bool true) ∧ w = w' := by
 go_enter func107, ntmps107;go_wp2;go_ret;exact ⟨rfl, rfl⟩
theorem b6y (w : World) : Calls prog 107 #[.string { data := #[112, 114, 105, 110, 116] }] w fun e w' => e = .returned (.bool true) ∧ w = w' := by
 go_enter func107, ntmps107;go_wp2;go_ret;exact ⟨rfl, rfl⟩
theorem b6x (w : World) : Calls prog 107 #[.string { data := #[116, 114, 117, 101] }] w fun e w' => e = .returned (.bool true) ∧ w = w' := by
 go_enter func107, ntmps107;go_wp2;go_ret;exact ⟨rfl, rfl⟩
theorem b6w (w : World) : Calls prog 107 #[.string { data := #[102, 97, 108, 115, 101] }] w fun e w' => e = .returned (.bool true) ∧ w = w' := by
 go_enter func107, ntmps107;go_wp2;go_ret;exact ⟨rfl, rfl⟩
theorem b2t (w : World) : Calls prog 107 #[.string { data := #[110, 105, 108] }] w fun e w' => e = .returned (.bool true) ∧ w = w' := by
 go_enter func107, ntmps107;go_wp2;go_ret;exact ⟨rfl, rfl⟩
theorem b2s (w : World) : Calls prog 107 #[.string { data := #[109, 97, 107, 101] }] w fun e w' => e = .returned (.bool true) ∧ w = w' := by
 go_enter func107, ntmps107;go_wp2;go_ret;exact ⟨rfl, rfl⟩
theorem b2r (w : World) : Calls prog 107 #[.string { data := #[105, 110, 116] }] w fun e w' => e = .returned (.bool true) ∧ w = w' := by
 go_enter func107, ntmps107;go_wp2;go_ret;exact ⟨rfl, rfl⟩
theorem b2q (w : World) : Calls prog 107 #[.string { data := #[98, 111, 111, 108] }] w fun e w' => e = .returned (.bool true) ∧ w = w' := by
 go_enter func107, ntmps107;go_wp2;go_ret;exact ⟨rfl, rfl⟩
theorem b2p (w : World) : Calls prog 107 #[.string { data := #[115, 116, 114] }] w fun e w' => e = .returned (.bool true) ∧ w = w' := by
 go_enter func107, ntmps107;go_wp2;go_ret;exact ⟨rfl, rfl⟩
theorem b2o (w : World) : Calls prog 107 #[.string { data := #[99, 111, 109, 112] }] w fun e w' => e = .returned (.bool true) ∧ w = w' := by
 go_enter func107, ntmps107;go_wp2;go_ret;exact ⟨rfl, rfl⟩
theorem a10 (s : ByteArray) (w : World) (e0 : (s.toList == [114, 101, 99]) = false) (e1 : (s.toList == [102, 110]) = false) (e2 : (s.toList == [118, 97, 114]) = false) (e3 : (s.toList == [105, 102]) = false) (e4 : (s.toList == [101, 108, 115, 101]) = false) (e5 : (s.toList == [119, 104, 105, 108, 101]) = false) (e6 : (s.toList == [114, 101, 116, 117, 114, 110]) = false) (e7 : (s.toList == [112, 114, 105, 110, 116]) = false) (e8 : (s.toList == [116, 114, 117, 101]) = false) (e9 : (s.toList == [102, 97, 108, 115, 101]) = false) (e10 : (s.toList == [110, 105, 108]) = false) (e11 : (s.toList == [109, 97, 107, 101]) = false) (e12 : (s.toList == [105, 110, 116]) = false) (e13 : (s.toList == [98, 111, 111, 108]) = false) (e14 : (s.toList == [115, 116, 114]) = false) (e15 : (s.toList == [99, 111, 109, 112]) = false) : Calls prog 107 #[.string s] w fun e w' => e = .returned (.bool false) ∧ w = w' := by
 go_enter func107, ntmps107;go_wp2;go_ret;exact ⟨rfl, rfl⟩
theorem a7d (s : ByteArray) (w : World) : Calls prog 107 #[.string s] w fun e w' => e = .returned (.bool (Dj s.data.toList)) ∧ w = w' := by
 by_cases h0 : s.data.toList = [114, 101, 99]
 ·rw [Gm h0]; exact b65 w
 by_cases h1 : s.data.toList = [102, 110]
 ·rw [Gm h1]; exact b64 w
 by_cases h2 : s.data.toList = [118, 97, 114]
 ·rw [Gm h2]; exact b63 w
 by_cases h3 : s.data.toList = [105, 102]
 ·rw [Gm h3]; exact b62 w
 by_cases h4 : s.data.toList = [101, 108, 115, 101]
 ·rw [Gm h4]; exact b61 w
 by_cases h5 : s.data.toList = [119, 104, 105, 108, 101]
 ·rw [Gm h5]; exact b60 w
 by_cases h6 : s.data.toList = [114, 101, 116, 117, 114, 110]
 ·rw [Gm h6]; exact b6z w
 by_cases h7 : s.data.toList = [112, 114, 105, 110, 116]
 ·rw [Gm h7]; exact b6y w
 by_cases h8 : s.data.toList = [116, 114, 117, 101]
 ·rw [Gm h8]; exact b6x w
 by_cases h9 : s.data.toList = [102, 97, 108, 115, 101]
 ·rw [Gm h9]; exact b6w w
 by_cases h10 : s.data.toList = [110, 105, 108]
 ·rw [Gm h10]; exact b2t w
 by_cases h11 : s.data.toList = [109, 97, 107, 101]
 ·rw [Gm h11]; exact b2s w
 by_cases h12 : s.data.toList = [105, 110, 116]
 ·rw [Gm h12]; exact b2r w
 by_cases h13 : s.data.toList = [98, 111, 111, 108]
 ·rw [Gm h13]; exact b2q w
 by_cases h14 : s.data.toList = [115, 116, 114]
 ·rw [Gm h14]; exact b2p w
 by_cases h15 : s.data.toList = [99, 111, 109, 112]
 ·rw [Gm h15]; exact b2o w
 rw [show Dj s.data.toList = false by simp [Dj, Lb, h0, h1, h2, h3, h4, h5, h6, h7, h8, h9, h10, h11, h12, h13, h14, h15]];exact a10 s w (D2 h0) (D2 h1) (D2 h2) (D2 h3) (D2 h4) (D2 h5) (D2 h6) (D2 h7) (D2 h8) (D2 h9) (D2 h10) (D2 h11) (D2 h12) (D2 h13) (D2 h14) (D2 h15)
theorem V8 (s : ByteArray) (b : Bool) (h : Dj s.data.toList = b) (w : World) : Calls prog 107 #[.string s] w fun e w' => e = .returned (.bool b) ∧ w = w' := h ▸ a7d s w
theorem b68 (w : World) (k : Nat) (h : k < 16) : (w.alloc (Obj.cells #[Value.string { data := #[114, 101, 99] }, Value.string { data := #[102, 110] }, Value.string { data := #[118, 97, 114] }, Value.string { data := #[105, 102] }, Value.string { data := #[101, 108, 115, 101] }, Value.string { data := #[119, 104, 105, 108, 101] }, Value.string { data := #[114, 101, 116, 117, 114, 110] }, Value.string { data := #[112, 114, 105, 110, 116] }, Value.string { data := #[116, 114, 117, 101] }, Value.string { data := #[102, 97, 108, 115, 101] }, Value.string { data := #[110, 105, 108] }, Value.string { data := #[109, 97, 107, 101] }, Value.string { data := #[105, 110, 116] }, Value.string { data := #[98, 111, 111, 108] }, Value.string { data := #[115, 116, 114] }, Value.string { data := #[99, 111, 109, 112] }] 9)).cell? ⟨w.heap.size, k, none⟩ = some (.string (bs (Lb[k]'h))) := by
 have e : (w.alloc (Obj.cells #[Value.string { data := #[114, 101, 99] }, Value.string { data := #[102, 110] }, Value.string { data := #[118, 97, 114] }, Value.string { data := #[105, 102] }, Value.string { data := #[101, 108, 115, 101] }, Value.string { data := #[119, 104, 105, 108, 101] }, Value.string { data := #[114, 101, 116, 117, 114, 110] }, Value.string { data := #[112, 114, 105, 110, 116] }, Value.string { data := #[116, 114, 117, 101] }, Value.string { data := #[102, 97, 108, 115, 101] }, Value.string { data := #[110, 105, 108] }, Value.string { data := #[109, 97, 107, 101] }, Value.string { data := #[105, 110, 116] }, Value.string { data := #[98, 111, 111, 108] }, Value.string { data := #[115, 116, 114] }, Value.string { data := #[99, 111, 109, 112] }] 9)).cell? ⟨w.heap.size, k, none⟩ = (#[Value.string { data := #[114, 101, 99] }, Value.string { data := #[102, 110] }, Value.string { data := #[118, 97, 114] }, Value.string { data := #[105, 102] }, Value.string { data := #[101, 108, 115, 101] }, Value.string { data := #[119, 104, 105, 108, 101] }, Value.string { data := #[114, 101, 116, 117, 114, 110] }, Value.string { data := #[112, 114, 105, 110, 116] }, Value.string { data := #[116, 114, 117, 101] }, Value.string { data := #[102, 97, 108, 115, 101] }, Value.string { data := #[110, 105, 108] }, Value.string { data := #[109, 97, 107, 101] }, Value.string { data := #[105, 110, 116] }, Value.string { data := #[98, 111, 111, 108] }, Value.string { data := #[115, 116, 114] }, Value.string { data := #[99, 111, 109, 112] }] : Array Value)[k]? := by simp [go_sem]
 rw [e]
 match k, h with
 | 0, _ => rfl
 | 1, _ => rfl
 | 2, _ => rfl
 | 3, _ => rfl
 | 4, _ => rfl
 | 5, _ => rfl
 | 6, _ => rfl
 | 7, _ => rfl
 | 8, _ => rfl
 | 9, _ => rfl
 | 10, _ => rfl
 | 11, _ => rfl
 | 12, _ => rfl
 | 13, _ => rfl
 | 14, _ => rfl
 | 15, _ => rfl
 | n + 16, h => omega
end
end
section
section
open Go.RowKit
def Ek (note : Bool) : List UInt8 -> Nat
 | [] => 0
 | c :: t => if c = 10 then Ek false t + 1 else if note = true ∨ c = 35 then Ek true t + 1 else if c = 32 ∨ c = 9 ∨ c = 13 then Ek false t + 1 else 0
def plc (a b : Nat) : List UInt8 -> Nat × Nat
 | [] => (a, b)
 | c :: t => if c = 10 then plc (a + 1) 1 t else plc a (b + 1) t
theorem R8 (n : Bool) (t : List UInt8) : Ek n (10 :: t) = Ek false t + 1 := by rw [Ek, if_pos rfl]
theorem Wn {n : Bool} {c : UInt8} (t : List UInt8) (h : c ≠ 10) (h2 : n = true ∨ c = 35) : Ek n (c :: t) = Ek true t + 1 := by rw [Ek, if_neg h, if_pos h2]
theorem Gy {c : UInt8} (t : List UInt8) (h : c = 32 ∨ c = 9 ∨ c = 13) : Ek false (c :: t) = Ek false t + 1 := by
 rw [Ek, if_neg (by rcases h with rfl | rfl | rfl <;> decide), if_neg (by rcases h with rfl | rfl | rfl <;> decide), if_pos h]
theorem Yg {c : UInt8} (t : List UInt8) (h : ¬ Fy c) : Ek false (c :: t) = 0 := by
 unfold Fy at h;rw [Ek, if_neg (fun e => h (.inl e)), if_neg (fun e => h (by rcases e with e | e <;> simp_all)), if_neg (fun e => h (by rcases e with e | e | e <;> simp [e]))]
end
end
section
open Go.RowKit
theorem Qg (s : ByteArray) (k : Nat) (h : k < s.size) : body (s.data.toList.take (k + 1)) = body (s.data.toList.take k) ++ esc s[k] := by
 rw [Es s k h, a6g]
theorem a6h (s : ByteArray) (k : Nat) (h : k <= s.size) (hs : s.size <= 100000) : (body (s.data.toList.take k)).length <= 400000 := by
 have := Th (s.data.toList.take k);rw [List.length_take, Ad] at this;omega
def c24 (s : ByteArray) (w : World) (a' : Act) (w' : World) : Prop :=
 ∃ k : Nat, (w' = w ∧ k <= s.size) ∧ ∃ u5 u6 u7 u8 u9 u10 u11 u12 u13 u14 u15 u16 u17 : Value, a' = { tmps := #[.string s, undef, .int .i64 0, .int .i64 ((body (s.data.toList.take k)).length + 2 : Nat), .int .i64 k, u5, u6, u7, u8, u9, u10, u11, u12, u13, u14, u15, u16, u17], defers := [] }
theorem Yh (s : ByteArray) (w : World) (hs : s.size <= 100000) : Calls prog 183 #[.string s] w fun e w' => e = .returned (.int .i64 ((lit s.data.toList).length : Nat)) ∧ w = w' := by
 go_enter func183, ntmps183;go_wp2;refine Ep 0 (c24 s w) (fun a' _ => s.size - (intOf (a'.tmps.getD 4 undef)).toNat) rfl ?_ ?_
 ·rintro a' w' ⟨k, ⟨rfl, hk⟩, u5, u6, u7, u8, u9, u10, u11, u12, u13, u14, u15, u16, u17, rfl⟩;have hz := a6h s k hk hs;by_cases hlt : k < s.size
  ·have HE := zz (fun w => Wv s[k] w);have h4 := (Xw s[k]).2.2.2.1;have HB := zz (show (body (s.data.toList.take (k + 1))).length + 2 = (body (s.data.toList.take k)).length + 2 + (esc s[k]).length by rw [Qg s k hlt]; simp; omega);obtain ⟨m, hm⟩ : ∃ m, (body (s.data.toList.take k)).length + 2 = m := ⟨_, rfl⟩;obtain ⟨p, hp⟩ : ∃ p, (esc s[k]).length = p := ⟨_, rfl⟩;have hm2 : m <= 400002 := by omega
   have hp2 : p <= 4 := by omega
   rw [hm] at HB;rw [hp] at HB HE;rw [hm];clear hm hp h4 hz;go_wp2_with fail;refine (HE.out _).mono ?_;rintro e w1 ⟨rfl, rfl⟩;go_wp2
   go_step3
   refine ⟨rfl, ⟨k + 1, ⟨rfl, hlt⟩, ?_⟩, ?_⟩
   ·rw [HB.out];exact ⟨_, _, _, _, _, _, _, _, _, _, _, _, _, rfl⟩
   ·simp [intOf];omega
  ·obtain rfl : k = s.size := by omega
   have HB := zz (show (((body (s.data.toList.take s.size)).length + 2 : Nat) : Int) = (lit s.data.toList).length by rw [List.take_of_length_le (by rw [Ad]; omega), Xl]);go_wp2;simp only [Exit.jump];go_ret;exact ⟨Cs HB.out, rfl⟩
 ·intro F;go_wp2
  go_step3
  rename_i hK;apply hK;exact F _ _ ⟨0, ⟨rfl, Nat.zero_le _⟩, _, _, _, _, _, _, _, _, _, _, _, _, _, rfl⟩
end
end Go.Proofs.YtoaplbljflhheaaGreat
