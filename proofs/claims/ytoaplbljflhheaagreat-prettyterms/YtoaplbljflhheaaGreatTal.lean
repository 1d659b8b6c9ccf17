/-
 Contracts and plain facts on the way to PrettyTerms. Conditions: as each says.
-/
import Derived.Test.YtoaplbljflhheaaGreatTai
import Derived.Test.YtoaplbljflhheaaGreatTae
set_option maxHeartbeats 40000000
set_option maxRecDepth 100000
set_option linter.unusedVariables false
set_option linter.unusedSimpArgs false
namespace Go.Proofs.YtoaplbljflhheaaGreat
section
structure Inf where
 kind : Nat
 line : Nat
 col : Nat
 num : Int
 text : List UInt8
inductive Fo where
 | nil : Fo
 | cons (i : Inf) (k r : Fo) : Fo
def Inf.nd (i : Inf) (n : Nat) : Nd := ⟨i.kind, i.line, i.col, n, i.num, bs i.text⟩
def Fo.app : Fo → Fo → Fo
 | .nil, g => g
 | .cons i k r, g => .cons i k (r.app g)
def Fo.cnt : Fo → Nat
 | .nil => 0
 | .cons _ k r => k.cnt + 1 + r.cnt
def Fo.post : Fo → List Nd
 | .nil => []
 | .cons i k r => k.post ++ i.nd k.cnt :: r.post
def Fo.pre : Fo → List Nd
 | .nil => []
 | .cons i k r => i.nd k.cnt :: (k.pre ++ r.pre)
theorem a1j (F : Fo) : F.app .nil = F := by
 induction F with
 | nil => rfl
 | cons i k r _ ih => simp [Fo.app, ih]
theorem a1k (F G H : Fo) : (F.app G).app H = F.app (G.app H) := by
 induction F with
 | nil => rfl
 | cons i k r _ ih => simp [Fo.app, ih]
theorem Ds (F G : Fo) : (F.app G).cnt = F.cnt + G.cnt := by
 induction F with
 | nil => simp [Fo.app, Fo.cnt]
 | cons i k r _ ih => simp [Fo.app, Fo.cnt, ih]; omega
theorem Di (F G : Fo) : (F.app G).post = F.post ++ G.post := by
 induction F with
 | nil => rfl
 | cons i k r _ ih => simp [Fo.app, Fo.post, ih]
theorem Au (F : Fo) : F.post.length = F.cnt := by
 induction F with
 | nil => rfl
 | cons i k r ihk ihr => simp [Fo.post, Fo.cnt, ihk, ihr]; omega
theorem Cg (F : Fo) : F.pre.length = F.cnt := by
 induction F with
 | nil => rfl
 | cons i k r ihk ihr => simp [Fo.pre, Fo.cnt, ihk, ihr]; omega
inductive Out where
 | ok (F : Fo) (r : List Tok) : Out
 | bad (c : Int) (l k : Nat) : Out
def Out.bind : Out → (Fo → List Tok → Out) → Out
 | .ok F r, f => f F r
 | .bad c l k, _ => .bad c l k
abbrev Pt := Nat → List Tok → Out
def b1j : Tok := ⟨0, 0, 0, 0, []⟩
def hd (ts : List Tok) : Tok := ts.headD b1j
def H8 (x : List UInt8) (t : Tok) : Bool := decide ((t.kind = 6 ∨ t.kind = 7) ∧ t.text = x)
def sees (x : List UInt8) (ts : List Tok) : Bool := H8 x (hd ts)
def Kq (c : Int) (ts : List Tok) : Out := .bad c (hd ts).line (hd ts).col
def C2 : Pt := fun _ ts => .ok .nil ts
def H9 : Pt := fun _ _ => .bad 5 0 0
def Gx (q : List Tok → Bool) : Pt := fun _ ts => if q ts = true then .ok .nil ts.tail else Kq 5 ts
def take (x : List UInt8) : Pt := Gx (sees x)
def J1 (k : Nat) : Pt := Gx (fun ts => decide ((hd ts).kind = k))
def Lr (a b : Pt) : Pt := fun d ts => (a d ts).bind fun F r => (b d r).bind fun G r' => .ok (F.app G) r'
def Fc (p : Pt) : Pt := fun d ts => p d ts.tail
def L5 (x : List UInt8) (a b : Pt) : Pt := fun d ts => if sees x ts = true then a d ts else b d ts
def By (p : Pt) : Pt := fun d ts => if d = 40 then Kq 6 ts else p (d + 1) ts.tail
def Ax (o c : List UInt8) (p : Pt) : Pt := fun d ts => if sees o ts = true then Lr (By p) (take c) d ts else Kq 5 ts
def Dm (mk : List Tok → Inf) (p : Pt) : Pt := fun d ts => (p d ts).bind fun F r => .ok (.cons (mk ts) F .nil) r
def F0 (p : Pt) : Nat → Pt
 | 0 => H9
 | n + 1 => fun d ts => (p d ts).bind fun F r => if sees [44] r = true then (F0 p n d r.tail).bind fun G r' => .ok (F.app G) r' else .ok F r
def Dn (p : Pt) (n : Nat) : Pt := L5 [41] C2 (F0 p n)
def Hh (x : List UInt8) : Int :=
 if x = [43] then 1 else if x = [45] then 2 else if x = [42] then 3 else if x = [47] then 4 else if x = [37] then 5 else if x = [61, 61] then 6 else if x = [33, 61] then 7
 else if x = [60] then 8 else if x = [60, 61] then 9 else if x = [62] then 10 else if x = [62, 61] then 11 else if x = [38, 38] then 14 else 15
def anyS (S : List (List UInt8)) (ts : List Tok) : Bool := S.any fun x => sees x ts
def Ct (p : Pt) (F : Fo) : Pt := fun d ts => (p d ts.tail).bind fun G r => .ok (.cons ⟨31, (hd ts).line, (hd ts).col, Hh (hd ts).text, []⟩ (F.app G) .nil) r
def B9 (p : Pt) (S : List (List UInt8)) : Nat → Fo → Pt
 | 0, _ => H9
 | n + 1, F => fun d ts => if anyS S ts = true then (Ct p F d ts).bind fun G r => B9 p S n G d r else .ok F ts
def Ce (p : Pt) (S : List (List UInt8)) (n : Nat) : Pt := fun d ts => (p d ts).bind fun F r => B9 p S n F d r
def Hf (p : Pt) (S : List (List UInt8)) : Pt := fun d ts => (p d ts).bind fun F r => if anyS S r = true then Ct p F d r else .ok F r
def mkK (k : Nat) (ts : List Tok) : Inf := ⟨k, (hd ts).line, (hd ts).col, 0, []⟩
def mkN (k : Nat) (n : Int) (ts : List Tok) : Inf := ⟨k, (hd ts).line, (hd ts).col, n, []⟩
def mkX (k : Nat) (ts : List Tok) : Inf := ⟨k, (hd ts).line, (hd ts).col, 0, (hd ts).text⟩
def mkY (k : Nat) (ts : List Tok) : Inf := ⟨k, (hd ts).line, (hd ts).col, 0, (hd ts.tail).text⟩
def Ez (t : Tok) : Option (Nat × List UInt8) :=
 if t.kind = 2 then some (19, t.text) else if t.kind ≠ 6 then none
 else if t.text = [105, 110, 116] then some (15, []) else if t.text = [98, 111, 111, 108] then some (16, []) else if t.text = [115, 116, 114] then some (17, []) else if t.text = [99, 111, 109, 112] then some (18, []) else none
def Am : Pt := fun d ts => match Ez (hd ts) with
 | some q => .ok (.cons ⟨q.1, (hd ts).line, (hd ts).col, 0, q.2⟩ .nil .nil) ts.tail
 | none => Kq 5 ts
def Az (p : Pt) : Pt := Dm (mkK 20) (Ax [91] [93] p)
def Fd : Nat → Pt
 | 0 => H9
 | n + 1 => L5 [91] (Az (Fd n)) Am
def Bg (t : Tok) : Option (Nat × Int × List UInt8) :=
 if t.kind = 3 then some (21, t.num, []) else if t.kind = 4 then some (22, t.num, []) else if t.kind = 5 then some (23, 0, t.text) else if t.kind ≠ 6 then none
 else if t.text = [116, 114, 117, 101] then some (24, 1, []) else if t.text = [102, 97, 108, 115, 101] then some (24, 0, []) else if t.text = [110, 105, 108] then some (25, 0, []) else none
def Eb : Pt := fun d ts => match Bg (hd ts) with
 | some q => .ok (.cons ⟨q.1, (hd ts).line, (hd ts).col, q.2.1, q.2.2⟩ .nil .nil) ts.tail
 | none => Kq 5 ts
def Es (E : Pt) (n : Nat) : Pt := fun d ts => if sees [40] ts.tail = true then Dm (mkX 27) (Fc (Ax [40] [41] (Dn E n))) d ts else .ok (.cons (mkX 26 ts) .nil .nil) ts.tail
def Fg (E : Pt) (n : Nat) : Pt := Dm (mkK 32) (Fc fun d ts => if (hd ts).kind = 2 then Lr Am (Ax [40] [41] C2) d ts else Lr (Az (Fd n)) (Ax [40] [41] E) d ts)
def Du (E : Pt) (n : Nat) : Pt := fun d ts => if sees [40] ts = true then Ax [40] [41] E d ts else if sees [109, 97, 107, 101] ts = true then Fg E n d ts else if (hd ts).kind = 1 then Es E n d ts else Eb d ts
def Cr (E : Pt) : Nat → Fo → Pt
 | 0, _ => H9
 | n + 1, F => fun d ts => if sees [91] ts = true then (Ax [91] [93] E d ts).bind fun G r => Cr E n (.cons (mkK 28 ts) (F.app G) .nil) d r
  else if sees [46] ts = true then (J1 1 d ts.tail).bind fun _ r => Cr E n (.cons (mkY 29 ts) F .nil) d r else .ok F ts
def Fv (E : Pt) (n : Nat) : Pt := fun d ts => (Du E n d ts).bind fun F r => Cr E n F d r
def Cq (U p : Pt) : Pt := fun d ts => if sees [45] ts = true then Dm (mkN 30 12) (By U) d ts else if sees [33] ts = true then Dm (mkN 30 13) (By U) d ts else p d ts
def a2b (u : Pt) (n : Nat) : Pt := Ce u [[42], [47], [37]] n
def b4n (u : Pt) (n : Nat) : Pt := Ce (a2b u n) [[43], [45]] n
def a31 (u : Pt) (n : Nat) : Pt := Hf (b4n u n) [[60], [60, 61], [62], [62, 61]]
def Tr (u : Pt) (n : Nat) : Pt := Hf (a31 u n) [[61, 61], [33, 61]]
def b4v (u : Pt) (n : Nat) : Pt := Ce (Tr u n) [[38, 38]] n
def orP (u : Pt) (n : Nat) : Pt := Ce (b4v u n) [[124, 124]] n
def eu : Nat → Pt × Pt
 | 0 => (H9, H9)
 | n + 1 => (orP (Cq (eu n).2 (Fv (eu n).1 (n + 1))) (n + 1), Cq (eu n).2 (Fv (eu n).1 (n + 1)))
def Aw (n : Nat) : Pt := (eu n).1
def unP (n : Nat) : Pt := (eu n).2
theorem H6 (n : Nat) : Aw (n + 1) = orP (unP (n + 1)) (n + 1) := rfl
theorem Nv (n : Nat) : unP (n + 1) = Cq (unP n) (Fv (Aw n) (n + 1)) := rfl
def D0 (p : Pt) (ts : List Tok) : Out := (p 0 ts).bind fun F r => if (hd r).kind = 8 then .ok F r else Kq 5 r
end
end Go.Proofs.YtoaplbljflhheaaGreat
namespace Go.Proofs.YtoaplbljflhheaaGreat
section
def Sl (ts : List Tok) : Prop := ∃ a e, ts = a ++ [e] ∧ e.kind = 8
theorem Sl.ne {ts : List Tok} (h : Sl ts) : ∃ t l, ts = t :: l := by
 obtain ⟨a, e, rfl, _⟩ := h
 cases a with
 | nil => exact ⟨e, [], rfl⟩
 | cons t l => exact ⟨t, l ++ [e], rfl⟩
theorem Sl.tl {t : Tok} {l : List Tok} (h : Sl (t :: l)) (hk : t.kind ≠ 8) : Sl l := by
 obtain ⟨a, e, ha, he⟩ := h
 cases a with
 | nil => simp at ha; rw [ha.1] at hk; exact absurd he hk
 | cons u m => simp at ha; exact ⟨m, e, ha.2, he⟩
theorem Aj {o : Out} {f : Fo → List Tok → Out} {G : Fo} {r : List Tok} (h : o.bind f = .ok G r) : ∃ F r1, o = .ok F r1 ∧ f F r1 = .ok G r := by
 cases o with
 | ok F r1 => exact ⟨F, r1, rfl, h⟩
 | bad c l k => cases h
theorem C7 {x : List UInt8} {ts : List Tok} (h : sees x ts = true) : ∃ t l, ts = t :: l ∧ (t.kind = 6 ∨ t.kind = 7) ∧ t.text = x := by
 cases ts with
 | nil => simp [sees, H8, hd, b1j] at h
 | cons t l => simp [sees, H8, hd] at h; exact ⟨t, l, rfl, h⟩
theorem Mq {S : List (List UInt8)} {ts : List Tok} (h : anyS S ts = true) : ∃ t l, ts = t :: l ∧ (t.kind = 6 ∨ t.kind = 7) := by
 obtain ⟨x, _, hx⟩ := List.any_eq_true.1 h
 obtain ⟨t, l, h1, h2, _⟩ := C7 hx
 exact ⟨t, l, h1, h2⟩
theorem L4 {k : Nat} {ts : List Tok} (h : (hd ts).kind = k) (hk : k ≠ 0) : ∃ t l, ts = t :: l ∧ t.kind = k := by
 cases ts with
 | nil => simp [hd, b1j] at h; omega
 | cons t l => exact ⟨t, l, rfl, h⟩
def Lft (n : Nat) (ts : List Tok) (r : List Tok) : Prop := n + r.length ≤ ts.length ∧ (Sl ts → Sl r) ∧ ∀ t ∈ r, t ∈ ts
theorem Lft.refl (ts : List Tok) : Lft 0 ts ts := ⟨by omega, id, fun _ h => h⟩
theorem Lft.trans {m n : Nat} {a b c : List Tok} (h : Lft m a b) (k : Lft n b c) : Lft (m + n) a c := ⟨by have := h.1; have := k.1; omega, fun e => k.2.1 (h.2.1 e), fun t ht => h.2.2 t (k.2.2 t ht)⟩
theorem Lft.mono {m n : Nat} {a b : List Tok} (h : Lft m a b) (hn : n ≤ m) : Lft n a b := ⟨by have := h.1; omega, h.2⟩
theorem Lft.tail {t : Tok} {l : List Tok} (h : t.kind ≠ 8) : Lft 1 (t :: l) l := ⟨by simp; omega, fun e => e.tl h, fun u hu => by simp [hu]⟩
theorem Gk {x : List UInt8} {ts : List Tok} (h : sees x ts = true) : Lft 1 ts ts.tail := by
 obtain ⟨t, l, rfl, hk, _⟩ := C7 h
 exact Lft.tail (by omega)
theorem Zv {S : List (List UInt8)} {ts : List Tok} (h : anyS S ts = true) : Lft 1 ts ts.tail := by
 obtain ⟨t, l, rfl, hk⟩ := Mq h
 exact Lft.tail (by omega)
theorem Jc {k : Nat} {ts : List Tok} (h : (hd ts).kind = k) (h0 : k ≠ 0) (h8 : k ≠ 8) : Lft 1 ts ts.tail := by
 obtain ⟨t, l, rfl, hk⟩ := L4 h h0
 exact Lft.tail (by omega)
def GA (s : Nat) (p : Pt) (d : Nat) (ts : List Tok) : Prop := ∀ F r, p d ts = .ok F r → Lft (F.cnt + s) ts r
def Gd (s : Nat) (p : Pt) : Prop := ∀ d ts, GA s p d ts
theorem Gd.mono {s s' : Nat} {p : Pt} (h : Gd s p) (hs : s' ≤ s) : Gd s' p := fun d ts F r e => (h d ts F r e).mono (by omega)
theorem K4 (s : Nat) : Gd s H9 := fun d ts F r e => by cases e
theorem F9 : Gd 0 C2 := fun d ts F r e => by cases e; exact Lft.refl _
theorem a89 (x : List UInt8) : Gd 1 (take x) := fun d ts F r e => by
 unfold take Gx at e
 split at e
 ·rename_i h; cases e; exact Gk h
 ·cases e
theorem a0b (k : Nat) (h0 : k ≠ 0) (h8 : k ≠ 8) : Gd 1 (J1 k) := fun d ts F r e => by
 unfold J1 Gx at e
 split at e
 ·rename_i h; cases e; exact Jc (of_decide_eq_true h) h0 h8
 ·cases e
theorem a6l {s s' : Nat} {a b : Pt} {d : Nat} {ts : List Tok} (ha : GA s a d ts) (hb : Gd s' b) : GA (s + s') (Lr a b) d ts := fun F r e => by
 obtain ⟨F1, r1, e1, e2⟩ := Aj e
 obtain ⟨F2, r2, e3, e4⟩ := Aj e2
 cases e4
 rw [Ds]
 exact ((ha _ _ e1).trans (hb _ _ _ _ e3)).mono (by omega)
theorem a6j {s s' : Nat} {a b : Pt} (ha : Gd s a) (hb : Gd s' b) : Gd (s + s') (Lr a b) := fun d ts => a6l (ha d ts) hb
theorem a6k {s : Nat} {x : List UInt8} {a b : Pt} (ha : ∀ d ts, sees x ts = true → GA s a d ts) (hb : Gd s b) : Gd s (L5 x a b) := fun d ts F r e => by
 unfold L5 at e
 split at e
 ·rename_i h; exact ha d ts h F r e
 ·exact hb d ts F r e
theorem a4j {s : Nat} {x : List UInt8} {p : Pt} {d : Nat} {ts : List Tok} (h : sees x ts = true) (hp : Gd s p) : GA (s + 1) (Fc p) d ts := fun F r e => ((Gk h).trans (hp _ _ _ _ e)).mono (by omega)
theorem On {s : Nat} {mk : List Tok → Inf} {p : Pt} {d : Nat} {ts : List Tok} (h : GA (s + 1) p d ts) : GA s (Dm mk p) d ts := fun F r e => by
 obtain ⟨F1, r1, e1, e2⟩ := Aj e
 cases e2
 exact (h _ _ e1).mono (by simp [Fo.cnt]; omega)
theorem Hj {s : Nat} {x : List UInt8} {p : Pt} {d : Nat} {ts : List Tok} (h : sees x ts = true) (hp : Gd s p) : GA (s + 1) (By p) d ts := fun F r e => by
 unfold By at e
 split at e
 ·cases e
 ·exact ((Gk h).trans (hp _ _ _ _ e)).mono (by omega)
theorem C0 {s : Nat} {o c : List UInt8} {p : Pt} (hp : Gd s p) : Gd (s + 2) (Ax o c p) := fun d ts F r e => by
 unfold Ax at e
 split at e
 ·rename_i h
  have := a6l (Hj (d := d) h hp) (a89 c) F r e
  exact this.mono (by omega)
 ·cases e
theorem a4h {p : Pt} (hp : Gd 0 p) (n : Nat) : Gd 0 (F0 p n) := by
 induction n with
 | zero => exact K4 0
 | succ n ih =>
  intro d ts F r e
  unfold F0 at e
  obtain ⟨F1, r1, e1, e2⟩ := Aj e
  split at e2
  ·rename_i h
   obtain ⟨F2, r2, e3, e4⟩ := Aj e2
   cases e4
   rw [Ds]
   exact (((hp _ _ _ _ e1).trans (Gk h)).trans (ih _ _ _ _ e3)).mono (by omega)
  ·cases e2; exact hp _ _ _ _ e1
theorem Jg {p : Pt} (hp : Gd 0 p) (n : Nat) : Gd 0 (Dn p n) := a6k (fun d ts _ => F9 d ts) (a4h hp n)
theorem Nl {p : Pt} (hp : Gd 0 p) {S : List (List UInt8)} {F G : Fo} {d : Nat} {ts r : List Tok} (hs : anyS S ts = true) (e : Ct p F d ts = .ok G r) : ∃ n, Lft n ts r ∧ G.cnt = F.cnt + n := by
 obtain ⟨F1, r1, e1, e2⟩ := Aj e
 cases e2
 exact ⟨F1.cnt + 1, ((Zv hs).trans (hp _ _ _ _ e1)).mono (by omega), by simp [Fo.cnt, Ds]; omega⟩
theorem We {p : Pt} (hp : Gd 0 p) {S : List (List UInt8)} (n : Nat) : ∀ {F G : Fo} {d : Nat} {ts r : List Tok}, B9 p S n F d ts = .ok G r → ∃ n, Lft n ts r ∧ G.cnt = F.cnt + n := by
 induction n with
 | zero => intro F G d ts r e; cases e
 | succ n ih =>
  intro F G d ts r e
  unfold B9 at e
  split at e
  ·rename_i h
   obtain ⟨F1, r1, e1, e2⟩ := Aj e
   obtain ⟨n1, l1, c1⟩ := Nl hp h e1
   obtain ⟨n2, l2, c2⟩ := ih e2
   exact ⟨n1 + n2, l1.trans l2, by omega⟩
  ·cases e; exact ⟨0, Lft.refl _, rfl⟩
theorem Gn {p : Pt} (hp : Gd 0 p) (S : List (List UInt8)) (n : Nat) : Gd 0 (Ce p S n) := fun d ts F r e => by
 obtain ⟨F1, r1, e1, e2⟩ := Aj e
 obtain ⟨m, l, c⟩ := We hp n e2
 exact ((hp _ _ _ _ e1).trans l).mono (by omega)
theorem Om {p : Pt} (hp : Gd 0 p) (S : List (List UInt8)) : Gd 0 (Hf p S) := fun d ts F r e => by
 obtain ⟨F1, r1, e1, e2⟩ := Aj e
 split at e2
 ·rename_i h
  obtain ⟨m, l, c⟩ := Nl hp h e2
  exact ((hp _ _ _ _ e1).trans l).mono (by omega)
 ·cases e2; exact hp _ _ _ _ e1
theorem M6 {t : Tok} {q} (h : Ez t = some q) : t.kind = 2 ∨ t.kind = 6 := by
 unfold Ez at h
 split at h
 ·left; assumption
 ·split at h
  ·cases h
  ·right; simp_all
theorem Fa : Gd 0 Am := fun d ts F r e => by
 unfold Am at e
 split at e
 ·rename_i q h
  cases e
  rcases M6 h with k | k
  ·exact (Jc k (by decide) (by decide)).mono (by simp [Fo.cnt])
  ·exact (Jc k (by decide) (by decide)).mono (by simp [Fo.cnt])
 ·cases e
theorem Gm {p : Pt} (hp : Gd 0 p) : Gd 1 (Az p) := fun d ts => On (C0 hp d ts)
theorem Ma (n : Nat) : Gd 0 (Fd n) := by
 induction n with
 | zero => exact K4 0
 | succ n ih => exact a6k (fun d ts _ => (Gm ih).mono (by omega) d ts) Fa
theorem Mg {t : Tok} {q} (h : Bg t = some q) : t.kind = 3 ∨ t.kind = 4 ∨ t.kind = 5 ∨ t.kind = 6 := by
 unfold Bg at h
 split at h
 ·left; assumption
 ·split at h
  ·right; left; assumption
  ·split at h
   ·right; right; left; assumption
   ·split at h
    ·cases h
    ·right; right; right; simp_all
theorem a4i : Gd 0 Eb := fun d ts F r e => by
 unfold Eb at e
 split at e
 ·rename_i q h
  cases e
  rcases Mg h with k | k | k | k
  all_goals exact (Jc k (by decide) (by decide)).mono (by simp [Fo.cnt])
 ·cases e
section
variable {E : Pt} (hE : Gd 0 E) (n : Nat)
include hE
theorem a9b {d : Nat} {ts : List Tok} (h : (hd ts).kind = 1) : GA 0 (Es E n) d ts := fun F r e => by
 have ht := Jc h (by decide) (by decide)
 unfold Es at e
 split at e
 ·obtain ⟨F1, r1, e1, e2⟩ := Aj e
  cases e2
  exact (ht.trans (C0 (Jg hE n) _ _ _ _ e1)).mono (by simp [Fo.cnt]; omega)
 ·cases e; exact ht.mono (by simp [Fo.cnt])
theorem a9c {d : Nat} {ts : List Tok} (h : sees [109, 97, 107, 101] ts = true) : GA 0 (Fg E n) d ts := by
 refine On (a4j (s := 0) h fun d ts F r e => ?_)
 split at e
 ·exact (a6j Fa (C0 F9) _ _ _ _ e).mono (by omega)
 ·exact (a6j (Gm (Ma n)) (C0 hE) _ _ _ _ e).mono (by omega)
theorem a0d : Gd 0 (Du E n) := fun d ts F r e => by
 unfold Du at e
 split at e
 ·exact (C0 hE _ _ _ _ e).mono (by omega)
 ·split at e
  ·rename_i h; exact a9c hE n h F r e
  ·split at e
   ·rename_i h; exact a9b hE n h F r e
   ·exact a4i _ _ _ _ e
theorem Y0 (m : Nat) : ∀ {F G : Fo} {d : Nat} {ts r : List Tok}, Cr E m F d ts = .ok G r → ∃ k, Lft k ts r ∧ G.cnt = F.cnt + k := by
 induction m with
 | zero => intro F G d ts r e; cases e
 | succ m ih =>
  intro F G d ts r e
  unfold Cr at e
  split at e
  ·obtain ⟨F1, r1, e1, e2⟩ := Aj e
   obtain ⟨k, l, c⟩ := ih e2
   exact ⟨F1.cnt + 1 + k, (((C0 hE _ _ _ _ e1).mono (n := F1.cnt + 1) (by omega)).trans l), by simp [Fo.cnt, Ds] at c; omega⟩
  ·split at e
   ·rename_i h
    obtain ⟨F1, r1, e1, e2⟩ := Aj e
    obtain ⟨k, l, c⟩ := ih e2
    exact ⟨1 + k, (((Gk h).trans (a0b 1 (by decide) (by decide) _ _ _ _ e1)).mono (n := 1) (by omega)).trans l, by simp [Fo.cnt] at c; omega⟩
   ·cases e; exact ⟨0, Lft.refl _, rfl⟩
theorem a9a : Gd 0 (Fv E n) := fun d ts F r e => by
 obtain ⟨F1, r1, e1, e2⟩ := Aj e
 obtain ⟨m, l, c⟩ := Y0 hE n e2
 exact ((a0d hE n _ _ _ _ e1).trans l).mono (by omega)
end
theorem a4g {U p : Pt} (hU : Gd 0 U) (hp : Gd 0 p) : Gd 0 (Cq U p) := fun d ts F r e => by
 unfold Cq at e
 split at e
 ·rename_i h; exact On (Hj h hU) F r e
 ·split at e
  ·rename_i h; exact On (Hj h hU) F r e
  ·exact hp _ _ _ _ e
theorem b5c {u : Pt} (h : Gd 0 u) (n : Nat) : Gd 0 (orP u n) := Gn (Gn (Om (Om (Gn (Gn h _ n) _ n) _) _) _ n) _ n
theorem b3g (n : Nat) : Gd 0 (Aw n) ∧ Gd 0 (unP n) := by
 induction n with
 | zero => exact ⟨K4 0, K4 0⟩
 | succ n ih =>
  have h := a4g ih.2 (a9a ih.1 (n + 1))
  exact ⟨b5c h (n + 1), h⟩
theorem a0c (n : Nat) : Gd 0 (Aw n) := (b3g n).1
theorem b3f (n : Nat) : Gd 0 (unP n) := (b3g n).2
end
end Go.Proofs.YtoaplbljflhheaaGreat
namespace Go.Proofs.YtoaplbljflhheaaGreat
section
theorem a3p {x : List UInt8} {d : Nat} {ts r : List Tok} {F : Fo} (e : take x d ts = .ok F r) : F = .nil := by
 unfold take Gx at e
 split at e
 ·cases e; rfl
 ·cases e
end
end Go.Proofs.YtoaplbljflhheaaGreat
