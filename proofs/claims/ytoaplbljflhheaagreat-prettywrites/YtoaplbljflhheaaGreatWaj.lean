/-
 Contracts and plain facts on the way to PrettyWrites. Conditions: as each says.
-/
import Derived.Test.YtoaplbljflhheaaGreatWag
import Derived.Test.YtoaplbljflhheaaGreatWad
import Derived.ScopeJumps
import Derived.WalkMore
import Derived.Test.YtoaplbljflhheaaGreatWab
set_option maxHeartbeats 40000000
set_option maxRecDepth 100000
set_option linter.unusedVariables false
set_option linter.unusedSimpArgs false
namespace Go.Proofs.YtoaplbljflhheaaGreat
section
structure Inf where
 kind : Nat
 line : Nat
 col : Nat
 num : Int
 text : List UInt8
inductive Fo where
 | nil : Fo
 | cons (i : Inf) (k r : Fo) : Fo
def Inf.nd (i : Inf) (n : Nat) : Nd := ⟨i.kind, i.line, i.col, n, i.num, bs i.text⟩
def Fo.app : Fo → Fo → Fo
 | .nil, g => g
 | .cons i k r, g => .cons i k (r.app g)
def Fo.cnt : Fo → Nat
 | .nil => 0
 | .cons _ k r => k.cnt + 1 + r.cnt
def Fo.post : Fo → List Nd
 | .nil => []
 | .cons i k r => k.post ++ i.nd k.cnt :: r.post
def Fo.pre : Fo → List Nd
 | .nil => []
 | .cons i k r => i.nd k.cnt :: (k.pre ++ r.pre)
theorem a0m (F G H : Fo) : (F.app G).app H = F.app (G.app H) := by
 induction F with
 | nil => rfl
 | cons i k r _ ih => simp [Fo.app, ih]
theorem Df (F G : Fo) : (F.app G).cnt = F.cnt + G.cnt := by
 induction F with
 | nil => simp [Fo.app, Fo.cnt]
 | cons i k r _ ih => simp [Fo.app, Fo.cnt, ih]; omega
theorem C7 (F G : Fo) : (F.app G).post = F.post ++ G.post := by
 induction F with
 | nil => rfl
 | cons i k r _ ih => simp [Fo.app, Fo.post, ih]
theorem A4 (F : Fo) : F.post.length = F.cnt := by
 induction F with
 | nil => rfl
 | cons i k r ihk ihr => simp [Fo.post, Fo.cnt, ihk, ihr]; omega
theorem Dl (F : Fo) : F.pre.length = F.cnt := by
 induction F with
 | nil => rfl
 | cons i k r ihk ihr => simp [Fo.pre, Fo.cnt, ihk, ihr]; omega
inductive Out where
 | ok (F : Fo) (r : List Tok) : Out
 | bad (c : Int) (l k : Nat) : Out
def Out.bind : Out → (Fo → List Tok → Out) → Out
 | .ok F r, f => f F r
 | .bad c l k, _ => .bad c l k
abbrev Pt := Nat → List Tok → Out
def b3n : Tok := ⟨0, 0, 0, 0, []⟩
def hd (ts : List Tok) : Tok := ts.headD b3n
def a1s (x : List UInt8) (t : Tok) : Bool := decide ((t.kind = 6 ∨ t.kind = 7) ∧ t.text = x)
def Dr (x : List UInt8) (ts : List Tok) : Bool := a1s x (hd ts)
def Lp (c : Int) (ts : List Tok) : Out := .bad c (hd ts).line (hd ts).col
def Ii : Pt := fun _ ts => .ok .nil ts
def Kf : Pt := fun _ _ => .bad 5 0 0
def M4 (q : List Tok → Bool) : Pt := fun _ ts => if q ts = true then .ok .nil ts.tail else Lp 5 ts
def take (x : List UInt8) : Pt := M4 (Dr x)
def Ln (k : Nat) : Pt := M4 (fun ts => decide ((hd ts).kind = k))
def Vx (a b : Pt) : Pt := fun d ts => (a d ts).bind fun F r => (b d r).bind fun G r' => .ok (F.app G) r'
def G9 (p : Pt) : Pt := fun d ts => p d ts.tail
def a24 (x : List UInt8) (a b : Pt) : Pt := fun d ts => if Dr x ts = true then a d ts else b d ts
def Dn (p : Pt) : Pt := fun d ts => if d = 40 then Lp 6 ts else p (d + 1) ts.tail
def Cr (o c : List UInt8) (p : Pt) : Pt := fun d ts => if Dr o ts = true then Vx (Dn p) (take c) d ts else Lp 5 ts
def E9 (mk : List Tok → Inf) (p : Pt) : Pt := fun d ts => (p d ts).bind fun F r => .ok (.cons (mk ts) F .nil) r
def Kv (p : Pt) : Nat → Pt
 | 0 => Kf
 | n + 1 => fun d ts => (p d ts).bind fun F r => if Dr [44] r = true then (Kv p n d r.tail).bind fun G r' => .ok (F.app G) r' else .ok F r
def Hr (p : Pt) (n : Nat) : Pt := a24 [41] Ii (Kv p n)
def Ih (x : List UInt8) : Int :=
 if x = [43] then 1 else if x = [45] then 2 else if x = [42] then 3 else if x = [47] then 4 else if x = [37] then 5 else if x = [61, 61] then 6 else if x = [33, 61] then 7
 else if x = [60] then 8 else if x = [60, 61] then 9 else if x = [62] then 10 else if x = [62, 61] then 11 else if x = [38, 38] then 14 else 15
def V7 (S : List (List UInt8)) (ts : List Tok) : Bool := S.any fun x => Dr x ts
def Fa (p : Pt) (F : Fo) : Pt := fun d ts => (p d ts.tail).bind fun G r => .ok (.cons ⟨31, (hd ts).line, (hd ts).col, Ih (hd ts).text, []⟩ (F.app G) .nil) r
def Hn (p : Pt) (S : List (List UInt8)) : Nat → Fo → Pt
 | 0, _ => Kf
 | n + 1, F => fun d ts => if V7 S ts = true then (Fa p F d ts).bind fun G r => Hn p S n G d r else .ok F ts
def Eh (p : Pt) (S : List (List UInt8)) (n : Nat) : Pt := fun d ts => (p d ts).bind fun F r => Hn p S n F d r
def M5 (p : Pt) (S : List (List UInt8)) : Pt := fun d ts => (p d ts).bind fun F r => if V7 S r = true then Fa p F d r else .ok F r
def mkK (k : Nat) (ts : List Tok) : Inf := ⟨k, (hd ts).line, (hd ts).col, 0, []⟩
def mkN (k : Nat) (n : Int) (ts : List Tok) : Inf := ⟨k, (hd ts).line, (hd ts).col, n, []⟩
def mkX (k : Nat) (ts : List Tok) : Inf := ⟨k, (hd ts).line, (hd ts).col, 0, (hd ts).text⟩
def mkY (k : Nat) (ts : List Tok) : Inf := ⟨k, (hd ts).line, (hd ts).col, 0, (hd ts.tail).text⟩
def Kd (t : Tok) : Option (Nat × List UInt8) :=
 if t.kind = 2 then some (19, t.text) else if t.kind ≠ 6 then none
 else if t.text = [105, 110, 116] then some (15, []) else if t.text = [98, 111, 111, 108] then some (16, []) else if t.text = [115, 116, 114] then some (17, []) else if t.text = [99, 111, 109, 112] then some (18, []) else none
def Cf : Pt := fun d ts => match Kd (hd ts) with
 | some q => .ok (.cons ⟨q.1, (hd ts).line, (hd ts).col, 0, q.2⟩ .nil .nil) ts.tail
 | none => Lp 5 ts
def Cl (p : Pt) : Pt := E9 (mkK 20) (Cr [91] [93] p)
def Tl : Nat → Pt
 | 0 => Kf
 | n + 1 => a24 [91] (Cl (Tl n)) Cf
def Cc (t : Tok) : Option (Nat × Int × List UInt8) :=
 if t.kind = 3 then some (21, t.num, []) else if t.kind = 4 then some (22, t.num, []) else if t.kind = 5 then some (23, 0, t.text) else if t.kind ≠ 6 then none
 else if t.text = [116, 114, 117, 101] then some (24, 1, []) else if t.text = [102, 97, 108, 115, 101] then some (24, 0, []) else if t.text = [110, 105, 108] then some (25, 0, []) else none
def K6 : Pt := fun d ts => match Cc (hd ts) with
 | some q => .ok (.cons ⟨q.1, (hd ts).line, (hd ts).col, q.2.1, q.2.2⟩ .nil .nil) ts.tail
 | none => Lp 5 ts
def Jm (E : Pt) (n : Nat) : Pt := fun d ts => if Dr [40] ts.tail = true then E9 (mkX 27) (G9 (Cr [40] [41] (Hr E n))) d ts else .ok (.cons (mkX 26 ts) .nil .nil) ts.tail
def Gw (E : Pt) (n : Nat) : Pt := E9 (mkK 32) (G9 fun d ts => if (hd ts).kind = 2 then Vx Cf (Cr [40] [41] Ii) d ts else Vx (Cl (Tl n)) (Cr [40] [41] E) d ts)
def Nx (E : Pt) (n : Nat) : Pt := fun d ts => if Dr [40] ts = true then Cr [40] [41] E d ts else if Dr [109, 97, 107, 101] ts = true then Gw E n d ts else if (hd ts).kind = 1 then Jm E n d ts else K6 d ts
def Iz (E : Pt) : Nat → Fo → Pt
 | 0, _ => Kf
 | n + 1, F => fun d ts => if Dr [91] ts = true then (Cr [91] [93] E d ts).bind fun G r => Iz E n (.cons (mkK 28 ts) (F.app G) .nil) d r
  else if Dr [46] ts = true then (Ln 1 d ts.tail).bind fun _ r => Iz E n (.cons (mkY 29 ts) F .nil) d r else .ok F ts
def Uy (E : Pt) (n : Nat) : Pt := fun d ts => (Nx E n d ts).bind fun F r => Iz E n F d r
def Gl (U p : Pt) : Pt := fun d ts => if Dr [45] ts = true then E9 (mkN 30 12) (Dn U) d ts else if Dr [33] ts = true then E9 (mkN 30 13) (Dn U) d ts else p d ts
def a90 (u : Pt) (n : Nat) : Pt := Eh u [[42], [47], [37]] n
def b43 (u : Pt) (n : Nat) : Pt := Eh (a90 u n) [[43], [45]] n
def b19 (u : Pt) (n : Nat) : Pt := M5 (b43 u n) [[60], [60, 61], [62], [62, 61]]
def a5a (u : Pt) (n : Nat) : Pt := M5 (b19 u n) [[61, 61], [33, 61]]
def b49 (u : Pt) (n : Nat) : Pt := Eh (a5a u n) [[38, 38]] n
def orP (u : Pt) (n : Nat) : Pt := Eh (b49 u n) [[124, 124]] n
def eu : Nat → Pt × Pt
 | 0 => (Kf, Kf)
 | n + 1 => (orP (Gl (eu n).2 (Uy (eu n).1 (n + 1))) (n + 1), Gl (eu n).2 (Uy (eu n).1 (n + 1)))
def I7 (n : Nat) : Pt := (eu n).1
def unP (n : Nat) : Pt := (eu n).2
def a4t (p : Pt) (ts : List Tok) : Out := (p 0 ts).bind fun F r => if (hd r).kind = 8 then .ok F r else Lp 5 r
end
end Go.Proofs.YtoaplbljflhheaaGreat
namespace Go.Proofs.YtoaplbljflhheaaGreat
section
def R4 (ts : List Tok) : Prop := ∃ a e, ts = a ++ [e] ∧ e.kind = 8
theorem R4.ne {ts : List Tok} (h : R4 ts) : ∃ t l, ts = t :: l := by
 obtain ⟨a, e, rfl, _⟩ := h
 cases a with
 | nil => exact ⟨e, [], rfl⟩
 | cons t l => exact ⟨t, l ++ [e], rfl⟩
theorem R4.tl {t : Tok} {l : List Tok} (h : R4 (t :: l)) (hk : t.kind ≠ 8) : R4 l := by
 obtain ⟨a, e, ha, he⟩ := h
 cases a with
 | nil => simp at ha; rw [ha.1] at hk; exact absurd he hk
 | cons u m => simp at ha; exact ⟨m, e, ha.2, he⟩
theorem Cw {o : Out} {f : Fo → List Tok → Out} {G : Fo} {r : List Tok} (h : o.bind f = .ok G r) : ∃ F r1, o = .ok F r1 ∧ f F r1 = .ok G r := by
 cases o with
 | ok F r1 => exact ⟨F, r1, rfl, h⟩
 | bad c l k => cases h
theorem C6 {x : List UInt8} {ts : List Tok} (h : Dr x ts = true) : ∃ t l, ts = t :: l ∧ (t.kind = 6 ∨ t.kind = 7) ∧ t.text = x := by
 cases ts with
 | nil => simp [Dr, a1s, hd, b3n] at h
 | cons t l => simp [Dr, a1s, hd] at h; exact ⟨t, l, rfl, h⟩
theorem Ld {S : List (List UInt8)} {ts : List Tok} (h : V7 S ts = true) : ∃ t l, ts = t :: l ∧ (t.kind = 6 ∨ t.kind = 7) := by
 obtain ⟨x, _, hx⟩ := List.any_eq_true.1 h
 obtain ⟨t, l, h1, h2, _⟩ := C6 hx
 exact ⟨t, l, h1, h2⟩
theorem Ze {k : Nat} {ts : List Tok} (h : (hd ts).kind = k) (hk : k ≠ 0) : ∃ t l, ts = t :: l ∧ t.kind = k := by
 cases ts with
 | nil => simp [hd, b3n] at h; omega
 | cons t l => exact ⟨t, l, rfl, h⟩
def Lft (n : Nat) (ts : List Tok) (r : List Tok) : Prop := n + r.length ≤ ts.length ∧ (R4 ts → R4 r) ∧ ∀ t ∈ r, t ∈ ts
theorem Lft.refl (ts : List Tok) : Lft 0 ts ts := ⟨by omega, id, fun _ h => h⟩
theorem Lft.trans {m n : Nat} {a b c : List Tok} (h : Lft m a b) (k : Lft n b c) : Lft (m + n) a c := ⟨by have := h.1; have := k.1; omega, fun e => k.2.1 (h.2.1 e), fun t ht => h.2.2 t (k.2.2 t ht)⟩
theorem Lft.mono {m n : Nat} {a b : List Tok} (h : Lft m a b) (hn : n ≤ m) : Lft n a b := ⟨by have := h.1; omega, h.2⟩
theorem Lft.tail {t : Tok} {l : List Tok} (h : t.kind ≠ 8) : Lft 1 (t :: l) l := ⟨by simp; omega, fun e => e.tl h, fun u hu => by simp [hu]⟩
theorem Fv {x : List UInt8} {ts : List Tok} (h : Dr x ts = true) : Lft 1 ts ts.tail := by
 obtain ⟨t, l, rfl, hk, _⟩ := C6 h
 exact Lft.tail (by omega)
theorem Y8 {S : List (List UInt8)} {ts : List Tok} (h : V7 S ts = true) : Lft 1 ts ts.tail := by
 obtain ⟨t, l, rfl, hk⟩ := Ld h
 exact Lft.tail (by omega)
theorem Ij {k : Nat} {ts : List Tok} (h : (hd ts).kind = k) (h0 : k ≠ 0) (h8 : k ≠ 8) : Lft 1 ts ts.tail := by
 obtain ⟨t, l, rfl, hk⟩ := Ze h h0
 exact Lft.tail (by omega)
def GA (s : Nat) (p : Pt) (d : Nat) (ts : List Tok) : Prop := ∀ F r, p d ts = .ok F r → Lft (F.cnt + s) ts r
def Gd (s : Nat) (p : Pt) : Prop := ∀ d ts, GA s p d ts
theorem Gd.mono {s s' : Nat} {p : Pt} (h : Gd s p) (hs : s' ≤ s) : Gd s' p := fun d ts F r e => (h d ts F r e).mono (by omega)
theorem Jz (s : Nat) : Gd s Kf := fun d ts F r e => by cases e
theorem Fi : Gd 0 Ii := fun d ts F r e => by cases e; exact Lft.refl _
theorem a7m (x : List UInt8) : Gd 1 (take x) := fun d ts F r e => by
 unfold take M4 at e
 split at e
 ·rename_i h; cases e; exact Fv h
 ·cases e
theorem Zq (k : Nat) (h0 : k ≠ 0) (h8 : k ≠ 8) : Gd 1 (Ln k) := fun d ts F r e => by
 unfold Ln M4 at e
 split at e
 ·rename_i h; cases e; exact Ij (of_decide_eq_true h) h0 h8
 ·cases e
theorem a49 {s s' : Nat} {a b : Pt} {d : Nat} {ts : List Tok} (ha : GA s a d ts) (hb : Gd s' b) : GA (s + s') (Vx a b) d ts := fun F r e => by
 obtain ⟨F1, r1, e1, e2⟩ := Cw e
 obtain ⟨F2, r2, e3, e4⟩ := Cw e2
 cases e4
 rw [Df]
 exact ((ha _ _ e1).trans (hb _ _ _ _ e3)).mono (by omega)
theorem a45 {s s' : Nat} {a b : Pt} (ha : Gd s a) (hb : Gd s' b) : Gd (s + s') (Vx a b) := fun d ts => a49 (ha d ts) hb
theorem a48 {s : Nat} {x : List UInt8} {a b : Pt} (ha : ∀ d ts, Dr x ts = true → GA s a d ts) (hb : Gd s b) : Gd s (a24 x a b) := fun d ts F r e => by
 unfold a24 at e
 split at e
 ·rename_i h; exact ha d ts h F r e
 ·exact hb d ts F r e
theorem a3c {s : Nat} {x : List UInt8} {p : Pt} {d : Nat} {ts : List Tok} (h : Dr x ts = true) (hp : Gd s p) : GA (s + 1) (G9 p) d ts := fun F r e => ((Fv h).trans (hp _ _ _ _ e)).mono (by omega)
theorem Nl {s : Nat} {mk : List Tok → Inf} {p : Pt} {d : Nat} {ts : List Tok} (h : GA (s + 1) p d ts) : GA s (E9 mk p) d ts := fun F r e => by
 obtain ⟨F1, r1, e1, e2⟩ := Cw e
 cases e2
 exact (h _ _ e1).mono (by simp [Fo.cnt]; omega)
theorem G1 {s : Nat} {x : List UInt8} {p : Pt} {d : Nat} {ts : List Tok} (h : Dr x ts = true) (hp : Gd s p) : GA (s + 1) (Dn p) d ts := fun F r e => by
 unfold Dn at e
 split at e
 ·cases e
 ·exact ((Fv h).trans (hp _ _ _ _ e)).mono (by omega)
theorem Cm {s : Nat} {o c : List UInt8} {p : Pt} (hp : Gd s p) : Gd (s + 2) (Cr o c p) := fun d ts F r e => by
 unfold Cr at e
 split at e
 ·rename_i h
  have := a49 (G1 (d := d) h hp) (a7m c) F r e
  exact this.mono (by omega)
 ·cases e
theorem a3a {p : Pt} (hp : Gd 0 p) (n : Nat) : Gd 0 (Kv p n) := by
 induction n with
 | zero => exact Jz 0
 | succ n ih =>
  intro d ts F r e
  unfold Kv at e
  obtain ⟨F1, r1, e1, e2⟩ := Cw e
  split at e2
  ·rename_i h
   obtain ⟨F2, r2, e3, e4⟩ := Cw e2
   cases e4
   rw [Df]
   exact (((hp _ _ _ _ e1).trans (Fv h)).trans (ih _ _ _ _ e3)).mono (by omega)
  ·cases e2; exact hp _ _ _ _ e1
theorem Im {p : Pt} (hp : Gd 0 p) (n : Nat) : Gd 0 (Hr p n) := a48 (fun d ts _ => Fi d ts) (a3a hp n)
theorem Mm {p : Pt} (hp : Gd 0 p) {S : List (List UInt8)} {F G : Fo} {d : Nat} {ts r : List Tok} (hs : V7 S ts = true) (e : Fa p F d ts = .ok G r) : ∃ n, Lft n ts r ∧ G.cnt = F.cnt + n := by
 obtain ⟨F1, r1, e1, e2⟩ := Cw e
 cases e2
 exact ⟨F1.cnt + 1, ((Y8 hs).trans (hp _ _ _ _ e1)).mono (by omega), by simp [Fo.cnt, Df]; omega⟩
theorem Vr {p : Pt} (hp : Gd 0 p) {S : List (List UInt8)} (n : Nat) : ∀ {F G : Fo} {d : Nat} {ts r : List Tok}, Hn p S n F d ts = .ok G r → ∃ n, Lft n ts r ∧ G.cnt = F.cnt + n := by
 induction n with
 | zero => intro F G d ts r e; cases e
 | succ n ih =>
  intro F G d ts r e
  unfold Hn at e
  split at e
  ·rename_i h
   obtain ⟨F1, r1, e1, e2⟩ := Cw e
   obtain ⟨n1, l1, c1⟩ := Mm hp h e1
   obtain ⟨n2, l2, c2⟩ := ih e2
   exact ⟨n1 + n2, l1.trans l2, by omega⟩
  ·cases e; exact ⟨0, Lft.refl _, rfl⟩
theorem F4 {p : Pt} (hp : Gd 0 p) (S : List (List UInt8)) (n : Nat) : Gd 0 (Eh p S n) := fun d ts F r e => by
 obtain ⟨F1, r1, e1, e2⟩ := Cw e
 obtain ⟨m, l, c⟩ := Vr hp n e2
 exact ((hp _ _ _ _ e1).trans l).mono (by omega)
theorem Nk {p : Pt} (hp : Gd 0 p) (S : List (List UInt8)) : Gd 0 (M5 p S) := fun d ts F r e => by
 obtain ⟨F1, r1, e1, e2⟩ := Cw e
 split at e2
 ·rename_i h
  obtain ⟨m, l, c⟩ := Mm hp h e2
  exact ((hp _ _ _ _ e1).trans l).mono (by omega)
 ·cases e2; exact hp _ _ _ _ e1
theorem L0 {t : Tok} {q} (h : Kd t = some q) : t.kind = 2 ∨ t.kind = 6 := by
 unfold Kd at h
 split at h
 ·left; assumption
 ·split at h
  ·cases h
  ·right; simp_all
theorem Ew : Gd 0 Cf := fun d ts F r e => by
 unfold Cf at e
 split at e
 ·rename_i q h
  cases e
  rcases L0 h with k | k
  ·exact (Ij k (by decide) (by decide)).mono (by simp [Fo.cnt])
  ·exact (Ij k (by decide) (by decide)).mono (by simp [Fo.cnt])
 ·cases e
theorem F3 {p : Pt} (hp : Gd 0 p) : Gd 1 (Cl p) := fun d ts => Nl (Cm hp d ts)
theorem K4 (n : Nat) : Gd 0 (Tl n) := by
 induction n with
 | zero => exact Jz 0
 | succ n ih => exact a48 (fun d ts _ => (F3 ih).mono (by omega) d ts) Ew
theorem K7 {t : Tok} {q} (h : Cc t = some q) : t.kind = 3 ∨ t.kind = 4 ∨ t.kind = 5 ∨ t.kind = 6 := by
 unfold Cc at h
 split at h
 ·left; assumption
 ·split at h
  ·right; left; assumption
  ·split at h
   ·right; right; left; assumption
   ·split at h
    ·cases h
    ·right; right; right; simp_all
theorem a3b : Gd 0 K6 := fun d ts F r e => by
 unfold K6 at e
 split at e
 ·rename_i q h
  cases e
  rcases K7 h with k | k | k | k
  all_goals exact (Ij k (by decide) (by decide)).mono (by simp [Fo.cnt])
 ·cases e
section
variable {E : Pt} (hE : Gd 0 E) (n : Nat)
include hE
theorem a7o {d : Nat} {ts : List Tok} (h : (hd ts).kind = 1) : GA 0 (Jm E n) d ts := fun F r e => by
 have ht := Ij h (by decide) (by decide)
 unfold Jm at e
 split at e
 ·obtain ⟨F1, r1, e1, e2⟩ := Cw e
  cases e2
  exact (ht.trans (Cm (Im hE n) _ _ _ _ e1)).mono (by simp [Fo.cnt]; omega)
 ·cases e; exact ht.mono (by simp [Fo.cnt])
theorem a7p {d : Nat} {ts : List Tok} (h : Dr [109, 97, 107, 101] ts = true) : GA 0 (Gw E n) d ts := by
 refine Nl (a3c (s := 0) h fun d ts F r e => ?_)
 split at e
 ·exact (a45 Ew (Cm Fi) _ _ _ _ e).mono (by omega)
 ·exact (a45 (F3 (K4 n)) (Cm hE) _ _ _ _ e).mono (by omega)
theorem Zs : Gd 0 (Nx E n) := fun d ts F r e => by
 unfold Nx at e
 split at e
 ·exact (Cm hE _ _ _ _ e).mono (by omega)
 ·split at e
  ·rename_i h; exact a7p hE n h F r e
  ·split at e
   ·rename_i h; exact a7o hE n h F r e
   ·exact a3b _ _ _ _ e
theorem Yi (m : Nat) : ∀ {F G : Fo} {d : Nat} {ts r : List Tok}, Iz E m F d ts = .ok G r → ∃ k, Lft k ts r ∧ G.cnt = F.cnt + k := by
 induction m with
 | zero => intro F G d ts r e; cases e
 | succ m ih =>
  intro F G d ts r e
  unfold Iz at e
  split at e
  ·obtain ⟨F1, r1, e1, e2⟩ := Cw e
   obtain ⟨k, l, c⟩ := ih e2
   exact ⟨F1.cnt + 1 + k, (((Cm hE _ _ _ _ e1).mono (n := F1.cnt + 1) (by omega)).trans l), by simp [Fo.cnt, Df] at c; omega⟩
  ·split at e
   ·rename_i h
    obtain ⟨F1, r1, e1, e2⟩ := Cw e
    obtain ⟨k, l, c⟩ := ih e2
    exact ⟨1 + k, (((Fv h).trans (Zq 1 (by decide) (by decide) _ _ _ _ e1)).mono (n := 1) (by omega)).trans l, by simp [Fo.cnt] at c; omega⟩
   ·cases e; exact ⟨0, Lft.refl _, rfl⟩
theorem a7n : Gd 0 (Uy E n) := fun d ts F r e => by
 obtain ⟨F1, r1, e1, e2⟩ := Cw e
 obtain ⟨m, l, c⟩ := Yi hE n e2
 exact ((Zs hE n _ _ _ _ e1).trans l).mono (by omega)
end
theorem a29 {U p : Pt} (hU : Gd 0 U) (hp : Gd 0 p) : Gd 0 (Gl U p) := fun d ts F r e => by
 unfold Gl at e
 split at e
 ·rename_i h; exact Nl (G1 h hU) F r e
 ·split at e
  ·rename_i h; exact Nl (G1 h hU) F r e
  ·exact hp _ _ _ _ e
theorem b4m {u : Pt} (h : Gd 0 u) (n : Nat) : Gd 0 (orP u n) := F4 (F4 (Nk (Nk (F4 (F4 h _ n) _ n) _) _) _ n) _ n
theorem b2e (n : Nat) : Gd 0 (I7 n) ∧ Gd 0 (unP n) := by
 induction n with
 | zero => exact ⟨Jz 0, Jz 0⟩
 | succ n ih =>
  have h := a29 ih.2 (a7n ih.1 (n + 1))
  exact ⟨b4m h (n + 1), h⟩
theorem Zr (n : Nat) : Gd 0 (I7 n) := (b2e n).1
theorem b2d (n : Nat) : Gd 0 (unP n) := (b2e n).2
end
end Go.Proofs.YtoaplbljflhheaaGreat
namespace Go.Proofs.YtoaplbljflhheaaGreat
section
end
end Go.Proofs.YtoaplbljflhheaaGreat
namespace Go.Proofs.YtoaplbljflhheaaGreat
section
open Go.RowKit
theorem Wx (c : UInt8) (w : World) : Calls Tryz.prog 127 #[byt c] w fun e w' => e = .returned (.bool (sml c)) ∧ w = w' := by
 by_cases h95 : c = 95
 ·subst h95
  go_enter Tryz.func127, Tryz.ntmps127
  go_wp2
  go_ret
  exact ⟨rfl, rfl⟩
 have e95 : ((c.toNat : Int) == 95) = false := Ac (n := 95) (by decide) h95
 by_cases h1 : (97 : Int) ≤ c.toNat
 ·by_cases h2 : (c.toNat : Int) ≤ 122
  ·have H := zz (show sml c = true by simp [sml]; omega)
   clear h95
   go_enter Tryz.func127, Tryz.ntmps127
   go_wp2
   go_ret
   rw [H.out]
   exact ⟨rfl, rfl⟩
  ·have H := zz (show sml c = false by simp [sml, h95]; omega)
   clear h95
   go_enter Tryz.func127, Tryz.ntmps127
   go_wp2
   go_ret
   rw [H.out]
   exact ⟨rfl, rfl⟩
 ·have H := zz (show sml c = false by simp [sml, h95]; omega)
  clear h95
  go_enter Tryz.func127, Tryz.ntmps127
  go_wp2
  go_ret
  rw [H.out]
  exact ⟨rfl, rfl⟩
theorem Zn (c : UInt8) (w : World) : Calls Tryz.prog 128 #[byt c] w fun e w' => e = .returned (.bool (grt c)) ∧ w = w' := by
 by_cases h1 : (65 : Int) ≤ c.toNat
 ·by_cases h2 : (c.toNat : Int) ≤ 90
  ·have H := zz (show grt c = true by simp [grt]; omega)
   go_enter Tryz.func128, Tryz.ntmps128
   go_wp2
   go_ret
   rw [H.out]
   exact ⟨rfl, rfl⟩
  ·have H := zz (show grt c = false by simp [grt]; omega)
   go_enter Tryz.func128, Tryz.ntmps128
   go_wp2
   go_ret
   rw [H.out]
   exact ⟨rfl, rfl⟩
 ·have H := zz (show grt c = false by simp [grt]; omega)
  go_enter Tryz.func128, Tryz.ntmps128
  go_wp2
  go_ret
  rw [H.out]
  exact ⟨rfl, rfl⟩
theorem J2 (c : UInt8) (w : World) : Calls Tryz.prog 132 #[byt c] w fun e w' => e = .returned (.bool (dgt c)) ∧ w = w' := by
 by_cases h1 : (48 : Int) ≤ c.toNat
 ·by_cases h2 : (c.toNat : Int) ≤ 57
  ·have H := zz (show dgt c = true by simp [dgt]; omega)
   go_enter Tryz.func132, Tryz.ntmps132
   go_wp2
   go_ret
   rw [H.out]
   exact ⟨rfl, rfl⟩
  ·have H := zz (show dgt c = false by simp [dgt]; omega)
   go_enter Tryz.func132, Tryz.ntmps132
   go_wp2
   go_ret
   rw [H.out]
   exact ⟨rfl, rfl⟩
 ·have H := zz (show dgt c = false by simp [dgt]; omega)
  go_enter Tryz.func132, Tryz.ntmps132
  go_wp2
  go_ret
  rw [H.out]
  exact ⟨rfl, rfl⟩
theorem Jr {c : UInt8} {b : Bool} (h : sml c = b) (w : World) : Calls Tryz.prog 127 #[byt c] w fun e w' => e = .returned (.bool b) ∧ w = w' := h ▸ Wx c w
theorem Hi {c : UInt8} {b : Bool} (h : grt c = b) (w : World) : Calls Tryz.prog 128 #[byt c] w fun e w' => e = .returned (.bool b) ∧ w = w' := h ▸ Zn c w
theorem S7 {c : UInt8} {b : Bool} (h : dgt c = b) (w : World) : Calls Tryz.prog 132 #[byt c] w fun e w' => e = .returned (.bool b) ∧ w = w' := h ▸ J2 c w
theorem Ss (c : UInt8) (w : World) : Calls Tryz.prog 129 #[byt c] w fun e w' => e = .returned (.bool (nam c)) ∧ w = w' := by
 cases h1 : sml c with
 | true =>
  have H1 := zz (fun w => Jr h1 w)
  have H := zz (show nam c = true by simp [nam, h1])
  clear h1
  go_enter Tryz.func129, Tryz.ntmps129
  go_wp2_with fail
  refine (H1.out _).mono ?_
  rintro e w' ⟨rfl, rfl⟩
  go_wp2
  go_ret
  rw [H.out]
  exact ⟨rfl, rfl⟩
 | false =>
  have H1 := zz (fun w => Jr h1 w)
  cases h2 : grt c with
  | true =>
   have H2 := zz (fun w => Hi h2 w)
   have H := zz (show nam c = true by simp [nam, h2])
   clear h1 h2
   go_enter Tryz.func129, Tryz.ntmps129
   go_wp2_with fail
   refine (H1.out _).mono ?_
   rintro e w' ⟨rfl, rfl⟩
   go_wp2_with fail
   refine (H2.out _).mono ?_
   rintro e w' ⟨rfl, rfl⟩
   go_wp2
   go_ret
   rw [H.out]
   exact ⟨rfl, rfl⟩
  | false =>
   have H2 := zz (fun w => Hi h2 w)
   have H3 := zz (fun w => J2 c w)
   have H := zz (show nam c = dgt c by simp [nam, h1, h2])
   clear h1 h2
   go_enter Tryz.func129, Tryz.ntmps129
   go_wp2_with fail
   refine (H1.out _).mono ?_
   rintro e w' ⟨rfl, rfl⟩
   go_wp2_with fail
   refine (H2.out _).mono ?_
   rintro e w' ⟨rfl, rfl⟩
   go_wp2_with fail
   refine (H3.out _).mono ?_
   rintro e w' ⟨rfl, rfl⟩
   go_wp2
   go_ret
   rw [H.out]
   exact ⟨rfl, rfl⟩
theorem Y0 (c : UInt8) (w : World) : Calls Tryz.prog 95 #[byt c] w fun e w' => e = .returned (.bool (nlf c)) ∧ w = w' := by
 by_cases h : c = 10
 ·subst h
  go_enter Tryz.func95, Tryz.ntmps95
  go_wp2
  go_ret
  exact ⟨rfl, rfl⟩
 ·have e1 : ((c.toNat : Int) != 10) = true := b2x (n := 10) (by decide) h
  have H := zz (show nlf c = true by simp [nlf, h])
  clear h
  go_enter Tryz.func95, Tryz.ntmps95
  go_wp2
  go_ret
  rw [H.out]
  exact ⟨rfl, rfl⟩
theorem Yy (c : UInt8) (w : World) : Calls Tryz.prog 189 #[byt c] w fun e w' => e = .returned (.bool (nou c)) ∧ w = w' := by
 by_cases h : c = 48
 ·subst h
  go_enter Tryz.func189, Tryz.ntmps189
  go_wp2
  go_ret
  exact ⟨rfl, rfl⟩
 ·have e1 : ((c.toNat : Int) == 48) = false := Ac (n := 48) (by decide) h
  have H := zz (show nou c = false by simp [nou, h])
  clear h
  go_enter Tryz.func189, Tryz.ntmps189
  go_wp2
  go_ret
  rw [H.out]
  exact ⟨rfl, rfl⟩
def kdN (c : UInt8) : Nat := if sml c = true then 1 else if grt c = true then 2 else if dgt c = true then 3 else 0
theorem Kl {c : UInt8} {n : Nat} {a : Int} (h : kdN c = n) (h2 : a = n) : Ending.returned (.int .i64 a) = .returned (.int .i64 (kdN c : Nat)) := by rw [h, h2]
theorem b2a (c : UInt8) : (0 < kdN c) ↔ nam c = true := by
 unfold kdN nam
 cases sml c <;> cases grt c <;> cases dgt c <;> simp
end
end Go.Proofs.YtoaplbljflhheaaGreat
namespace Go.Proofs.YtoaplbljflhheaaGreat
section
open Go.RowKit
theorem D9 {p : UInt8 → Bool} {c : UInt8} {t : List UInt8} (h : p c = true) : Bz p (c :: t) = Bz p t + 1 := by rw [Bz, if_pos h]
theorem Fc {p : UInt8 → Bool} {c : UInt8} {t : List UInt8} (h : p c = false) : Bz p (c :: t) = 0 := by rw [Bz, if_neg (by simp [h])]
theorem a6r (s : ByteArray) (hs : s.size ≤ 1000000) (w : World) :
  Calls Tryz.prog 94 #[.string s, .func (.func 95) #[] #[]] w fun e w' => e = .returned (.int .i64 (Bz nlf s.data.toList : Nat)) ∧ w = w' := by
 obtain ⟨R, hR⟩ : ∃ R, Bz nlf s.data.toList = R := ⟨_, rfl⟩
 rw [hR]
 replace hR := zz hR
 go_enter Tryz.func94, Tryz.ntmps94
 go_wp2
 go_loop [5] (fun i => ∃ k : Nat, k ≤ s.size ∧ i = .int .i64 k ∧ k + Bz nlf (s.data.toList.drop k) = R) (fun i => s.size - (intOf i).toNat)
 case atStart => exact ⟨0, Nat.zero_le _, rfl, by rw [← hR.out]; simp⟩
 case round =>
  obtain ⟨k, hk, rfl, hk2⟩ := hrel
  by_cases hlt : k < s.size
  ·rw [Ar s k hlt] at hk2
   cases hp : nlf s[k] with
   | true =>
    have HP := zz (fun w => Y0 s[k] w)
    rw [hp] at HP
    rw [D9 hp] at hk2
    replace hk2 := zz hk2
    clear hp
    go_wp2_with fail
    refine (HP.out _).mono ?_
    rintro e w' ⟨rfl, rfl⟩
    go_wp2
    go_round
    case rel => exact ⟨k + 1, hlt, by go_num, by have := hk2.out; omega⟩
    case measure => simp [intOf]; omega
   | false =>
    have HP := zz (fun w => Y0 s[k] w)
    rw [hp] at HP
    rw [Fc hp] at hk2
    replace hk2 := zz hk2
    clear hp
    go_wp2_with fail
    refine (HP.out _).mono ?_
    rintro e w' ⟨rfl, rfl⟩
    go_wp2
    go_ret
    exact ⟨By (by have := hk2.out; omega), rfl⟩
  ·rw [Bu s k (by omega)] at hk2
   have hlt2 : ¬ (k : Int) < s.size := by omega
   replace hk2 := zz (show k = R from hk2)
   go_wp2
   go_ret
   exact ⟨By (by have := hk2.out; omega), rfl⟩
theorem Um (s : ByteArray) (hs : s.size ≤ 1000000) (R : Nat) (hR : Bz nlf s.data.toList = R) (w : World) :
  Calls Tryz.prog 94 #[.string s, .func (.func 95) #[] #[]] w fun e w' => e = .returned (.int .i64 (R : Nat)) ∧ w = w' := hR ▸ a6r s hs w
theorem a6s (s : ByteArray) (hs : s.size ≤ 1000000) (w : World) :
  Calls Tryz.prog 94 #[.string s, .func (.func 129) #[] #[]] w fun e w' => e = .returned (.int .i64 (Bz nam s.data.toList : Nat)) ∧ w = w' := by
 obtain ⟨R, hR⟩ : ∃ R, Bz nam s.data.toList = R := ⟨_, rfl⟩
 rw [hR]
 replace hR := zz hR
 go_enter Tryz.func94, Tryz.ntmps94
 go_wp2
 go_loop [5] (fun i => ∃ k : Nat, k ≤ s.size ∧ i = .int .i64 k ∧ k + Bz nam (s.data.toList.drop k) = R) (fun i => s.size - (intOf i).toNat)
 case atStart => exact ⟨0, Nat.zero_le _, rfl, by rw [← hR.out]; simp⟩
 case round =>
  obtain ⟨k, hk, rfl, hk2⟩ := hrel
  by_cases hlt : k < s.size
  ·rw [Ar s k hlt] at hk2
   cases hp : nam s[k] with
   | true =>
    have HP := zz (fun w => Ss s[k] w)
    rw [hp] at HP
    rw [D9 hp] at hk2
    replace hk2 := zz hk2
    clear hp
    go_wp2_with fail
    refine (HP.out _).mono ?_
    rintro e w' ⟨rfl, rfl⟩
    go_wp2
    go_round
    case rel => exact ⟨k + 1, hlt, by go_num, by have := hk2.out; omega⟩
    case measure => simp [intOf]; omega
   | false =>
    have HP := zz (fun w => Ss s[k] w)
    rw [hp] at HP
    rw [Fc hp] at hk2
    replace hk2 := zz hk2
    clear hp
    go_wp2_with fail
    refine (HP.out _).mono ?_
    rintro e w' ⟨rfl, rfl⟩
    go_wp2
    go_ret
    exact ⟨By (by have := hk2.out; omega), rfl⟩
  ·rw [Bu s k (by omega)] at hk2
   have hlt2 : ¬ (k : Int) < s.size := by omega
   replace hk2 := zz (show k = R from hk2)
   go_wp2
   go_ret
   exact ⟨By (by have := hk2.out; omega), rfl⟩
theorem L5 (s : ByteArray) (hs : s.size ≤ 1000000) (R : Nat) (hR : Bz nam s.data.toList = R) (w : World) :
  Calls Tryz.prog 94 #[.string s, .func (.func 129) #[] #[]] w fun e w' => e = .returned (.int .i64 (R : Nat)) ∧ w = w' := hR ▸ a6s s hs w
theorem a6t (s : ByteArray) (hs : s.size ≤ 1000000) (w : World) :
  Calls Tryz.prog 94 #[.string s, .func (.func 132) #[] #[]] w fun e w' => e = .returned (.int .i64 (Bz dgt s.data.toList : Nat)) ∧ w = w' := by
 obtain ⟨R, hR⟩ : ∃ R, Bz dgt s.data.toList = R := ⟨_, rfl⟩
 rw [hR]
 replace hR := zz hR
 go_enter Tryz.func94, Tryz.ntmps94
 go_wp2
 go_loop [5] (fun i => ∃ k : Nat, k ≤ s.size ∧ i = .int .i64 k ∧ k + Bz dgt (s.data.toList.drop k) = R) (fun i => s.size - (intOf i).toNat)
 case atStart => exact ⟨0, Nat.zero_le _, rfl, by rw [← hR.out]; simp⟩
 case round =>
  obtain ⟨k, hk, rfl, hk2⟩ := hrel
  by_cases hlt : k < s.size
  ·rw [Ar s k hlt] at hk2
   cases hp : dgt s[k] with
   | true =>
    have HP := zz (fun w => J2 s[k] w)
    rw [hp] at HP
    rw [D9 hp] at hk2
    replace hk2 := zz hk2
    clear hp
    go_wp2_with fail
    refine (HP.out _).mono ?_
    rintro e w' ⟨rfl, rfl⟩
    go_wp2
    go_round
    case rel => exact ⟨k + 1, hlt, by go_num, by have := hk2.out; omega⟩
    case measure => simp [intOf]; omega
   | false =>
    have HP := zz (fun w => J2 s[k] w)
    rw [hp] at HP
    rw [Fc hp] at hk2
    replace hk2 := zz hk2
    clear hp
    go_wp2_with fail
    refine (HP.out _).mono ?_
    rintro e w' ⟨rfl, rfl⟩
    go_wp2
    go_ret
    exact ⟨By (by have := hk2.out; omega), rfl⟩
  ·rw [Bu s k (by omega)] at hk2
   have hlt2 : ¬ (k : Int) < s.size := by omega
   replace hk2 := zz (show k = R from hk2)
   go_wp2
   go_ret
   exact ⟨By (by have := hk2.out; omega), rfl⟩
theorem Un (s : ByteArray) (hs : s.size ≤ 1000000) (R : Nat) (hR : Bz dgt s.data.toList = R) (w : World) :
  Calls Tryz.prog 94 #[.string s, .func (.func 132) #[] #[]] w fun e w' => e = .returned (.int .i64 (R : Nat)) ∧ w = w' := hR ▸ a6t s hs w
theorem a6q (s : ByteArray) (hs : s.size ≤ 1000000) (w : World) :
  Calls Tryz.prog 94 #[.string s, .func (.func 189) #[] #[]] w fun e w' => e = .returned (.int .i64 (Bz nou s.data.toList : Nat)) ∧ w = w' := by
 obtain ⟨R, hR⟩ : ∃ R, Bz nou s.data.toList = R := ⟨_, rfl⟩
 rw [hR]
 replace hR := zz hR
 go_enter Tryz.func94, Tryz.ntmps94
 go_wp2
 go_loop [5] (fun i => ∃ k : Nat, k ≤ s.size ∧ i = .int .i64 k ∧ k + Bz nou (s.data.toList.drop k) = R) (fun i => s.size - (intOf i).toNat)
 case atStart => exact ⟨0, Nat.zero_le _, rfl, by rw [← hR.out]; simp⟩
 case round =>
  obtain ⟨k, hk, rfl, hk2⟩ := hrel
  by_cases hlt : k < s.size
  ·rw [Ar s k hlt] at hk2
   cases hp : nou s[k] with
   | true =>
    have HP := zz (fun w => Yy s[k] w)
    rw [hp] at HP
    rw [D9 hp] at hk2
    replace hk2 := zz hk2
    clear hp
    go_wp2_with fail
    refine (HP.out _).mono ?_
    rintro e w' ⟨rfl, rfl⟩
    go_wp2
    go_round
    case rel => exact ⟨k + 1, hlt, by go_num, by have := hk2.out; omega⟩
    case measure => simp [intOf]; omega
   | false =>
    have HP := zz (fun w => Yy s[k] w)
    rw [hp] at HP
    rw [Fc hp] at hk2
    replace hk2 := zz hk2
    clear hp
    go_wp2_with fail
    refine (HP.out _).mono ?_
    rintro e w' ⟨rfl, rfl⟩
    go_wp2
    go_ret
    exact ⟨By (by have := hk2.out; omega), rfl⟩
  ·rw [Bu s k (by omega)] at hk2
   have hlt2 : ¬ (k : Int) < s.size := by omega
   replace hk2 := zz (show k = R from hk2)
   go_wp2
   go_ret
   exact ⟨By (by have := hk2.out; omega), rfl⟩
theorem Ul (s : ByteArray) (hs : s.size ≤ 1000000) (R : Nat) (hR : Bz nou s.data.toList = R) (w : World) :
  Calls Tryz.prog 94 #[.string s, .func (.func 189) #[] #[]] w fun e w' => e = .returned (.int .i64 (R : Nat)) ∧ w = w' := hR ▸ a6q s hs w
end
end Go.Proofs.YtoaplbljflhheaaGreat
namespace Go.Proofs.YtoaplbljflhheaaGreat
section
open Go.RowKit
theorem Af {s : ByteArray} {l : List UInt8} (h : s.data.toList ≠ l) : (s.toList == l) = false := by rw [ByteArray.toList_eq]; simpa using h
theorem Dz {s : ByteArray} {l : List UInt8} (h : s.data.toList = l) : s = bs l := by rw [← h, Ei]
theorem a9q (w : World) : Calls Tryz.prog 107 #[.string { data := #[114, 101, 99] }] w fun e w' => e = .returned (.bool true) ∧ w = w' := by
 go_enter Tryz.func107, Tryz.ntmps107
 go_wp2
 go_ret
 exact ⟨rfl, rfl⟩
theorem a9p (w : World) : Calls Tryz.prog 107 #[.string { data := #[102, 110] }] w fun e w' => e = .returned (.bool true) ∧ w = w' := by
 go_enter Tryz.func107, Tryz.ntmps107
 go_wp2
 go_ret
 exact ⟨rfl, rfl⟩
theorem a9o (w : World) : Calls Tryz.prog 107 #[.string { data := #[118, 97, 114] }] w fun e w' => e = .returned (.bool true) ∧ w = w' := by
 go_enter Tryz.func107, Tryz.ntmps107
 go_wp2
 go_ret
 exact ⟨rfl, rfl⟩
theorem a9n (w : World) : Calls Tryz.prog 107 #[.string { data := #[105, 102] }] w fun e w' => e = .returned (.bool true) ∧ w = w' := by
 go_enter Tryz.func107, Tryz.ntmps107
 go_wp2
 go_ret
 exact ⟨rfl, rfl⟩
theorem a9m (w : World) : Calls Tryz.prog 107 #[.string { data := #[101, 108, 115, 101] }] w fun e w' => e = .returned (.bool true) ∧ w = w' := by
 go_enter Tryz.func107, Tryz.ntmps107
 go_wp2
 go_ret
 exact ⟨rfl, rfl⟩
theorem a9l (w : World) : Calls Tryz.prog 107 #[.string { data := #[119, 104, 105, 108, 101] }] w fun e w' => e = .returned (.bool true) ∧ w = w' := by
 go_enter Tryz.func107, Tryz.ntmps107
 go_wp2
 go_ret
 exact ⟨rfl, rfl⟩
theorem a9k (w : World) : Calls Tryz.prog 107 #[.string { data := #[114, 101, 116, 117, 114, 110] }] w fun e w' => e = .returned (.bool true) ∧ w = w' := by
 go_enter Tryz.func107, Tryz.ntmps107
 go_wp2
 go_ret
 exact ⟨rfl, rfl⟩
theorem a9j (w : World) : Calls Tryz.prog 107 #[.string { data := #[112, 114, 105, 110, 116] }] w fun e w' => e = .returned (.bool true) ∧ w = w' := by
 go_enter Tryz.func107, Tryz.ntmps107
 go_wp2
 go_ret
 exact ⟨rfl, rfl⟩
theorem a9i (w : World) : Calls Tryz.prog 107 #[.string { data := #[116, 114, 117, 101] }] w fun e w' => e = .returned (.bool true) ∧ w = w' := by
 go_enter Tryz.func107, Tryz.ntmps107
 go_wp2
 go_ret
 exact ⟨rfl, rfl⟩
theorem a9h (w : World) : Calls Tryz.prog 107 #[.string { data := #[102, 97, 108, 115, 101] }] w fun e w' => e = .returned (.bool true) ∧ w = w' := by
 go_enter Tryz.func107, Tryz.ntmps107
 go_wp2
 go_ret
 exact ⟨rfl, rfl⟩
theorem a5m (w : World) : Calls Tryz.prog 107 #[.string { data := #[110, 105, 108] }] w fun e w' => e = .returned (.bool true) ∧ w = w' := by
 go_enter Tryz.func107, Tryz.ntmps107
 go_wp2
 go_ret
 exact ⟨rfl, rfl⟩
theorem a5l (w : World) : Calls Tryz.prog 107 #[.string { data := #[109, 97, 107, 101] }] w fun e w' => e = .returned (.bool true) ∧ w = w' := by
 go_enter Tryz.func107, Tryz.ntmps107
 go_wp2
 go_ret
 exact ⟨rfl, rfl⟩
theorem a5k (w : World) : Calls Tryz.prog 107 #[.string { data := #[105, 110, 116] }] w fun e w' => e = .returned (.bool true) ∧ w = w' := by
 go_enter Tryz.func107, Tryz.ntmps107
 go_wp2
 go_ret
 exact ⟨rfl, rfl⟩
theorem a5j (w : World) : Calls Tryz.prog 107 #[.string { data := #[98, 111, 111, 108] }] w fun e w' => e = .returned (.bool true) ∧ w = w' := by
 go_enter Tryz.func107, Tryz.ntmps107
 go_wp2
 go_ret
 exact ⟨rfl, rfl⟩
theorem a5i (w : World) : Calls Tryz.prog 107 #[.string { data := #[115, 116, 114] }] w fun e w' => e = .returned (.bool true) ∧ w = w' := by
 go_enter Tryz.func107, Tryz.ntmps107
 go_wp2
 go_ret
 exact ⟨rfl, rfl⟩
theorem a5h (w : World) : Calls Tryz.prog 107 #[.string { data := #[99, 111, 109, 112] }] w fun e w' => e = .returned (.bool true) ∧ w = w' := by
 go_enter Tryz.func107, Tryz.ntmps107
 go_wp2
 go_ret
 exact ⟨rfl, rfl⟩
theorem We (s : ByteArray) (w : World) (e0 : (s.toList == [114, 101, 99]) = false) (e1 : (s.toList == [102, 110]) = false) (e2 : (s.toList == [118, 97, 114]) = false) (e3 : (s.toList == [105, 102]) = false) (e4 : (s.toList == [101, 108, 115, 101]) = false) (e5 : (s.toList == [119, 104, 105, 108, 101]) = false) (e6 : (s.toList == [114, 101, 116, 117, 114, 110]) = false) (e7 : (s.toList == [112, 114, 105, 110, 116]) = false) (e8 : (s.toList == [116, 114, 117, 101]) = false) (e9 : (s.toList == [102, 97, 108, 115, 101]) = false) (e10 : (s.toList == [110, 105, 108]) = false) (e11 : (s.toList == [109, 97, 107, 101]) = false) (e12 : (s.toList == [105, 110, 116]) = false) (e13 : (s.toList == [98, 111, 111, 108]) = false) (e14 : (s.toList == [115, 116, 114]) = false) (e15 : (s.toList == [99, 111, 109, 112]) = false) : Calls Tryz.prog 107 #[.string s] w fun e w' => e = .returned (.bool false) ∧ w = w' := by
 go_enter Tryz.func107, Tryz.ntmps107
 go_wp2
 go_ret
 exact ⟨rfl, rfl⟩
theorem a01 (s : ByteArray) (w : World) : Calls Tryz.prog 107 #[.string s] w fun e w' => e = .returned (.bool (C0 s.data.toList)) ∧ w = w' := by
 by_cases h0 : s.data.toList = [114, 101, 99]
 ·rw [Dz h0]; exact a9q w
 by_cases h1 : s.data.toList = [102, 110]
 ·rw [Dz h1]; exact a9p w
 by_cases h2 : s.data.toList = [118, 97, 114]
 ·rw [Dz h2]; exact a9o w
 by_cases h3 : s.data.toList = [105, 102]
 ·rw [Dz h3]; exact a9n w
 by_cases h4 : s.data.toList = [101, 108, 115, 101]
 ·rw [Dz h4]; exact a9m w
 by_cases h5 : s.data.toList = [119, 104, 105, 108, 101]
 ·rw [Dz h5]; exact a9l w
 by_cases h6 : s.data.toList = [114, 101, 116, 117, 114, 110]
 ·rw [Dz h6]; exact a9k w
 by_cases h7 : s.data.toList = [112, 114, 105, 110, 116]
 ·rw [Dz h7]; exact a9j w
 by_cases h8 : s.data.toList = [116, 114, 117, 101]
 ·rw [Dz h8]; exact a9i w
 by_cases h9 : s.data.toList = [102, 97, 108, 115, 101]
 ·rw [Dz h9]; exact a9h w
 by_cases h10 : s.data.toList = [110, 105, 108]
 ·rw [Dz h10]; exact a5m w
 by_cases h11 : s.data.toList = [109, 97, 107, 101]
 ·rw [Dz h11]; exact a5l w
 by_cases h12 : s.data.toList = [105, 110, 116]
 ·rw [Dz h12]; exact a5k w
 by_cases h13 : s.data.toList = [98, 111, 111, 108]
 ·rw [Dz h13]; exact a5j w
 by_cases h14 : s.data.toList = [115, 116, 114]
 ·rw [Dz h14]; exact a5i w
 by_cases h15 : s.data.toList = [99, 111, 109, 112]
 ·rw [Dz h15]; exact a5h w
 rw [show C0 s.data.toList = false by simp [C0, Kb, h0, h1, h2, h3, h4, h5, h6, h7, h8, h9, h10, h11, h12, h13, h14, h15]]
 exact We s w (Af h0) (Af h1) (Af h2) (Af h3) (Af h4) (Af h5) (Af h6) (Af h7) (Af h8) (Af h9) (Af h10) (Af h11) (Af h12) (Af h13) (Af h14) (Af h15)
theorem Qj (s : ByteArray) (b : Bool) (h : C0 s.data.toList = b) (w : World) : Calls Tryz.prog 107 #[.string s] w fun e w' => e = .returned (.bool b) ∧ w = w' := h ▸ a01 s w
theorem a9r (w : World) (k : Nat) (h : k < 16) : (w.alloc (Obj.cells #[Value.string { data := #[114, 101, 99] }, Value.string { data := #[102, 110] }, Value.string { data := #[118, 97, 114] }, Value.string { data := #[105, 102] }, Value.string { data := #[101, 108, 115, 101] }, Value.string { data := #[119, 104, 105, 108, 101] }, Value.string { data := #[114, 101, 116, 117, 114, 110] }, Value.string { data := #[112, 114, 105, 110, 116] }, Value.string { data := #[116, 114, 117, 101] }, Value.string { data := #[102, 97, 108, 115, 101] }, Value.string { data := #[110, 105, 108] }, Value.string { data := #[109, 97, 107, 101] }, Value.string { data := #[105, 110, 116] }, Value.string { data := #[98, 111, 111, 108] }, Value.string { data := #[115, 116, 114] }, Value.string { data := #[99, 111, 109, 112] }] 9)).cell? ⟨w.heap.size, k, none⟩ = some (.string (bs (Kb[k]'h))) := by
 have e : (w.alloc (Obj.cells #[Value.string { data := #[114, 101, 99] }, Value.string { data := #[102, 110] }, Value.string { data := #[118, 97, 114] }, Value.string { data := #[105, 102] }, Value.string { data := #[101, 108, 115, 101] }, Value.string { data := #[119, 104, 105, 108, 101] }, Value.string { data := #[114, 101, 116, 117, 114, 110] }, Value.string { data := #[112, 114, 105, 110, 116] }, Value.string { data := #[116, 114, 117, 101] }, Value.string { data := #[102, 97, 108, 115, 101] }, Value.string { data := #[110, 105, 108] }, Value.string { data := #[109, 97, 107, 101] }, Value.string { data := #[105, 110, 116] }, Value.string { data := #[98, 111, 111, 108] }, Value.string { data := #[115, 116, 114] }, Value.string { data := #[99, 111, 109, 112] }] 9)).cell? ⟨w.heap.size, k, none⟩ = (#[Value.string { data := #[114, 101, 99] }, Value.string { data := #[102, 110] }, Value.string { data := #[118, 97, 114] }, Value.string { data := #[105, 102] }, Value.string { data := #[101, 108, 115, 101] }, Value.string { data := #[119, 104, 105, 108, 101] }, Value.string { data := #[114, 101, 116, 117, 114, 110] }, Value.string { data := #[112, 114, 105, 110, 116] }, Value.string { data := #[116, 114, 117, 101] }, Value.string { data := #[102, 97, 108, 115, 101] }, Value.string { data := #[110, 105, 108] }, Value.string { data := #[109, 97, 107, 101] }, Value.string { data := #[105, 110, 116] }, Value.string { data := #[98, 111, 111, 108] }, Value.string { data := #[115, 116, 114] }, Value.string { data := #[99, 111, 109, 112] }] : Array Value)[k]? := by simp [go_sem]
 rw [e]
 match k, h with
 | 0, _ => rfl
 | 1, _ => rfl
 | 2, _ => rfl
 | 3, _ => rfl
 | 4, _ => rfl
 | 5, _ => rfl
 | 6, _ => rfl
 | 7, _ => rfl
 | 8, _ => rfl
 | 9, _ => rfl
 | 10, _ => rfl
 | 11, _ => rfl
 | 12, _ => rfl
 | 13, _ => rfl
 | 14, _ => rfl
 | 15, _ => rfl
 | n + 16, h => omega
end
end Go.Proofs.YtoaplbljflhheaaGreat
namespace Go.Proofs.YtoaplbljflhheaaGreat
section
open Go.RowKit
def C1 (note : Bool) : List UInt8 → Nat
 | [] => 0
 | c :: t => if c = 10 then C1 false t + 1 else if note = true ∨ c = 35 then C1 true t + 1 else if c = 32 ∨ c = 9 ∨ c = 13 then C1 false t + 1 else 0
def plc (a b : Nat) : List UInt8 → Nat × Nat
 | [] => (a, b)
 | c :: t => if c = 10 then plc (a + 1) 1 t else plc a (b + 1) t
theorem Mx (n : Bool) (t : List UInt8) : C1 n (10 :: t) = C1 false t + 1 := by rw [C1, if_pos rfl]
theorem Qt {n : Bool} {c : UInt8} (t : List UInt8) (h : c ≠ 10) (h2 : n = true ∨ c = 35) : C1 n (c :: t) = C1 true t + 1 := by rw [C1, if_neg h, if_pos h2]
theorem D4 {c : UInt8} (t : List UInt8) (h : c = 32 ∨ c = 9 ∨ c = 13) : C1 false (c :: t) = C1 false t + 1 := by
 rw [C1, if_neg (by rcases h with rfl | rfl | rfl <;> decide), if_neg (by rcases h with rfl | rfl | rfl <;> decide), if_pos h]
theorem Sb {c : UInt8} (t : List UInt8) (h : ¬ Hu c) : C1 false (c :: t) = 0 := by
 unfold Hu at h
 rw [C1, if_neg (fun e => h (.inl e)), if_neg (fun e => h (by rcases e with e | e <;> simp_all)), if_neg (fun e => h (by rcases e with e | e | e <;> simp [e]))]
end
end Go.Proofs.YtoaplbljflhheaaGreat
namespace Go.Proofs.YtoaplbljflhheaaGreat
open Go.RowKit
theorem Lb (s : ByteArray) (k : Nat) (h : k < s.size) : F7 (s.data.toList.take (k + 1)) = F7 (s.data.toList.take k) ++ esc s[k] := by
 rw [C4 s k h, a0i]
theorem R2 (s : ByteArray) (k : Nat) (h : k ≤ s.size) (hs : s.size ≤ 100000) : (F7 (s.data.toList.take k)).length ≤ 400000 := by
 have := J4 (s.data.toList.take k)
 rw [List.length_take, Ae] at this
 omega
def b4x (s : ByteArray) (w : World) (a' : Act) (w' : World) : Prop :=
 ∃ k : Nat, (w' = w ∧ k ≤ s.size) ∧ ∃ u5 u6 u7 u8 u9 u10 u11 u12 u13 u14 u15 u16 u17 : Value, a' = { tmps := #[.string s, undef, .int .i64 0, .int .i64 ((F7 (s.data.toList.take k)).length + 2 : Nat), .int .i64 k, u5, u6, u7, u8, u9, u10, u11, u12, u13, u14, u15, u16, u17], defers := [] }
theorem Js (s : ByteArray) (w : World) (hs : s.size ≤ 100000) : Calls Tryz.prog 183 #[.string s] w fun e w' => e = .returned (.int .i64 ((lit s.data.toList).length : Nat)) ∧ w = w' := by
 go_enter Tryz.func183, Tryz.ntmps183
 go_wp2
 refine C3 0 (b4x s w) (fun a' _ => s.size - (intOf (a'.tmps.getD 4 undef)).toNat) rfl ?_ ?_
 ·rintro a' w' ⟨k, ⟨rfl, hk⟩, u5, u6, u7, u8, u9, u10, u11, u12, u13, u14, u15, u16, u17, rfl⟩
  have hz := R2 s k hk hs
  by_cases hlt : k < s.size
  ·have HE := zz (fun w => Qz s[k] w)
   have h4 := (Z3 s[k]).2.2.2.1
   have HB := zz (show (F7 (s.data.toList.take (k + 1))).length + 2 = (F7 (s.data.toList.take k)).length + 2 + (esc s[k]).length by rw [Lb s k hlt]; simp; omega)
   obtain ⟨m, hm⟩ : ∃ m, (F7 (s.data.toList.take k)).length + 2 = m := ⟨_, rfl⟩
   obtain ⟨p, hp⟩ : ∃ p, (esc s[k]).length = p := ⟨_, rfl⟩
   have hm2 : m ≤ 400002 := by omega
   have hp2 : p ≤ 4 := by omega
   rw [hm] at HB
   rw [hp] at HB HE
   rw [hm]
   clear hm hp h4 hz
   go_wp2_with fail
   refine (HE.out _).mono ?_
   rintro e w1 ⟨rfl, rfl⟩
   go_wp2
   go_step3
   refine ⟨rfl, ⟨k + 1, ⟨rfl, hlt⟩, ?_⟩, ?_⟩
   ·rw [HB.out]
    exact ⟨_, _, _, _, _, _, _, _, _, _, _, _, _, rfl⟩
   ·simp [intOf]
    omega
  ·obtain rfl : k = s.size := by omega
   have HB := zz (show (((F7 (s.data.toList.take s.size)).length + 2 : Nat) : Int) = (lit s.data.toList).length by rw [List.take_of_length_le (by rw [Ae]; omega), Nc])
   go_wp2
   simp only [Exit.jump]
   go_ret
   exact ⟨By HB.out, rfl⟩
 ·intro F
  go_wp2
  go_step3
  rename_i hK
  apply hK
  exact F _ _ ⟨0, ⟨rfl, Nat.zero_le _⟩, _, _, _, _, _, _, _, _, _, _, _, _, _, rfl⟩
end Go.Proofs.YtoaplbljflhheaaGreat
