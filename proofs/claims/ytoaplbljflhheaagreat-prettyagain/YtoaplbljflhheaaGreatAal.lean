/-
 Contracts and plain facts on the way to PrettyAgain. Conditions: as each says.
-/
import Derived.Test.YtoaplbljflhheaaGreatAai
import Derived.Test.YtoaplbljflhheaaGreatAae
import Derived.Test.YtoaplbljflhheaaGreatAad
import Derived.ScopeJumps
import Derived.WalkMore
import Derived.Test.YtoaplbljflhheaaGreatAab
set_option maxHeartbeats 40000000
set_option maxRecDepth 100000
set_option linter.unusedVariables false
set_option linter.unusedSimpArgs false
namespace Go.Proofs.YtoaplbljflhheaaGreat
open _root_.Go.Proofs.Tryz
section
section
structure Inf where
 kind : Nat
 line : Nat
 col : Nat
 num : Int
 text : List UInt8
inductive Fo where
 | nil : Fo
 | cons (i : Inf) (k r : Fo) : Fo
def Inf.nd (i : Inf) (n : Nat) : Nd := ⟨i.kind, i.line, i.col, n, i.num, bs i.text⟩
def Fo.app : Fo → Fo → Fo
 | .nil, g => g
 | .cons i k r, g => .cons i k (r.app g)
def Fo.cnt : Fo → Nat
 | .nil => 0
 | .cons _ k r => k.cnt + 1 + r.cnt
def Fo.post : Fo → List Nd
 | .nil => []
 | .cons i k r => k.post ++ i.nd k.cnt :: r.post
def Fo.pre : Fo → List Nd
 | .nil => []
 | .cons i k r => i.nd k.cnt :: (k.pre ++ r.pre)
theorem Jl (F : Fo) : F.app .nil = F := by
 induction F with
 | nil => rfl
 | cons i k r _ ih => simp [Fo.app, ih]
theorem Mt (F G H : Fo) : (F.app G).app H = F.app (G.app H) := by
 induction F with
 | nil => rfl
 | cons i k r _ ih => simp [Fo.app, ih]
theorem Bs (F G : Fo) : (F.app G).cnt = F.cnt + G.cnt := by
 induction F with
 | nil => simp [Fo.app, Fo.cnt]
 | cons i k r _ ih => simp [Fo.app, Fo.cnt, ih]; omega
theorem Bh (F G : Fo) : (F.app G).post = F.post ++ G.post := by
 induction F with
 | nil => rfl
 | cons i k r _ ih => simp [Fo.app, Fo.post, ih]
theorem An (F : Fo) : F.post.length = F.cnt := by
 induction F with
 | nil => rfl
 | cons i k r ihk ihr => simp [Fo.post, Fo.cnt, ihk, ihr]; omega
theorem C7 (F : Fo) : F.pre.length = F.cnt := by
 induction F with
 | nil => rfl
 | cons i k r ihk ihr => simp [Fo.pre, Fo.cnt, ihk, ihr]; omega
inductive Out where
 | ok (F : Fo) (r : List Tok) : Out
 | bad (c : Int) (l k : Nat) : Out
def Out.bind : Out → (Fo → List Tok → Out) → Out
 | .ok F r, f => f F r
 | .bad c l k, _ => .bad c l k
abbrev Pt := Nat → List Tok → Out
def b61 : Tok := ⟨0, 0, 0, 0, []⟩
def hd (ts : List Tok) : Tok := ts.headD b61
def K7 (x : List UInt8) (t : Tok) : Bool := decide ((t.kind = 6 ∨ t.kind = 7) ∧ t.text = x)
def sees (x : List UInt8) (ts : List Tok) : Bool := K7 x (hd ts)
def Mr (c : Int) (ts : List Tok) : Out := .bad c (hd ts).line (hd ts).col
def A3 : Pt := fun _ ts => .ok .nil ts
def It : Pt := fun _ _ => .bad 5 0 0
def Hr (q : List Tok → Bool) : Pt := fun _ ts => if q ts = true then .ok .nil ts.tail else Mr 5 ts
def take (x : List UInt8) : Pt := Hr (sees x)
def Eu (k : Nat) : Pt := Hr (fun ts => decide ((hd ts).kind = k))
def Di (a b : Pt) : Pt := fun d ts => (a d ts).bind fun F r => (b d r).bind fun G r' => .ok (F.app G) r'
def Cf (p : Pt) : Pt := fun d ts => p d ts.tail
def Fq (x : List UInt8) (a b : Pt) : Pt := fun d ts => if sees x ts = true then a d ts else b d ts
def Cm (p : Pt) : Pt := fun d ts => if d = 40 then Mr 6 ts else p (d + 1) ts.tail
def Aq (o c : List UInt8) (p : Pt) : Pt := fun d ts => if sees o ts = true then Di (Cm p) (take c) d ts else Mr 5 ts
def Bx (mk : List Tok → Inf) (p : Pt) : Pt := fun d ts => (p d ts).bind fun F r => .ok (.cons (mk ts) F .nil) r
def Ci (x : List UInt8) (p : Pt) : Nat → Pt
 | 0 => It
 | n + 1 => fun d ts => if sees x ts = true then .ok .nil ts else (p d ts).bind fun F r => (Ci x p n d r).bind fun G r' => .ok (F.app G) r'
def Gl (p : Pt) : Nat → Pt
 | 0 => It
 | n + 1 => fun d ts => (p d ts).bind fun F r => if sees [44] r = true then (Gl p n d r.tail).bind fun G r' => .ok (F.app G) r' else .ok F r
def C2 (p : Pt) (n : Nat) : Pt := Fq [41] A3 (Gl p n)
def J7 (x : List UInt8) : Int :=
 if x = [43] then 1 else if x = [45] then 2 else if x = [42] then 3 else if x = [47] then 4 else if x = [37] then 5 else if x = [61, 61] then 6 else if x = [33, 61] then 7
 else if x = [60] then 8 else if x = [60, 61] then 9 else if x = [62] then 10 else if x = [62, 61] then 11 else if x = [38, 38] then 14 else 15
def anyS (S : List (List UInt8)) (ts : List Tok) : Bool := S.any fun x => sees x ts
def C9 (p : Pt) (F : Fo) : Pt := fun d ts => (p d ts.tail).bind fun G r => .ok (.cons ⟨31, (hd ts).line, (hd ts).col, J7 (hd ts).text, []⟩ (F.app G) .nil) r
def Cp (p : Pt) (S : List (List UInt8)) : Nat → Fo → Pt
 | 0, _ => It
 | n + 1, F => fun d ts => if anyS S ts = true then (C9 p F d ts).bind fun G r => Cp p S n G d r else .ok F ts
def C4 (p : Pt) (S : List (List UInt8)) (n : Nat) : Pt := fun d ts => (p d ts).bind fun F r => Cp p S n F d r
def Js (p : Pt) (S : List (List UInt8)) : Pt := fun d ts => (p d ts).bind fun F r => if anyS S r = true then C9 p F d r else .ok F r
def mkK (k : Nat) (ts : List Tok) : Inf := ⟨k, (hd ts).line, (hd ts).col, 0, []⟩
def mkN (k : Nat) (n : Int) (ts : List Tok) : Inf := ⟨k, (hd ts).line, (hd ts).col, n, []⟩
def mkX (k : Nat) (ts : List Tok) : Inf := ⟨k, (hd ts).line, (hd ts).col, 0, (hd ts).text⟩
def mkY (k : Nat) (ts : List Tok) : Inf := ⟨k, (hd ts).line, (hd ts).col, 0, (hd ts.tail).text⟩
def Ho (t : Tok) : Option (Nat × List UInt8) :=
 if t.kind = 2 then some (19, t.text) else if t.kind ≠ 6 then none
 else if t.text = [105, 110, 116] then some (15, []) else if t.text = [98, 111, 111, 108] then some (16, []) else if t.text = [115, 116, 114] then some (17, []) else if t.text = [99, 111, 109, 112] then some (18, []) else none
def Au : Pt := fun d ts => match Ho (hd ts) with
 | some q => .ok (.cons ⟨q.1, (hd ts).line, (hd ts).col, 0, q.2⟩ .nil .nil) ts.tail
 | none => Mr 5 ts
def A7 (p : Pt) : Pt := Bx (mkK 20) (Aq [91] [93] p)
def Cz : Nat → Pt
 | 0 => It
 | n + 1 => Fq [91] (A7 (Cz n)) Au
def Bo (t : Tok) : Option (Nat × Int × List UInt8) :=
 if t.kind = 3 then some (21, t.num, []) else if t.kind = 4 then some (22, t.num, []) else if t.kind = 5 then some (23, 0, t.text) else if t.kind ≠ 6 then none
 else if t.text = [116, 114, 117, 101] then some (24, 1, []) else if t.text = [102, 97, 108, 115, 101] then some (24, 0, []) else if t.text = [110, 105, 108] then some (25, 0, []) else none
def Fc : Pt := fun d ts => match Bo (hd ts) with
 | some q => .ok (.cons ⟨q.1, (hd ts).line, (hd ts).col, q.2.1, q.2.2⟩ .nil .nil) ts.tail
 | none => Mr 5 ts
def Gk (E : Pt) (n : Nat) : Pt := fun d ts => if sees [40] ts.tail = true then Bx (mkX 27) (Cf (Aq [40] [41] (C2 E n))) d ts else .ok (.cons (mkX 26 ts) .nil .nil) ts.tail
def J9 (E : Pt) (n : Nat) : Pt := Bx (mkK 32) (Cf fun d ts => if (hd ts).kind = 2 then Di Au (Aq [40] [41] A3) d ts else Di (A7 (Cz n)) (Aq [40] [41] E) d ts)
def Eo (E : Pt) (n : Nat) : Pt := fun d ts => if sees [40] ts = true then Aq [40] [41] E d ts else if sees [109, 97, 107, 101] ts = true then J9 E n d ts else if (hd ts).kind = 1 then Gk E n d ts else Fc d ts
def C8 (E : Pt) : Nat → Fo → Pt
 | 0, _ => It
 | n + 1, F => fun d ts => if sees [91] ts = true then (Aq [91] [93] E d ts).bind fun G r => C8 E n (.cons (mkK 28 ts) (F.app G) .nil) d r
  else if sees [46] ts = true then (Eu 1 d ts.tail).bind fun _ r => C8 E n (.cons (mkY 29 ts) F .nil) d r else .ok F ts
def H9 (E : Pt) (n : Nat) : Pt := fun d ts => (Eo E n d ts).bind fun F r => C8 E n F d r
def Cy (U p : Pt) : Pt := fun d ts => if sees [45] ts = true then Bx (mkN 30 12) (Cm U) d ts else if sees [33] ts = true then Bx (mkN 30 13) (Cm U) d ts else p d ts
def a7e (u : Pt) (n : Nat) : Pt := C4 u [[42], [47], [37]] n
def c0k (u : Pt) (n : Nat) : Pt := C4 (a7e u n) [[43], [45]] n
def a84 (u : Pt) (n : Nat) : Pt := Js (c0k u n) [[60], [60, 61], [62], [62, 61]]
def Yv (u : Pt) (n : Nat) : Pt := Js (a84 u n) [[61, 61], [33, 61]]
def c0s (u : Pt) (n : Nat) : Pt := C4 (Yv u n) [[38, 38]] n
def orP (u : Pt) (n : Nat) : Pt := C4 (c0s u n) [[124, 124]] n
def eu : Nat → Pt × Pt
 | 0 => (It, It)
 | n + 1 => (orP (Cy (eu n).2 (H9 (eu n).1 (n + 1))) (n + 1), Cy (eu n).2 (H9 (eu n).1 (n + 1)))
def Bc (n : Nat) : Pt := (eu n).1
def unP (n : Nat) : Pt := (eu n).2
theorem Kz (n : Nat) : Bc (n + 1) = orP (unP (n + 1)) (n + 1) := rfl
theorem Rs (n : Nat) : unP (n + 1) = Cy (unP n) (H9 (Bc n) (n + 1)) := rfl
def Ba : List Pt → Pt
 | [] => A3
 | p :: l => Di p (Ba l)
def Cd (k : Nat) (l : List Pt) : Pt := Bx (mkK k) (Cf (Ba l))
def Hp : Fo → Nat
 | .cons i _ _ => i.kind
 | .nil => 0
def L3 (E : Pt) : Pt := fun d ts => (E d ts).bind fun F r =>
 if Hp F = 26 ∨ Hp F = 28 ∨ Hp F = 29 then (Di (take [61]) (Di E (take [59])) d r).bind fun G r' => .ok (.cons (mkK 8 ts) (F.app G) .nil) r'
 else if Hp F = 27 then (take [59] d r).bind fun G r' => .ok (.cons (mkK 13 ts) (F.app G) .nil) r' else Mr 5 r
def a1d (E : Pt) (n : Nat) : Pt := Bx (mkY 7) (Cf (Ba [Eu 1, take [58], Cz n, take [61], E, take [59]]))
def Ng (B : Pt) : Pt := Fq [101, 108, 115, 101] (Cf B) A3
def Gb (E : Pt) : Pt := Fq [59] A3 E
def Gg (E B : Pt) (n : Nat) : Pt := Fq [118, 97, 114] (a1d E n) (Fq [105, 102] (Cd 9 [E, B, Ng B]) (Fq [119, 104, 105, 108, 101] (Cd 10 [E, B])
 (Fq [114, 101, 116, 117, 114, 110] (Cd 11 [Gb E, take [59]]) (Fq [112, 114, 105, 110, 116] (Cd 12 [E, take [59]]) (L3 E)))))
def D3 (S : Pt) (n : Nat) : Pt := Bx (mkK 6) (Aq [123] [125] (Ci [125] S n))
def K6 : Nat → Pt
 | 0 => It
 | n + 1 => Gg (Bc (n + 1)) (D3 (K6 n) n) (n + 1)
def D7 (k n : Nat) : Pt := Bx (mkX k) (Ba [Eu 1, take [58], Cz n])
def Hz (n : Nat) : Pt := Di (D7 3 n) (take [59])
def a2z (n : Nat) : Pt := Bx (mkY 2) (Cf (Di (Eu 2) (Aq [123] [125] (Ci [125] (Hz n) n))))
def Es (n : Nat) : Pt := fun d ts => if sees [58] ts = true then Cz n d ts.tail else .ok (.cons ⟨14, 0, 0, 0, []⟩ .nil .nil) ts
def K8 (k : Nat) (l : List Nd) : Nat := (l.filter fun n => decide (n.kind = k)).length
def fnP (n : Nat) : Pt := fun d ts => (take [102, 110] d ts).bind fun _ r => (Di (Eu 1) (Aq [40] [41] (C2 (D7 5 n) n)) d r).bind fun F r1 =>
 (Di (Es n) (D3 (K6 n) n) d r1).bind fun G r2 => .ok (.cons ⟨4, (hd ts).line, (hd ts).col, (K8 5 F.post : Nat), (hd r).text⟩ (F.app G) .nil) r2
def Gu (n : Nat) : Pt := Fq [114, 101, 99] (a2z n) (fnP n)
def He (p : Pt) : Nat → Pt
 | 0 => It
 | n + 1 => fun d ts => if (hd ts).kind = 8 then .ok .nil ts else (p d ts).bind fun F r => (He p n d r).bind fun G r' => .ok (F.app G) r'
def Fl (n : Nat) : Pt := fun d ts => (He (Gu n) n d ts).bind fun F r => .ok (.cons ⟨1, 1, 1, 0, []⟩ F .nil) r
def Ha (p : Pt) (ts : List Tok) : Out := (p 0 ts).bind fun F r => if (hd r).kind = 8 then .ok F r else Mr 5 r
end
end
section
section
def Xj (ts : List Tok) : Prop := ∃ a e, ts = a ++ [e] ∧ e.kind = 8
theorem Xj.ne {ts : List Tok} (h : Xj ts) : ∃ t l, ts = t :: l := by
 obtain ⟨a, e, rfl, _⟩ := h
 cases a with
 | nil => exact ⟨e, [], rfl⟩
 | cons t l => exact ⟨t, l ++ [e], rfl⟩
theorem Xj.tl {t : Tok} {l : List Tok} (h : Xj (t :: l)) (hk : t.kind ≠ 8) : Xj l := by
 obtain ⟨a, e, ha, he⟩ := h
 cases a with
 | nil => simp at ha; rw [ha.1] at hk; exact absurd he hk
 | cons u m => simp at ha; exact ⟨m, e, ha.2, he⟩
theorem Ad {o : Out} {f : Fo → List Tok → Out} {G : Fo} {r : List Tok} (h : o.bind f = .ok G r) : ∃ F r1, o = .ok F r1 ∧ f F r1 = .ok G r := by
 cases o with
 | ok F r1 => exact ⟨F, r1, rfl, h⟩
 | bad c l k => cases h
theorem Bw {x : List UInt8} {ts : List Tok} (h : sees x ts = true) : ∃ t l, ts = t :: l ∧ (t.kind = 6 ∨ t.kind = 7) ∧ t.text = x := by
 cases ts with
 | nil => simp [sees, K7, hd, b61] at h
 | cons t l => simp [sees, K7, hd] at h; exact ⟨t, l, rfl, h⟩
theorem Qe {S : List (List UInt8)} {ts : List Tok} (h : anyS S ts = true) : ∃ t l, ts = t :: l ∧ (t.kind = 6 ∨ t.kind = 7) := by
 obtain ⟨x, _, hx⟩ := List.any_eq_true.1 h;obtain ⟨t, l, h1, h2, _⟩ := Bw hx;exact ⟨t, l, h1, h2⟩
theorem Pl {k : Nat} {ts : List Tok} (h : (hd ts).kind = k) (hk : k ≠ 0) : ∃ t l, ts = t :: l ∧ t.kind = k := by
 cases ts with
 | nil => simp [hd, b61] at h; omega
 | cons t l => exact ⟨t, l, rfl, h⟩
def Lft (n : Nat) (ts : List Tok) (r : List Tok) : Prop := n + r.length ≤ ts.length ∧ (Xj ts → Xj r) ∧ ∀ t ∈ r, t ∈ ts
theorem Lft.refl (ts : List Tok) : Lft 0 ts ts := ⟨by omega, id, fun _ h => h⟩
theorem Lft.trans {m n : Nat} {a b c : List Tok} (h : Lft m a b) (k : Lft n b c) : Lft (m + n) a c := ⟨by have := h.1; have := k.1; omega, fun e => k.2.1 (h.2.1 e), fun t ht => h.2.2 t (k.2.2 t ht)⟩
theorem Lft.mono {m n : Nat} {a b : List Tok} (h : Lft m a b) (hn : n ≤ m) : Lft n a b := ⟨by have := h.1; omega, h.2⟩
theorem Lft.tail {t : Tok} {l : List Tok} (h : t.kind ≠ 8) : Lft 1 (t :: l) l := ⟨by simp; omega, fun e => e.tl h, fun u hu => by simp [hu]⟩
theorem Hw {x : List UInt8} {ts : List Tok} (h : sees x ts = true) : Lft 1 ts ts.tail := by
 obtain ⟨t, l, rfl, hk, _⟩ := Bw h;exact Lft.tail (by omega)
theorem a4h {S : List (List UInt8)} {ts : List Tok} (h : anyS S ts = true) : Lft 1 ts ts.tail := by
 obtain ⟨t, l, rfl, hk⟩ := Qe h;exact Lft.tail (by omega)
theorem Mf {k : Nat} {ts : List Tok} (h : (hd ts).kind = k) (h0 : k ≠ 0) (h8 : k ≠ 8) : Lft 1 ts ts.tail := by
 obtain ⟨t, l, rfl, hk⟩ := Pl h h0;exact Lft.tail (by omega)
def GA (s : Nat) (p : Pt) (d : Nat) (ts : List Tok) : Prop := ∀ F r, p d ts = .ok F r → Lft (F.cnt + s) ts r
def Gd (s : Nat) (p : Pt) : Prop := ∀ d ts, GA s p d ts
theorem Gd.mono {s s' : Nat} {p : Pt} (h : Gd s p) (hs : s' ≤ s) : Gd s' p := fun d ts F r e => (h d ts F r e).mono (by omega)
theorem Jh (s : Nat) : Gd s It := fun d ts F r e => by cases e
theorem C3 : Gd 0 A3 := fun d ts F r e => by cases e; exact Lft.refl _
theorem Cs (x : List UInt8) : Gd 1 (take x) := fun d ts F r e => by
 unfold take Hr at e;split at e
 ·rename_i h; cases e; exact Hw h
 ·cases e
theorem Fx (k : Nat) (h0 : k ≠ 0) (h8 : k ≠ 8) : Gd 1 (Eu k) := fun d ts F r e => by
 unfold Eu Hr at e;split at e
 ·rename_i h; cases e; exact Mf (of_decide_eq_true h) h0 h8
 ·cases e
theorem b1w {s s' : Nat} {a b : Pt} {d : Nat} {ts : List Tok} (ha : GA s a d ts) (hb : Gd s' b) : GA (s + s') (Di a b) d ts := fun F r e => by
 obtain ⟨F1, r1, e1, e2⟩ := Ad e;obtain ⟨F2, r2, e3, e4⟩ := Ad e2;cases e4;rw [Bs];exact ((ha _ _ e1).trans (hb _ _ _ _ e3)).mono (by omega)
theorem Jp {s s' : Nat} {a b : Pt} (ha : Gd s a) (hb : Gd s' b) : Gd (s + s') (Di a b) := fun d ts => b1w (ha d ts) hb
theorem Jq {s : Nat} {x : List UInt8} {a b : Pt} (ha : ∀ d ts, sees x ts = true → GA s a d ts) (hb : Gd s b) : Gd s (Fq x a b) := fun d ts F r e => by
 unfold Fq at e;split at e
 ·rename_i h; exact ha d ts h F r e
 ·exact hb d ts F r e
theorem Kv {s : Nat} {x : List UInt8} {p : Pt} {d : Nat} {ts : List Tok} (h : sees x ts = true) (hp : Gd s p) : GA (s + 1) (Cf p) d ts := fun F r e => ((Hw h).trans (hp _ _ _ _ e)).mono (by omega)
theorem Jj {s : Nat} {mk : List Tok → Inf} {p : Pt} {d : Nat} {ts : List Tok} (h : GA (s + 1) p d ts) : GA s (Bx mk p) d ts := fun F r e => by
 obtain ⟨F1, r1, e1, e2⟩ := Ad e;cases e2;exact (h _ _ e1).mono (by simp [Fo.cnt]; omega)
theorem Kb {s : Nat} {x : List UInt8} {p : Pt} {d : Nat} {ts : List Tok} (h : sees x ts = true) (hp : Gd s p) : GA (s + 1) (Cm p) d ts := fun F r e => by
 unfold Cm at e;split at e
 ·cases e
 ·exact ((Hw h).trans (hp _ _ _ _ e)).mono (by omega)
theorem Bk {s : Nat} {o c : List UInt8} {p : Pt} (hp : Gd s p) : Gd (s + 2) (Aq o c p) := fun d ts F r e => by
 unfold Aq at e;split at e
 ·rename_i h;have := b1w (Kb (d := d) h hp) (Cs c) F r e;exact this.mono (by omega)
 ·cases e
theorem Hy {x : List UInt8} {p : Pt} (hp : Gd 0 p) (n : Nat) : Gd 0 (Ci x p n) := by
 induction n with
 | zero => exact Jh 0
 | succ n ih =>
  intro d ts F r e;unfold Ci at e;split at e
  ·cases e; exact Lft.refl _
  ·obtain ⟨F1, r1, e1, e2⟩ := Ad e;obtain ⟨F2, r2, e3, e4⟩ := Ad e2;cases e4;rw [Bs];exact ((hp _ _ _ _ e1).trans (ih _ _ _ _ e3)).mono (by omega)
theorem a9r {p : Pt} (hp : Gd 0 p) (n : Nat) : Gd 0 (Gl p n) := by
 induction n with
 | zero => exact Jh 0
 | succ n ih =>
  intro d ts F r e;unfold Gl at e;obtain ⟨F1, r1, e1, e2⟩ := Ad e;split at e2
  ·rename_i h;obtain ⟨F2, r2, e3, e4⟩ := Ad e2;cases e4;rw [Bs];exact (((hp _ _ _ _ e1).trans (Hw h)).trans (ih _ _ _ _ e3)).mono (by omega)
  ·cases e2; exact hp _ _ _ _ e1
theorem Ed {p : Pt} (hp : Gd 0 p) (n : Nat) : Gd 0 (C2 p n) := Jq (fun d ts _ => C3 d ts) (a9r hp n)
theorem Rk {p : Pt} (hp : Gd 0 p) {S : List (List UInt8)} {F G : Fo} {d : Nat} {ts r : List Tok} (hs : anyS S ts = true) (e : C9 p F d ts = .ok G r) : ∃ n, Lft n ts r ∧ G.cnt = F.cnt + n := by
 obtain ⟨F1, r1, e1, e2⟩ := Ad e;cases e2;exact ⟨F1.cnt + 1, ((a4h hs).trans (hp _ _ _ _ e1)).mono (by omega), by simp [Fo.cnt, Bs]; omega⟩
theorem a04 {p : Pt} (hp : Gd 0 p) {S : List (List UInt8)} (n : Nat) : ∀ {F G : Fo} {d : Nat} {ts r : List Tok}, Cp p S n F d ts = .ok G r → ∃ n, Lft n ts r ∧ G.cnt = F.cnt + n := by
 induction n with
 | zero => intro F G d ts r e; cases e
 | succ n ih =>
  intro F G d ts r e;unfold Cp at e;split at e
  ·rename_i h;obtain ⟨F1, r1, e1, e2⟩ := Ad e;obtain ⟨n1, l1, c1⟩ := Rk hp h e1;obtain ⟨n2, l2, c2⟩ := ih e2;exact ⟨n1 + n2, l1.trans l2, by omega⟩
  ·cases e; exact ⟨0, Lft.refl _, rfl⟩
theorem Ji {p : Pt} (hp : Gd 0 p) (S : List (List UInt8)) (n : Nat) : Gd 0 (C4 p S n) := fun d ts F r e => by
 obtain ⟨F1, r1, e1, e2⟩ := Ad e;obtain ⟨m, l, c⟩ := a04 hp n e2;exact ((hp _ _ _ _ e1).trans l).mono (by omega)
theorem Sr {p : Pt} (hp : Gd 0 p) (S : List (List UInt8)) : Gd 0 (Js p S) := fun d ts F r e => by
 obtain ⟨F1, r1, e1, e2⟩ := Ad e;split at e2
 ·rename_i h;obtain ⟨m, l, c⟩ := Rk hp h e2;exact ((hp _ _ _ _ e1).trans l).mono (by omega)
 ·cases e2; exact hp _ _ _ _ e1
theorem Qy {t : Tok} {q} (h : Ho t = some q) : t.kind = 2 ∨ t.kind = 6 := by
 unfold Ho at h;split at h
 ·left; assumption
 ·split at h
  ·cases h
  ·right; simp_all
theorem Ka : Gd 0 Au := fun d ts F r e => by
 unfold Au at e;split at e
 ·rename_i q h;cases e;rcases Qy h with k | k
  ·exact (Mf k (by decide) (by decide)).mono (by simp [Fo.cnt])
  ·exact (Mf k (by decide) (by decide)).mono (by simp [Fo.cnt])
 ·cases e
theorem Lq {p : Pt} (hp : Gd 0 p) : Gd 1 (A7 p) := fun d ts => Jj (Bk hp d ts)
theorem Jg (n : Nat) : Gd 0 (Cz n) := by
 induction n with
 | zero => exact Jh 0
 | succ n ih => exact Jq (fun d ts _ => (Lq ih).mono (by omega) d ts) Ka
theorem P6 {t : Tok} {q} (h : Bo t = some q) : t.kind = 3 ∨ t.kind = 4 ∨ t.kind = 5 ∨ t.kind = 6 := by
 unfold Bo at h;split at h
 ·left; assumption
 ·split at h
  ·right; left; assumption
  ·split at h
   ·right; right; left; assumption
   ·split at h
    ·cases h
    ·right; right; right; simp_all
theorem a9s : Gd 0 Fc := fun d ts F r e => by
 unfold Fc at e;split at e
 ·rename_i q h;cases e;rcases P6 h with k | k | k | k
  all_goals exact (Mf k (by decide) (by decide)).mono (by simp [Fo.cnt])
 ·cases e
section
variable {E : Pt} (hE : Gd 0 E) (n : Nat)
include hE
theorem b4k {d : Nat} {ts : List Tok} (h : (hd ts).kind = 1) : GA 0 (Gk E n) d ts := fun F r e => by
 have ht := Mf h (by decide) (by decide);unfold Gk at e;split at e
 ·obtain ⟨F1, r1, e1, e2⟩ := Ad e;cases e2;exact (ht.trans (Bk (Ed hE n) _ _ _ _ e1)).mono (by simp [Fo.cnt]; omega)
 ·cases e; exact ht.mono (by simp [Fo.cnt])
theorem b4l {d : Nat} {ts : List Tok} (h : sees [109, 97, 107, 101] ts = true) : GA 0 (J9 E n) d ts := by
 refine Jj (Kv (s := 0) h fun d ts F r e => ?_);split at e
 ·exact (Jp Ka (Bk C3) _ _ _ _ e).mono (by omega)
 ·exact (Jp (Lq (Jg n)) (Bk hE) _ _ _ _ e).mono (by omega)
theorem a4z : Gd 0 (Eo E n) := fun d ts F r e => by
 unfold Eo at e;split at e
 ·exact (Bk hE _ _ _ _ e).mono (by omega)
 ·split at e
  ·rename_i h; exact b4l hE n h F r e
  ·split at e
   ·rename_i h; exact b4k hE n h F r e
   ·exact a9s _ _ _ _ e
theorem a3j (m : Nat) : ∀ {F G : Fo} {d : Nat} {ts r : List Tok}, C8 E m F d ts = .ok G r → ∃ k, Lft k ts r ∧ G.cnt = F.cnt + k := by
 induction m with
 | zero => intro F G d ts r e; cases e
 | succ m ih =>
  intro F G d ts r e;unfold C8 at e;split at e
  ·obtain ⟨F1, r1, e1, e2⟩ := Ad e;obtain ⟨k, l, c⟩ := ih e2;exact ⟨F1.cnt + 1 + k, (((Bk hE _ _ _ _ e1).mono (n := F1.cnt + 1) (by omega)).trans l), by simp [Fo.cnt, Bs] at c; omega⟩
  ·split at e
   ·rename_i h;obtain ⟨F1, r1, e1, e2⟩ := Ad e;obtain ⟨k, l, c⟩ := ih e2;exact ⟨1 + k, (((Hw h).trans (Fx 1 (by decide) (by decide) _ _ _ _ e1)).mono (n := 1) (by omega)).trans l, by simp [Fo.cnt] at c; omega⟩
   ·cases e; exact ⟨0, Lft.refl _, rfl⟩
theorem b4j : Gd 0 (H9 E n) := fun d ts F r e => by
 obtain ⟨F1, r1, e1, e2⟩ := Ad e;obtain ⟨m, l, c⟩ := a3j hE n e2;exact ((a4z hE n _ _ _ _ e1).trans l).mono (by omega)
end
theorem a9p {U p : Pt} (hU : Gd 0 U) (hp : Gd 0 p) : Gd 0 (Cy U p) := fun d ts F r e => by
 unfold Cy at e;split at e
 ·rename_i h; exact Jj (Kb h hU) F r e
 ·split at e
  ·rename_i h; exact Jj (Kb h hU) F r e
  ·exact hp _ _ _ _ e
theorem c1e {u : Pt} (h : Gd 0 u) (n : Nat) : Gd 0 (orP u n) := Ji (Ji (Sr (Sr (Ji (Ji h _ n) _ n) _) _) _ n) _ n
theorem b87 (n : Nat) : Gd 0 (Bc n) ∧ Gd 0 (unP n) := by
 induction n with
 | zero => exact ⟨Jh 0, Jh 0⟩
 | succ n ih =>
  have h := a9p ih.2 (b4j ih.1 (n + 1));exact ⟨c1e h (n + 1), h⟩
theorem Ss (n : Nat) : Gd 0 (Bc n) := (b87 n).1
theorem b85 (n : Nat) : Gd 0 (unP n) := (b87 n).2
theorem Mj {k : Nat} {x : List UInt8} {l : List Pt} {d : Nat} {ts : List Tok} (h : sees x ts = true) (hl : Gd 0 (Ba l)) : GA 0 (Cd k l) d ts := Jj (Kv h hl)
theorem Uv {l : List Pt} (h : ∀ p ∈ l, Gd 0 p) : Gd 0 (Ba l) := by
 induction l with
 | nil => exact C3
 | cons p l ih => exact Jp (h p (by simp)) (ih fun q hq => h q (by simp [hq]))
theorem b86 {E : Pt} (hE : Gd 0 E) : Gd 0 (L3 E) := fun d ts F r e => by
 obtain ⟨F1, r1, e1, e2⟩ := Ad e;split at e2
 ·obtain ⟨F2, r2, e3, e4⟩ := Ad e2;cases e4;have h2 := Jp (Cs [61]) (Jp hE (Cs [59])) _ _ _ _ e3;exact ((hE _ _ _ _ e1).trans h2).mono (by simp [Fo.cnt, Bs]; omega)
 ·split at e2
  ·obtain ⟨F2, r2, e3, e4⟩ := Ad e2;cases e4;exact ((hE _ _ _ _ e1).trans (Cs _ _ _ _ _ e3)).mono (by simp [Fo.cnt, Bs]; omega)
  ·cases e2
theorem a4y {E B : Pt} (hE : Gd 0 E) (hB : Gd 0 B) (n : Nat) : Gd 0 (Gg E B n) := by
 have ht : ∀ x, Gd 0 (take x) := fun x => (Cs x).mono (by omega)
 refine Jq (fun d ts h => Jj (Kv h (Uv fun p hp => ?_))) (Jq (fun d ts h => Mj h (Uv fun p hp => ?_)) (Jq (fun d ts h => Mj h (Uv fun p hp => ?_)) (Jq (fun d ts h => Mj h (Uv fun p hp => ?_)) (Jq (fun d ts h => Mj h (Uv fun p hp => ?_)) (b86 hE)))))
 ·simp only [List.mem_cons, List.not_mem_nil, or_false] at hp;rcases hp with rfl | rfl | rfl | rfl | rfl | rfl
  ·exact (Fx 1 (by decide) (by decide)).mono (by omega)
  ·exact ht _
  ·exact Jg n
  ·exact ht _
  ·exact hE
  ·exact ht _
 ·simp only [List.mem_cons, List.not_mem_nil, or_false] at hp;rcases hp with rfl | rfl | rfl
  ·exact hE
  ·exact hB
  ·exact Jq (fun d ts h F r e => (Kv h hB F r e).mono (by omega)) C3
 ·simp only [List.mem_cons, List.not_mem_nil, or_false] at hp;rcases hp with rfl | rfl
  ·exact hE
  ·exact hB
 ·simp only [List.mem_cons, List.not_mem_nil, or_false] at hp;rcases hp with rfl | rfl
  ·exact Jq (fun d ts _ => C3 d ts) hE
  ·exact ht _
 ·simp only [List.mem_cons, List.not_mem_nil, or_false] at hp;rcases hp with rfl | rfl
  ·exact hE
  ·exact ht _
theorem Om {S : Pt} (h : Gd 0 S) (n : Nat) : Gd 1 (D3 S n) := fun d ts => Jj (Bk (Hy h n) d ts)
theorem Px (n : Nat) : Gd 0 (K6 n) := by
 induction n with
 | zero => exact Jh 0
 | succ n ih => exact a4y (Ss _) ((Om ih n).mono (by omega)) _
theorem Fk (k n : Nat) : Gd 1 (D7 k n) := fun d ts => Jj (by
 have := Jp (Fx 1 (by decide) (by decide)) (Jp (Cs [58]) (Jp (Jg n) C3)) d ts
 exact fun F r e => (this F r e).mono (by omega))
theorem Ku (n : Nat) : Gd 1 (Hz n) := (Jp (Fk 3 n) (Cs [59])).mono (by omega)
theorem b88 (n : Nat) {d : Nat} {ts : List Tok} (h : sees [114, 101, 99] ts = true) : GA 0 (a2z n) d ts :=
 Jj (Kv (s := 0) h ((Jp (Fx 2 (by decide) (by decide)) (Bk (Hy ((Ku n).mono (by omega)) n))).mono (by omega)))
theorem Km (n : Nat) {d : Nat} {ts r : List Tok} {F : Fo} (e : Es n d ts = .ok F r) : Lft (F.cnt - 1) ts r := by
 unfold Es at e;split at e
 ·rename_i h; exact ((Hw h).trans (Jg n _ _ _ _ e)).mono (by omega)
 ·cases e; exact (Lft.refl ts).mono (by simp [Fo.cnt])
theorem c1f (n : Nat) : Gd 0 (fnP n) := fun d ts F r e => by
 obtain ⟨F0, r0, e0, e1⟩ := Ad e;obtain ⟨F1, r1, e2, e3⟩ := Ad e1;obtain ⟨F2, r2, e4, e5⟩ := Ad e3;cases e5;have h0 := Cs _ _ _ _ _ e0;have h1 := Jp (Fx 1 (by decide) (by decide)) (Bk (Ed ((Fk 5 n).mono (by omega)) n)) _ _ _ _ e2;obtain ⟨F3, r3, e6, e7⟩ := Ad e4;obtain ⟨F4, r4, e8, e9⟩ := Ad e7;cases e9;have h2 := (Km n e6).trans (Om (Px n) n _ _ _ _ e8);exact ((h0.trans h1).trans h2).mono (by simp [Fo.cnt, Bs]; omega)
theorem W2 (n : Nat) : Gd 0 (Gu n) := Jq (fun d ts h => b88 n h) (c1f n)
theorem a9q {p : Pt} (hp : Gd 0 p) (n : Nat) : Gd 0 (He p n) := by
 induction n with
 | zero => exact Jh 0
 | succ n ih =>
  intro d ts F r e;unfold He at e;split at e
  ·cases e; exact Lft.refl _
  ·obtain ⟨F1, r1, e1, e2⟩ := Ad e;obtain ⟨F2, r2, e3, e4⟩ := Ad e2;cases e4;rw [Bs];exact ((hp _ _ _ _ e1).trans (ih _ _ _ _ e3)).mono (by omega)
end
end
section
section
def a6x (F : Fo) : Prop := ∃ i k, F = .cons i k .nil ∧ 21 ≤ i.kind ∧ i.kind ≤ 32
def Qn (p : Pt) : Prop := ∀ d ts F r, p d ts = .ok F r → a6x F
theorem L2 {mk : List Tok → Inf} {p : Pt} (h : ∀ ts, 21 ≤ (mk ts).kind ∧ (mk ts).kind ≤ 32) : Qn (Bx mk p) := fun d ts F r e => by
 obtain ⟨F1, r1, e1, e2⟩ := Ad e;cases e2;exact ⟨_, _, rfl, h ts⟩
theorem Oj {x : List UInt8} {d : Nat} {ts r : List Tok} {F : Fo} (e : take x d ts = .ok F r) : F = .nil := by
 unfold take Hr at e;split at e
 ·cases e; rfl
 ·cases e
theorem Vv {o c : List UInt8} {p : Pt} (h : Qn p) : Qn (Aq o c p) := fun d ts F r e => by
 unfold Aq at e;split at e
 ·obtain ⟨F1, r1, e1, e2⟩ := Ad e;obtain ⟨F2, r2, e3, e4⟩ := Ad e2;cases e4;rw [Oj e3, Jl];unfold Cm at e1;split at e1
  ·cases e1
  ·exact h _ _ _ _ e1
 ·cases e
theorem O5 {p : Pt} {F : Fo} {d : Nat} {ts r : List Tok} {G : Fo} (e : C9 p F d ts = .ok G r) : a6x G := by
 obtain ⟨F1, r1, e1, e2⟩ := Ad e;cases e2;exact ⟨_, _, rfl, by simp [mkK, mkX, mkY, mkN], by simp [mkK, mkX, mkY, mkN]⟩
theorem Vw {p : Pt} {S : List (List UInt8)} (n : Nat) : ∀ {F G : Fo} {d : Nat} {ts r : List Tok}, a6x F → Cp p S n F d ts = .ok G r → a6x G := by
 induction n with
 | zero => intro F G d ts r _ e; cases e
 | succ n ih =>
  intro F G d ts r hF e;unfold Cp at e;split at e
  ·obtain ⟨F1, r1, e1, e2⟩ := Ad e;exact ih (O5 e1) e2
  ·cases e; exact hF
theorem Kk {p : Pt} (h : Qn p) (S : List (List UInt8)) (n : Nat) : Qn (C4 p S n) := fun d ts F r e => by
 obtain ⟨F1, r1, e1, e2⟩ := Ad e;exact Vw n (h _ _ _ _ e1) e2
theorem Tq {p : Pt} (h : Qn p) (S : List (List UInt8)) : Qn (Js p S) := fun d ts F r e => by
 obtain ⟨F1, r1, e1, e2⟩ := Ad e;split at e2
 ·exact O5 e2
 ·cases e2; exact h _ _ _ _ e1
theorem Xc {t : Tok} {q} (h : Bo t = some q) : 21 ≤ q.1 ∧ q.1 ≤ 32 := by
 unfold Bo at h
 repeat' split at h
 all_goals first | (cases h; simp) | cases h
theorem Z7 : Qn Fc := fun d ts F r e => by
 unfold Fc at e;split at e
 ·rename_i q h;cases e;exact ⟨_, _, rfl, Xc h⟩
 ·cases e
theorem a16 {E : Pt} {n : Nat} : Qn (Gk E n) := fun d ts F r e => by
 unfold Gk at e;split at e
 ·exact L2 (fun ts => ⟨by simp [mkK, mkX, mkY, mkN], by simp [mkK, mkX, mkY, mkN]⟩) _ _ _ _ e
 ·cases e; exact ⟨_, _, rfl, by simp [mkK, mkX, mkY, mkN], by simp [mkK, mkX, mkY, mkN]⟩
theorem a18 {E : Pt} (h : Qn E) (n : Nat) : Qn (Eo E n) := fun d ts F r e => by
 unfold Eo at e;split at e
 ·exact Vv h _ _ _ _ e
 ·split at e
  ·exact L2 (fun ts => ⟨by simp [mkK, mkX, mkY, mkN], by simp [mkK, mkX, mkY, mkN]⟩) _ _ _ _ e
  ·split at e
   ·exact a16 _ _ _ _ e
   ·exact Z7 _ _ _ _ e
theorem Z6 {E : Pt} (n : Nat) : ∀ {F G : Fo} {d : Nat} {ts r : List Tok}, a6x F → C8 E n F d ts = .ok G r → a6x G := by
 induction n with
 | zero => intro F G d ts r _ e; cases e
 | succ n ih =>
  intro F G d ts r hF e;unfold C8 at e;split at e
  ·obtain ⟨F1, r1, e1, e2⟩ := Ad e;exact ih ⟨_, _, rfl, by simp [mkK, mkX, mkY, mkN], by simp [mkK, mkX, mkY, mkN]⟩ e2
  ·split at e
   ·obtain ⟨F1, r1, e1, e2⟩ := Ad e;exact ih ⟨_, _, rfl, by simp [mkK, mkX, mkY, mkN], by simp [mkK, mkX, mkY, mkN]⟩ e2
   ·cases e; exact hF
theorem a15 {E : Pt} (h : Qn E) (n : Nat) : Qn (H9 E n) := fun d ts F r e => by
 obtain ⟨F1, r1, e1, e2⟩ := Ad e;exact Z6 n (a18 h n _ _ _ _ e1) e2
theorem Z5 {U p : Pt} (h : Qn p) : Qn (Cy U p) := fun d ts F r e => by
 unfold Cy at e;split at e
 ·exact L2 (fun ts => ⟨by simp [mkK, mkX, mkY, mkN], by simp [mkK, mkX, mkY, mkN]⟩) _ _ _ _ e
 ·split at e
  ·exact L2 (fun ts => ⟨by simp [mkK, mkX, mkY, mkN], by simp [mkK, mkX, mkY, mkN]⟩) _ _ _ _ e
  ·exact h _ _ _ _ e
theorem b3c {u : Pt} (h : Qn u) (n : Nat) : Qn (orP u n) := Kk (Kk (Tq (Tq (Kk (Kk h _ n) _ n) _) _) _ n) _ n
theorem b3d (n : Nat) : Qn (Bc n) ∧ Qn (unP n) := by
 induction n with
 | zero => exact ⟨(fun d ts F r e => by cases e), (fun d ts F r e => by cases e)⟩
 | succ n ih =>
  have h := Z5 (U := unP n) (a15 ih.1 (n + 1));exact ⟨b3c h (n + 1), h⟩
theorem a17 (n : Nat) : Qn (Bc n) := (b3d n).1
theorem Sa {mk : List Tok → Inf} {p : Pt} {d : Nat} {ts r : List Tok} {F : Fo} (e : Bx mk p d ts = .ok F r) : 1 ≤ F.cnt := by
 obtain ⟨F1, r1, e1, e2⟩ := Ad e;cases e2;simp [Fo.cnt]
theorem T8 {n d : Nat} {ts r : List Tok} {F : Fo} (e : Hz n d ts = .ok F r) : 1 ≤ F.cnt := by
 obtain ⟨F1, r1, e1, e2⟩ := Ad e;obtain ⟨F2, r2, e3, e4⟩ := Ad e2;cases e4;have := Sa e1;rw [Bs]; omega
theorem b3w {E : Pt} {d : Nat} {ts r : List Tok} {F : Fo} (e : L3 E d ts = .ok F r) : 1 ≤ F.cnt := by
 obtain ⟨F1, r1, e1, e2⟩ := Ad e;split at e2
 ·obtain ⟨F2, r2, e3, e4⟩ := Ad e2;cases e4; simp [Fo.cnt]
 ·split at e2
  ·obtain ⟨F2, r2, e3, e4⟩ := Ad e2;cases e4; simp [Fo.cnt]
  ·cases e2
theorem a8i (n : Nat) {d : Nat} {ts r : List Tok} {F : Fo} (e : K6 n d ts = .ok F r) : 1 ≤ F.cnt := by
 cases n with
 | zero => cases e
 | succ n =>
  simp only [K6, Gg, Fq] at e
  repeat' split at e
  all_goals first | exact Sa e | exact b3w e
theorem b7w (n : Nat) {d : Nat} {ts r : List Tok} {F : Fo} (e : fnP n d ts = .ok F r) : 1 ≤ F.cnt := by
 obtain ⟨F0, r0, e0, e1⟩ := Ad e;obtain ⟨F1, r1, e2, e3⟩ := Ad e1;obtain ⟨F2, r2, e4, e5⟩ := Ad e3;cases e5;simp [Fo.cnt]
theorem a8k (n : Nat) {d : Nat} {ts r : List Tok} {F : Fo} (e : Gu n d ts = .ok F r) : 1 ≤ F.cnt := by
 unfold Gu Fq at e;split at e
 ·exact Sa e
 ·exact b7w n e
end
end
section
section
open Go.RowKit
theorem a14 (c : UInt8) (w : World) : Calls prog 127 #[byt c] w fun e w' => e = .returned (.bool (sml c)) ∧ w = w' := by
 by_cases h95 : c = 95
 ·subst h95;go_enter func127, ntmps127;go_wp2;go_ret;exact ⟨rfl, rfl⟩
 have e95 : ((c.toNat : Int) == 95) = false := A0 (n := 95) (by decide) h95;by_cases h1 : (97 : Int) ≤ c.toNat
 ·by_cases h2 : (c.toNat : Int) ≤ 122
  ·have H := zz (show sml c = true by simp [sml]; omega);clear h95;go_enter func127, ntmps127;go_wp2;go_ret;rw [H.out];exact ⟨rfl, rfl⟩
  ·have H := zz (show sml c = false by simp [sml, h95]; omega);clear h95;go_enter func127, ntmps127;go_wp2;go_ret;rw [H.out];exact ⟨rfl, rfl⟩
 ·have H := zz (show sml c = false by simp [sml, h95]; omega);clear h95;go_enter func127, ntmps127;go_wp2;go_ret;rw [H.out];exact ⟨rfl, rfl⟩
theorem a4v (c : UInt8) (w : World) : Calls prog 128 #[byt c] w fun e w' => e = .returned (.bool (grt c)) ∧ w = w' := by
 by_cases h1 : (65 : Int) ≤ c.toNat
 ·by_cases h2 : (c.toNat : Int) ≤ 90
  ·have H := zz (show grt c = true by simp [grt]; omega);go_enter func128, ntmps128;go_wp2;go_ret;rw [H.out];exact ⟨rfl, rfl⟩
  ·have H := zz (show grt c = false by simp [grt]; omega);go_enter func128, ntmps128;go_wp2;go_ret;rw [H.out];exact ⟨rfl, rfl⟩
 ·have H := zz (show grt c = false by simp [grt]; omega);go_enter func128, ntmps128;go_wp2;go_ret;rw [H.out];exact ⟨rfl, rfl⟩
theorem Oq (c : UInt8) (w : World) : Calls prog 132 #[byt c] w fun e w' => e = .returned (.bool (dgt c)) ∧ w = w' := by
 by_cases h1 : (48 : Int) ≤ c.toNat
 ·by_cases h2 : (c.toNat : Int) ≤ 57
  ·have H := zz (show dgt c = true by simp [dgt]; omega);go_enter func132, ntmps132;go_wp2;go_ret;rw [H.out];exact ⟨rfl, rfl⟩
  ·have H := zz (show dgt c = false by simp [dgt]; omega);go_enter func132, ntmps132;go_wp2;go_ret;rw [H.out];exact ⟨rfl, rfl⟩
 ·have H := zz (show dgt c = false by simp [dgt]; omega);go_enter func132, ntmps132;go_wp2;go_ret;rw [H.out];exact ⟨rfl, rfl⟩
theorem Ob {c : UInt8} {b : Bool} (h : sml c = b) (w : World) : Calls prog 127 #[byt c] w fun e w' => e = .returned (.bool b) ∧ w = w' := h ▸ a14 c w
theorem Kt {c : UInt8} {b : Bool} (h : grt c = b) (w : World) : Calls prog 128 #[byt c] w fun e w' => e = .returned (.bool b) ∧ w = w' := h ▸ a4v c w
theorem Yw {c : UInt8} {b : Bool} (h : dgt c = b) (w : World) : Calls prog 132 #[byt c] w fun e w' => e = .returned (.bool b) ∧ w = w' := h ▸ Oq c w
theorem Yd (c : UInt8) (w : World) : Calls prog 129 #[byt c] w fun e w' => e = .returned (.bool (nam c)) ∧ w = w' := by
 cases h1 : sml c with
 | true =>
  have H1 := zz (fun w => Ob h1 w);have H := zz (show nam c = true by simp [nam, h1]);clear h1;go_enter func129, ntmps129;go_wp2_with fail;refine (H1.out _).mono ?_;rintro e w' ⟨rfl, rfl⟩;go_wp2;go_ret;rw [H.out]
  exact ⟨rfl, rfl⟩
 | false =>
  have H1 := zz (fun w => Ob h1 w)
  cases h2 : grt c with
  | true =>
   have H2 := zz (fun w => Kt h2 w);have H := zz (show nam c = true by simp [nam, h2]);clear h1 h2;go_enter func129, ntmps129;go_wp2_with fail;refine (H1.out _).mono ?_;rintro e w' ⟨rfl, rfl⟩;go_wp2_with fail;refine (H2.out _).mono ?_;rintro e w' ⟨rfl, rfl⟩;go_wp2;go_ret;rw [H.out]
   exact ⟨rfl, rfl⟩
  | false =>
   have H2 := zz (fun w => Kt h2 w);have H3 := zz (fun w => Oq c w);have H := zz (show nam c = dgt c by simp [nam, h1, h2]);clear h1 h2;go_enter func129, ntmps129;go_wp2_with fail;refine (H1.out _).mono ?_;rintro e w' ⟨rfl, rfl⟩;go_wp2_with fail;refine (H2.out _).mono ?_;rintro e w' ⟨rfl, rfl⟩;go_wp2_with fail;refine (H3.out _).mono ?_;rintro e w' ⟨rfl, rfl⟩;go_wp2;go_ret;rw [H.out];exact ⟨rfl, rfl⟩
theorem a31 (c : UInt8) (w : World) : Calls prog 95 #[byt c] w fun e w' => e = .returned (.bool (nlf c)) ∧ w = w' := by
 by_cases h : c = 10
 ·subst h;go_enter func95, ntmps95;go_wp2;go_ret;exact ⟨rfl, rfl⟩
 ·have e1 : ((c.toNat : Int) != 10) = true := c1x (n := 10) (by decide) h;have H := zz (show nlf c = true by simp [nlf, h]);clear h;go_enter func95, ntmps95;go_wp2;go_ret;rw [H.out];exact ⟨rfl, rfl⟩
theorem a3z (c : UInt8) (w : World) : Calls prog 189 #[byt c] w fun e w' => e = .returned (.bool (nou c)) ∧ w = w' := by
 by_cases h : c = 48
 ·subst h;go_enter func189, ntmps189;go_wp2;go_ret;exact ⟨rfl, rfl⟩
 ·have e1 : ((c.toNat : Int) == 48) = false := A0 (n := 48) (by decide) h;have H := zz (show nou c = false by simp [nou, h]);clear h;go_enter func189, ntmps189;go_wp2;go_ret;rw [H.out];exact ⟨rfl, rfl⟩
end
end
section
section
open Go.RowKit
theorem Jz {p : UInt8 → Bool} {c : UInt8} {t : List UInt8} (h : p c = true) : C1 p (c :: t) = C1 p t + 1 := by rw [C1, if_pos h]
theorem L6 {p : UInt8 → Bool} {c : UInt8} {t : List UInt8} (h : p c = false) : C1 p (c :: t) = 0 := by rw [C1, if_neg (by simp [h])]
theorem b3h (s : ByteArray) (hs : s.size ≤ 1000000) (w : World) :
  Calls prog 94 #[.string s, .func (.func 95) #[] #[]] w fun e w' => e = .returned (.int .i64 (C1 nlf s.data.toList : Nat)) ∧ w = w' := by
 obtain ⟨R, hR⟩ : ∃ R, C1 nlf s.data.toList = R := ⟨_, rfl⟩;rw [hR];replace hR := zz hR;go_enter func94, ntmps94;go_wp2
 go_loop [5] (fun i => ∃ k : Nat, k ≤ s.size ∧ i = .int .i64 k ∧ k + C1 nlf (s.data.toList.drop k) = R) (fun i => s.size - (intOf i).toNat)
 case atStart => exact ⟨0, Nat.zero_le _, rfl, by rw [← hR.out]; simp⟩
 case round =>
  obtain ⟨k, hk, rfl, hk2⟩ := hrel;by_cases hlt : k < s.size
  ·rw [A8 s k hlt] at hk2
   cases hp : nlf s[k] with
   | true =>
    have HP := zz (fun w => a31 s[k] w);rw [hp] at HP;rw [Jz hp] at hk2;replace hk2 := zz hk2;clear hp;go_wp2_with fail;refine (HP.out _).mono ?_;rintro e w' ⟨rfl, rfl⟩;go_wp2
    go_round
    case rel => exact ⟨k + 1, hlt, by go_num, by have := hk2.out; omega⟩
    case measure => simp [intOf]; omega
   | false =>
    have HP := zz (fun w => a31 s[k] w);rw [hp] at HP;rw [L6 hp] at hk2;replace hk2 := zz hk2;clear hp;go_wp2_with fail;refine (HP.out _).mono ?_;rintro e w' ⟨rfl, rfl⟩;go_wp2;go_ret;exact ⟨Fu (by have := hk2.out; omega), rfl⟩
  ·rw [Ez s k (by omega)] at hk2;have hlt2 : ¬ (k : Int) < s.size := by omega
   replace hk2 := zz (show k = R from hk2);go_wp2;go_ret;exact ⟨Fu (by have := hk2.out; omega), rfl⟩
theorem a0a (s : ByteArray) (hs : s.size ≤ 1000000) (R : Nat) (hR : C1 nlf s.data.toList = R) (w : World) :
  Calls prog 94 #[.string s, .func (.func 95) #[] #[]] w fun e w' => e = .returned (.int .i64 (R : Nat)) ∧ w = w' := hR ▸ b3h s hs w
theorem b3i (s : ByteArray) (hs : s.size ≤ 1000000) (w : World) :
  Calls prog 94 #[.string s, .func (.func 129) #[] #[]] w fun e w' => e = .returned (.int .i64 (C1 nam s.data.toList : Nat)) ∧ w = w' := by
 obtain ⟨R, hR⟩ : ∃ R, C1 nam s.data.toList = R := ⟨_, rfl⟩;rw [hR];replace hR := zz hR;go_enter func94, ntmps94;go_wp2
 go_loop [5] (fun i => ∃ k : Nat, k ≤ s.size ∧ i = .int .i64 k ∧ k + C1 nam (s.data.toList.drop k) = R) (fun i => s.size - (intOf i).toNat)
 case atStart => exact ⟨0, Nat.zero_le _, rfl, by rw [← hR.out]; simp⟩
 case round =>
  obtain ⟨k, hk, rfl, hk2⟩ := hrel;by_cases hlt : k < s.size
  ·rw [A8 s k hlt] at hk2
   cases hp : nam s[k] with
   | true =>
    have HP := zz (fun w => Yd s[k] w);rw [hp] at HP;rw [Jz hp] at hk2;replace hk2 := zz hk2;clear hp;go_wp2_with fail;refine (HP.out _).mono ?_;rintro e w' ⟨rfl, rfl⟩;go_wp2
    go_round
    case rel => exact ⟨k + 1, hlt, by go_num, by have := hk2.out; omega⟩
    case measure => simp [intOf]; omega
   | false =>
    have HP := zz (fun w => Yd s[k] w);rw [hp] at HP;rw [L6 hp] at hk2;replace hk2 := zz hk2;clear hp;go_wp2_with fail;refine (HP.out _).mono ?_;rintro e w' ⟨rfl, rfl⟩;go_wp2;go_ret;exact ⟨Fu (by have := hk2.out; omega), rfl⟩
  ·rw [Ez s k (by omega)] at hk2;have hlt2 : ¬ (k : Int) < s.size := by omega
   replace hk2 := zz (show k = R from hk2);go_wp2;go_ret;exact ⟨Fu (by have := hk2.out; omega), rfl⟩
theorem Q6 (s : ByteArray) (hs : s.size ≤ 1000000) (R : Nat) (hR : C1 nam s.data.toList = R) (w : World) :
  Calls prog 94 #[.string s, .func (.func 129) #[] #[]] w fun e w' => e = .returned (.int .i64 (R : Nat)) ∧ w = w' := hR ▸ b3i s hs w
theorem b3j (s : ByteArray) (hs : s.size ≤ 1000000) (w : World) :
  Calls prog 94 #[.string s, .func (.func 132) #[] #[]] w fun e w' => e = .returned (.int .i64 (C1 dgt s.data.toList : Nat)) ∧ w = w' := by
 obtain ⟨R, hR⟩ : ∃ R, C1 dgt s.data.toList = R := ⟨_, rfl⟩;rw [hR];replace hR := zz hR;go_enter func94, ntmps94;go_wp2
 go_loop [5] (fun i => ∃ k : Nat, k ≤ s.size ∧ i = .int .i64 k ∧ k + C1 dgt (s.data.toList.drop k) = R) (fun i => s.size - (intOf i).toNat)
 case atStart => exact ⟨0, Nat.zero_le _, rfl, by rw [← hR.out]; simp⟩
 case round =>
  obtain ⟨k, hk, rfl, hk2⟩ := hrel;by_cases hlt : k < s.size
  ·rw [A8 s k hlt] at hk2
   cases hp : dgt s[k] with
   | true =>
    have HP := zz (fun w => Oq s[k] w);rw [hp] at HP;rw [Jz hp] at hk2;replace hk2 := zz hk2;clear hp;go_wp2_with fail;refine (HP.out _).mono ?_;rintro e w' ⟨rfl, rfl⟩;go_wp2
    go_round
    case rel => exact ⟨k + 1, hlt, by go_num, by have := hk2.out; omega⟩
    case measure => simp [intOf]; omega
   | false =>
    have HP := zz (fun w => Oq s[k] w);rw [hp] at HP;rw [L6 hp] at hk2;replace hk2 := zz hk2;clear hp;go_wp2_with fail;refine (HP.out _).mono ?_;rintro e w' ⟨rfl, rfl⟩;go_wp2;go_ret;exact ⟨Fu (by have := hk2.out; omega), rfl⟩
  ·rw [Ez s k (by omega)] at hk2;have hlt2 : ¬ (k : Int) < s.size := by omega
   replace hk2 := zz (show k = R from hk2);go_wp2;go_ret;exact ⟨Fu (by have := hk2.out; omega), rfl⟩
theorem a0b (s : ByteArray) (hs : s.size ≤ 1000000) (R : Nat) (hR : C1 dgt s.data.toList = R) (w : World) :
  Calls prog 94 #[.string s, .func (.func 132) #[] #[]] w fun e w' => e = .returned (.int .i64 (R : Nat)) ∧ w = w' := hR ▸ b3j s hs w
theorem b3g (s : ByteArray) (hs : s.size ≤ 1000000) (w : World) :
  Calls prog 94 #[.string s, .func (.func 189) #[] #[]] w fun e w' => e = .returned (.int .i64 (C1 nou s.data.toList : Nat)) ∧ w = w' := by
 obtain ⟨R, hR⟩ : ∃ R, C1 nou s.data.toList = R := ⟨_, rfl⟩;rw [hR];replace hR := zz hR;go_enter func94, ntmps94;go_wp2
 go_loop [5] (fun i => ∃ k : Nat, k ≤ s.size ∧ i = .int .i64 k ∧ k + C1 nou (s.data.toList.drop k) = R) (fun i => s.size - (intOf i).toNat)
 case atStart => exact ⟨0, Nat.zero_le _, rfl, by rw [← hR.out]; simp⟩
 case round =>
  obtain ⟨k, hk, rfl, hk2⟩ := hrel;by_cases hlt : k < s.size
  ·rw [A8 s k hlt] at hk2
   cases hp : nou s[k] with
   | true =>
    have HP := zz (fun w => a3z s[k] w);rw [hp] at HP;rw [Jz hp] at hk2;replace hk2 := zz hk2;clear hp;go_wp2_with fail;refine (HP.out _).mono ?_;rintro e w' ⟨rfl, rfl⟩;go_wp2
    go_round
    case rel => exact ⟨k + 1, hlt, by go_num, by have := hk2.out; omega⟩
    case measure => simp [intOf]; omega
   | false =>
    have HP := zz (fun w => a3z s[k] w);rw [hp] at HP;rw [L6 hp] at hk2;replace hk2 := zz hk2;clear hp;go_wp2_with fail;refine (HP.out _).mono ?_;rintro e w' ⟨rfl, rfl⟩;go_wp2;go_ret;exact ⟨Fu (by have := hk2.out; omega), rfl⟩
  ·rw [Ez s k (by omega)] at hk2;have hlt2 : ¬ (k : Int) < s.size := by omega
   replace hk2 := zz (show k = R from hk2);go_wp2;go_ret;exact ⟨Fu (by have := hk2.out; omega), rfl⟩
theorem Z9 (s : ByteArray) (hs : s.size ≤ 1000000) (R : Nat) (hR : C1 nou s.data.toList = R) (w : World) :
  Calls prog 94 #[.string s, .func (.func 189) #[] #[]] w fun e w' => e = .returned (.int .i64 (R : Nat)) ∧ w = w' := hR ▸ b3g s hs w
end
end
section
section
open Go.RowKit
theorem Dy {s : ByteArray} {l : List UInt8} (h : s.data.toList ≠ l) : (s.toList == l) = false := by rw [ByteArray.toList_eq]; simpa using h
theorem Gf {s : ByteArray} {l : List UInt8} (h : s.data.toList = l) : s = bs l := by rw [← h, U6]
theorem b6w (w : World) : Calls prog 107 #[.string { data := #[114, 101, 99] }] w fun e w' => e = .returned (.bool true) ∧ w = w' := by
 go_enter func107, ntmps107;go_wp2;go_ret;exact ⟨rfl, rfl⟩
theorem b6v (w : World) : Calls prog 107 #[.string { data := #[102, 110] }] w fun e w' => e = .returned (.bool true) ∧ w = w' := by
 go_enter func107, ntmps107;go_wp2;go_ret;exact ⟨rfl, rfl⟩
theorem b6u (w : World) : Calls prog 107 #[.string { data := #[118, 97, 114] }] w fun e w' => e = .returned (.bool true) ∧ w = w' := by
 go_enter func107, ntmps107;go_wp2;go_ret;exact ⟨rfl, rfl⟩
theorem b6t (w : World) : Calls prog 107 #[.string { data := #[105, 102] }] w fun e w' => e = .returned (.bool true) ∧ w = w' := by
 go_enter func107, ntmps107;go_wp2;go_ret;exact ⟨rfl, rfl⟩
theorem b6s (w : World) : Calls prog 107 #[.string { data := #[101, 108, 115, 101] }] w fun e w' => e = .returned (.bool true) ∧ w = w' := by
 go_enter func107, ntmps107;go_wp2;go_ret;exact ⟨rfl, rfl⟩
theorem b6r (w : World) : Calls prog 107 #[.string { data := #[119, 104, 105, 108, 101] }] w fun e w' => e = .returned (.bool true) ∧ w = w' := by
 go_enter func107, ntmps107;go_wp2;go_ret;exact ⟨rfl, rfl⟩
theorem b6q (w : World) : Calls prog 107 #[.string { data := #[114, 101, 116, 117, 114, 110] }] w fun e w' => e = .returned (.bool true) ∧ w = w' := by
 go_enter func107, ntmps107;go_wp2;go_ret;exact ⟨rfl, rfl⟩
theorem b6p (w : World) : Calls prog 107 #[.string { data := #[112, 114, 105, 110, 116] }] w fun e w' => e = .returned (.bool true) ∧ w = w' := by
 go_enter func107, ntmps107;go_wp2;go_ret;exact ⟨rfl, rfl⟩
theorem b6o (w : World) : Calls prog 107 #[.string { data := #[116, 114, 117, 101] }] w fun e w' => e = .returned (.bool true) ∧ w = w' := by
 go_enter func107, ntmps107;go_wp2;go_ret;exact ⟨rfl, rfl⟩
theorem b6n (w : World) : Calls prog 107 #[.string { data := #[102, 97, 108, 115, 101] }] w fun e w' => e = .returned (.bool true) ∧ w = w' := by
 go_enter func107, ntmps107;go_wp2;go_ret;exact ⟨rfl, rfl⟩
theorem b2g (w : World) : Calls prog 107 #[.string { data := #[110, 105, 108] }] w fun e w' => e = .returned (.bool true) ∧ w = w' := by
 go_enter func107, ntmps107;go_wp2;go_ret;exact ⟨rfl, rfl⟩
theorem b2f (w : World) : Calls prog 107 #[.string { data := #[109, 97, 107, 101] }] w fun e w' => e = .returned (.bool true) ∧ w = w' := by
 go_enter func107, ntmps107;go_wp2;go_ret;exact ⟨rfl, rfl⟩
theorem b2e (w : World) : Calls prog 107 #[.string { data := #[105, 110, 116] }] w fun e w' => e = .returned (.bool true) ∧ w = w' := by
 go_enter func107, ntmps107;go_wp2;go_ret;exact ⟨rfl, rfl⟩
theorem b2d (w : World) : Calls prog 107 #[.string { data := #[98, 111, 111, 108] }] w fun e w' => e = .returned (.bool true) ∧ w = w' := by
 go_enter func107, ntmps107;go_wp2;go_ret;exact ⟨rfl, rfl⟩
theorem b2c (w : World) : Calls prog 107 #[.string { data := #[115, 116, 114] }] w fun e w' => e = .returned (.bool true) ∧ w = w' := by
 go_enter func107, ntmps107;go_wp2;go_ret;exact ⟨rfl, rfl⟩
theorem b2b (w : World) : Calls prog 107 #[.string { data := #[99, 111, 109, 112] }] w fun e w' => e = .returned (.bool true) ∧ w = w' := by
 go_enter func107, ntmps107;go_wp2;go_ret;exact ⟨rfl, rfl⟩
theorem a1l (s : ByteArray) (w : World) (e0 : (s.toList == [114, 101, 99]) = false) (e1 : (s.toList == [102, 110]) = false) (e2 : (s.toList == [118, 97, 114]) = false) (e3 : (s.toList == [105, 102]) = false) (e4 : (s.toList == [101, 108, 115, 101]) = false) (e5 : (s.toList == [119, 104, 105, 108, 101]) = false) (e6 : (s.toList == [114, 101, 116, 117, 114, 110]) = false) (e7 : (s.toList == [112, 114, 105, 110, 116]) = false) (e8 : (s.toList == [116, 114, 117, 101]) = false) (e9 : (s.toList == [102, 97, 108, 115, 101]) = false) (e10 : (s.toList == [110, 105, 108]) = false) (e11 : (s.toList == [109, 97, 107, 101]) = false) (e12 : (s.toList == [105, 110, 116]) = false) (e13 : (s.toList == [98, 111, 111, 108]) = false) (e14 : (s.toList == [115, 116, 114]) = false) (e15 : (s.toList == [99, 111, 109, 112]) = false) : Calls prog 107 #[.string s] w fun e w' => e = .returned (.bool false) ∧ w = w' := by
 go_enter func107, ntmps107;go_wp2;go_ret;exact ⟨rfl, rfl⟩
theorem a61 (s : ByteArray) (w : World) : Calls prog 107 #[.string s] w fun e w' => e = .returned (.bool (I1 s.data.toList)) ∧ w = w' := by
 by_cases h0 : s.data.toList = [114, 101, 99]
 ·rw [Gf h0]; exact b6w w
 by_cases h1 : s.data.toList = [102, 110]
 ·rw [Gf h1]; exact b6v w
 by_cases h2 : s.data.toList = [118, 97, 114]
 ·rw [Gf h2]; exact b6u w
 by_cases h3 : s.data.toList = [105, 102]
 ·rw [Gf h3]; exact b6t w
 by_cases h4 : s.data.toList = [101, 108, 115, 101]
 ·rw [Gf h4]; exact b6s w
 by_cases h5 : s.data.toList = [119, 104, 105, 108, 101]
 ·rw [Gf h5]; exact b6r w
 by_cases h6 : s.data.toList = [114, 101, 116, 117, 114, 110]
 ·rw [Gf h6]; exact b6q w
 by_cases h7 : s.data.toList = [112, 114, 105, 110, 116]
 ·rw [Gf h7]; exact b6p w
 by_cases h8 : s.data.toList = [116, 114, 117, 101]
 ·rw [Gf h8]; exact b6o w
 by_cases h9 : s.data.toList = [102, 97, 108, 115, 101]
 ·rw [Gf h9]; exact b6n w
 by_cases h10 : s.data.toList = [110, 105, 108]
 ·rw [Gf h10]; exact b2g w
 by_cases h11 : s.data.toList = [109, 97, 107, 101]
 ·rw [Gf h11]; exact b2f w
 by_cases h12 : s.data.toList = [105, 110, 116]
 ·rw [Gf h12]; exact b2e w
 by_cases h13 : s.data.toList = [98, 111, 111, 108]
 ·rw [Gf h13]; exact b2d w
 by_cases h14 : s.data.toList = [115, 116, 114]
 ·rw [Gf h14]; exact b2c w
 by_cases h15 : s.data.toList = [99, 111, 109, 112]
 ·rw [Gf h15]; exact b2b w
 rw [show I1 s.data.toList = false by simp [I1, Vh, h0, h1, h2, h3, h4, h5, h6, h7, h8, h9, h10, h11, h12, h13, h14, h15]];exact a1l s w (Dy h0) (Dy h1) (Dy h2) (Dy h3) (Dy h4) (Dy h5) (Dy h6) (Dy h7) (Dy h8) (Dy h9) (Dy h10) (Dy h11) (Dy h12) (Dy h13) (Dy h14) (Dy h15)
theorem Vi (s : ByteArray) (b : Bool) (h : I1 s.data.toList = b) (w : World) : Calls prog 107 #[.string s] w fun e w' => e = .returned (.bool b) ∧ w = w' := h ▸ a61 s w
end
end
section
section
open Go.RowKit
def plc (a b : Nat) : List UInt8 → Nat × Nat
 | [] => (a, b)
 | c :: t => if c = 10 then plc (a + 1) 1 t else plc a (b + 1) t
end
end
section
open Go.RowKit
theorem U8 (s : ByteArray) (k : Nat) (h : k < s.size) : body (s.data.toList.take (k + 1)) = body (s.data.toList.take k) ++ esc s[k] := by
 rw [Er s k h, a58]
theorem a59 (s : ByteArray) (k : Nat) (h : k ≤ s.size) (hs : s.size ≤ 100000) : (body (s.data.toList.take k)).length ≤ 400000 := by
 have := Ta (s.data.toList.take k);rw [List.length_take, Ae] at this;omega
def c11 (s : ByteArray) (w : World) (a' : Act) (w' : World) : Prop :=
 ∃ k : Nat, (w' = w ∧ k ≤ s.size) ∧ ∃ u5 u6 u7 u8 u9 u10 u11 u12 u13 u14 u15 u16 u17 : Value, a' = { tmps := #[.string s, undef, .int .i64 0, .int .i64 ((body (s.data.toList.take k)).length + 2 : Nat), .int .i64 k, u5, u6, u7, u8, u9, u10, u11, u12, u13, u14, u15, u16, u17], defers := [] }
theorem Xp (s : ByteArray) (w : World) (hs : s.size ≤ 100000) : Calls prog 183 #[.string s] w fun e w' => e = .returned (.int .i64 ((lit s.data.toList).length : Nat)) ∧ w = w' := by
 go_enter func183, ntmps183;go_wp2;refine Ep 0 (c11 s w) (fun a' _ => s.size - (intOf (a'.tmps.getD 4 undef)).toNat) rfl ?_ ?_
 ·rintro a' w' ⟨k, ⟨rfl, hk⟩, u5, u6, u7, u8, u9, u10, u11, u12, u13, u14, u15, u16, u17, rfl⟩;have hz := a59 s k hk hs;by_cases hlt : k < s.size
  ·have HE := zz (fun w => V7 s[k] w);have h4 := (W5 s[k]).2.2.2.1;have HB := zz (show (body (s.data.toList.take (k + 1))).length + 2 = (body (s.data.toList.take k)).length + 2 + (esc s[k]).length by rw [U8 s k hlt]; simp; omega);obtain ⟨m, hm⟩ : ∃ m, (body (s.data.toList.take k)).length + 2 = m := ⟨_, rfl⟩;obtain ⟨p, hp⟩ : ∃ p, (esc s[k]).length = p := ⟨_, rfl⟩;have hm2 : m ≤ 400002 := by omega
   have hp2 : p ≤ 4 := by omega
   rw [hm] at HB;rw [hp] at HB HE;rw [hm];clear hm hp h4 hz;go_wp2_with fail;refine (HE.out _).mono ?_;rintro e w1 ⟨rfl, rfl⟩;go_wp2
   go_step3
   refine ⟨rfl, ⟨k + 1, ⟨rfl, hlt⟩, ?_⟩, ?_⟩
   ·rw [HB.out];exact ⟨_, _, _, _, _, _, _, _, _, _, _, _, _, rfl⟩
   ·simp [intOf];omega
  ·obtain rfl : k = s.size := by omega
   have HB := zz (show (((body (s.data.toList.take s.size)).length + 2 : Nat) : Int) = (lit s.data.toList).length by rw [List.take_of_length_le (by rw [Ae]; omega), Wv]);go_wp2;simp only [Exit.jump];go_ret;exact ⟨Fu HB.out, rfl⟩
 ·intro F;go_wp2
  go_step3
  rename_i hK;apply hK;exact F _ _ ⟨0, ⟨rfl, Nat.zero_le _⟩, _, _, _, _, _, _, _, _, _, _, _, _, _, rfl⟩
end
end Go.Proofs.YtoaplbljflhheaaGreat
