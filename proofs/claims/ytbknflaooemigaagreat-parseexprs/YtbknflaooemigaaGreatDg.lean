/-
 The document's reading as plain functions on a reader by value: what each makes, how far it goes, how many nodes it makes. No function of the program is spoken of. Conditions: as said.
-/
import Derived.Test.YtbknflaooemigaaGreatDf
namespace Go.Proofs.YtbknflaooemigaaGreat
set_option linter.unusedVariables false

abbrev Rs := List Nd × S
def ndS (k : Nat) (t : Tok) (text : List UInt8) (num : Int) (kids : List Nd) : List Nd := ⟨k, t.line, t.col, kids.length, num, bs text⟩ :: kids
theorem ndS_len (k : Nat) (t : Tok) (text : List UInt8) (num : Int) (kids : List Nd) : (ndS k t text num kids).length = kids.length + 1 := rfl
def nilNd : Nd := ⟨25, 0, 0, 0, 0, bs []⟩

def wInt : List UInt8 := [105, 110, 116]
def wBool : List UInt8 := [98, 111, 111, 108]
def wStr : List UInt8 := [115, 116, 114]
def wComp : List UInt8 := [99, 111, 109, 112]
def kindS (T : List Tok) : Nat → S → Rs
 | 0, s => ([], s)
 | n + 1, s =>
  if isS T s wInt = true then (ndS 15 (nowS T s) [] 0 [], mustS T s wInt) else if isS T s wBool = true then (ndS 16 (nowS T s) [] 0 [], mustS T s wBool)
  else if isS T s wStr = true then (ndS 17 (nowS T s) [] 0 [], mustS T s wStr) else if isS T s wComp = true then (ndS 18 (nowS T s) [] 0 [], mustS T s wComp)
  else if isS T s [91] = true then (ndS 20 (nowS T s) [] 0 (kindS T n (opensS T s [91])).1, shutsS T (kindS T n (opensS T s [91])).2 [93])
  else (ndS 19 (nowS T s) (nowS T s).text 0 [], wordS T s 2)

def commaS (T : List Tok) (j : Nat) (s : S) : S := if 0 < j then mustS T s [44] else s
def argsL (T : List Tok) (E : S → Rs) : Nat → Nat → List Nd → S → Rs
 | 0, _, all, s => (all, s)
 | m + 1, j, all, s => if s.c = 0 ∧ isS T s [41] = false then argsL T E m (j + 1) (all ++ (E (commaS T j s)).1) (E (commaS T j s)).2 else (all, s)
def argsS (T : List Tok) (E : S → Rs) (n : Nat) (s : S) : Rs := ((argsL T E n 0 [] (opensS T s [40])).1, shutsS T (argsL T E n 0 [] (opensS T s [40])).2 [41])

def oneS (T : List Tok) (s : S) : S := ⟨min (s.I + 1) (T.length - 1), s.d, s.c, s.l, s.k⟩
def wTrue : List UInt8 := [116, 114, 117, 101]
def wFalse : List UInt8 := [102, 97, 108, 115, 101]
def wNil : List UInt8 := [110, 105, 108]
def wMake : List UInt8 := [109, 97, 107, 101]
def atomS (T : List Tok) (E : S → Rs) (n : Nat) (s : S) : Rs :=
 if s.c ≠ 0 then ([nilNd], s)
 else if (nowS T s).kind = 3 then (ndS 21 (nowS T s) [] (nowS T s).num [], oneS T s)
 else if (nowS T s).kind = 4 then (ndS 22 (nowS T s) [] (nowS T s).num [], oneS T s)
 else if (nowS T s).kind = 5 then (ndS 23 (nowS T s) (nowS T s).text 0 [], oneS T s)
 else if isS T s wTrue = true then (ndS 24 (nowS T s) [] 1 [], oneS T s)
 else if isS T s wFalse = true then (ndS 24 (nowS T s) [] 0 [], oneS T s)
 else if isS T s wNil = true then (ndS 25 (nowS T s) [] 0 [], oneS T s)
 else if (nowS T s).kind = 1 ∧ isS T (oneS T s) [40] = false then (ndS 26 (nowS T s) (nowS T s).text 0 [], oneS T s)
 else if (nowS T s).kind = 1 then (ndS 27 (nowS T s) (nowS T s).text 0 (argsS T E n (oneS T s)).1, (argsS T E n (oneS T s)).2)
 else if isS T s [40] = true then ((E (opensS T s [40])).1, shutsS T (E (opensS T s [40])).2 [41])
 else if isS T s wMake = true ∧ isS T (oneS T s) [91] = true then
  (ndS 32 (nowS T s) [] 0 ((kindS T n (oneS T s)).1 ++ (E (opensS T (kindS T n (oneS T s)).2 [40])).1), shutsS T (E (opensS T (kindS T n (oneS T s)).2 [40])).2 [41])
 else if isS T s wMake = true then
  (ndS 32 (nowS T s) [] 0 (ndS 19 (nowS T (oneS T s)) (nowS T (oneS T s)).text 0 []), shutsS T (opensS T (wordS T (oneS T s) 2) [40]) [41])
 else ([nilNd], failS T s 5)

def postLS (T : List Tok) (E : S → Rs) : Nat → List Nd → S → Rs
 | 0, x, s => (x, s)
 | m + 1, x, s =>
  if isS T s [91] = true then postLS T E m (ndS 28 (nowS T s) [] 0 (x ++ (E (opensS T s [91])).1)) (shutsS T (E (opensS T s [91])).2 [93])
  else if isS T s [46] = true then postLS T E m (ndS 29 (nowS T s) (nowS T (mustS T s [46])).text 0 x) (wordS T (mustS T s [46]) 1)
  else (x, s)
def postS (T : List Tok) (E : S → Rs) (n : Nat) (s : S) : Rs := postLS T E n (atomS T E n s).1 (atomS T E n s).2
def unaryS (T : List Tok) (U P : S → Rs) (s : S) : Rs :=
 if isS T s [45] = true then (ndS 30 (nowS T s) [] 12 (U (opensS T s [45])).1, downS (U (opensS T s [45])).2)
 else if isS T s [33] = true then (ndS 30 (nowS T s) [] 13 (U (opensS T s [33])).1, downS (U (opensS T s [33])).2)
 else P s

def sg : Nat → List (List UInt8)
 | 1 => [[124, 124]]
 | 2 => [[38, 38]]
 | 3 => [[61, 61], [33, 61]]
 | 4 => [[60], [60, 61], [62], [62, 61]]
 | 5 => [[43], [45]]
 | _ => [[42], [47], [37]]
def anyIs (T : List Tok) (s : S) (l : List (List UInt8)) : Bool := l.any fun x => isS T s x
def stepS (T : List Tok) (E : S → Rs) (x : List Nd) (s : S) : Rs :=
 (ndS 31 (nowS T s) [] (opOf (nowS T s).text) (x ++ (E (mustS T s (nowS T s).text)).1), (E (mustS T s (nowS T s).text)).2)
def chainS (T : List Tok) (E : S → Rs) (l : List (List UInt8)) : Nat → List Nd → S → Rs
 | 0, x, s => (x, s)
 | m + 1, x, s => if anyIs T s l = true then chainS T E l m (stepS T E x s).1 (stepS T E x s).2 else (x, s)
def levS (T : List Tok) (n : Nat) (u : S → Rs) : Nat → S → Rs
 | 0, s => u s
 | j + 1, s => if 6 - j = 3 ∨ 6 - j = 4 then (if anyIs T (levS T n u j s).2 (sg (6 - j)) = true then stepS T (levS T n u j) (levS T n u j s).1 (levS T n u j s).2 else levS T n u j s)
  else chainS T (levS T n u j) (sg (6 - j)) n (levS T n u j s).1 (levS T n u j s).2
def euS (T : List Tok) : Nat → (S → Rs) × (S → Rs)
 | 0 => (fun s => ([], s), fun s => ([], s))
 | n + 1 => (levS T (n + 1) (unaryS T (euS T n).2 (postS T (euS T n).1 (n + 1))) 6, unaryS T (euS T n).2 (postS T (euS T n).1 (n + 1)))

/-! How far they go. -/
section
variable {T : List Tok} (hE : Ends T)
theorem last_end (hE : Ends T) {i : Nat} (hi : i < T.length) (hk : (hd (T.drop i)).kind ≠ 8) : i + 1 < T.length := by
 obtain ⟨a, e, rfl, he⟩ := hE
 rcases Nat.lt_or_ge i a.length with h | h
 ·simp; omega
 ·exfalso
  have : i = a.length := by simp at hi; omega
  subst this
  apply hk
  simp [hd, he]
theorem sees_ne {x : List UInt8} {t : Tok} (h : seesT x t = true) : t.kind ≠ 8 := by
 simp only [seesT, decide_eq_true_eq] at h
 omega
theorem is_c {s : S} {x : List UInt8} (h : isS T s x = true) : s.c = 0 ∧ seesT x (nowS T s) = true := by simpa [isS] using h
theorem must_f (hE : Ends T) {s : S} (hs : s.I < T.length) (x : List UInt8) : (mustS T s x).I < T.length ∧ s.I ≤ (mustS T s x).I ∧ (mustS T s x).d = s.d ∧ (s.c ≠ 0 → mustS T s x = s) ∧ ((mustS T s x).c = 0 → s.c = 0 ∧ (mustS T s x).I = s.I + 1 ∧ isS T s x = true) := by
 unfold mustS
 split
 ·rename_i h
  have h2 := is_c h
  refine ⟨last_end hE hs (sees_ne h2.2), Nat.le_succ _, rfl, fun hc => absurd h2.1 hc, fun _ => ⟨h2.1, rfl, h⟩⟩
 ·unfold failS
  split
  ·rename_i h0
   exact ⟨hs, Nat.le_refl _, rfl, fun hc => absurd h0 hc, fun h => absurd h (by simp)⟩
  ·rename_i h0
   exact ⟨hs, Nat.le_refl _, rfl, fun _ => rfl, fun h => absurd h h0⟩
theorem word_f (hE : Ends T) {s : S} (hs : s.I < T.length) (k : Nat) (hk : k ≠ 8) : (wordS T s k).I < T.length ∧ s.I ≤ (wordS T s k).I ∧ (wordS T s k).d = s.d ∧ (s.c ≠ 0 → wordS T s k = s) ∧ ((wordS T s k).c = 0 → s.c = 0 ∧ (wordS T s k).I = s.I + 1 ∧ (nowS T s).kind = k) := by
 unfold wordS
 split
 ·rename_i h
  refine ⟨last_end hE hs (by unfold nowS at h; omega), Nat.le_succ _, rfl, fun hc => absurd h.1 hc, fun _ => ⟨h.1, rfl, h.2⟩⟩
 ·unfold failS
  split
  ·rename_i h0
   exact ⟨hs, Nat.le_refl _, rfl, fun hc => absurd h0 hc, fun h => absurd h (by simp)⟩
  ·rename_i h0
   exact ⟨hs, Nat.le_refl _, rfl, fun _ => rfl, fun h => absurd h h0⟩
theorem opens_f (hE : Ends T) {s : S} (hs : s.I < T.length) (x : List UInt8) : (opensS T s x).I < T.length ∧ s.I ≤ (opensS T s x).I ∧ (s.c ≠ 0 → (opensS T s x).I = s.I ∧ (opensS T s x).c = s.c) ∧ ((opensS T s x).c = 0 → s.c = 0 ∧ (opensS T s x).I = s.I + 1 ∧ isS T s x = true) := by
 unfold opensS
 split
 ·rename_i h
  have h2 := is_c h.1
  rw [failS, if_pos h2.1]
  exact ⟨hs, Nat.le_refl _, fun hc => absurd h2.1 hc, fun h => absurd h (by simp)⟩
 ·obtain ⟨h1, h2, h3, h4, h5⟩ := must_f hE hs x
  exact ⟨h1, h2, fun hc => by rw [h4 hc]; exact ⟨rfl, rfl⟩, h5⟩
theorem shuts_f (hE : Ends T) {s : S} (hs : s.I < T.length) (x : List UInt8) : (shutsS T s x).I < T.length ∧ s.I ≤ (shutsS T s x).I ∧ (s.c ≠ 0 → (shutsS T s x).I = s.I ∧ (shutsS T s x).c = s.c) ∧ ((shutsS T s x).c = 0 → s.c = 0 ∧ (shutsS T s x).I = s.I + 1 ∧ isS T s x = true) := by
 unfold shutsS
 obtain ⟨h1, h2, h3, h4, h5⟩ := must_f hE hs x
 exact ⟨h1, h2, fun hc => by rw [h4 hc]; exact ⟨rfl, rfl⟩, h5⟩
/-- How far a part goes, how many nodes it makes: as many as tokens, or three more where it fails; what has failed stays where it is, with one node (or two). -/
def Bnd (T : List Tok) (s : S) (q : Rs) : Prop := s.I ≤ q.2.I ∧ q.2.I < T.length ∧ (s.c ≠ 0 → q.2.I = s.I ∧ q.2.c = s.c ∧ q.1.length ≤ 1) ∧ (q.2.c = 0 → s.c = 0 ∧ q.1.length + s.I ≤ q.2.I) ∧ q.1.length + s.I ≤ q.2.I + 3
def Fit (T : List Tok) (m : Nat) (s : S) : Prop := s.I < T.length ∧ 1 ≤ m ∧ (s.c = 0 → T.length ≤ s.I + m)
def Bd (T : List Tok) (m : Nat) (f : S → Rs) : Prop := ∀ s, Fit T m s → Bnd T s (f s)
end
end Go.Proofs.YtbknflaooemigaaGreat
