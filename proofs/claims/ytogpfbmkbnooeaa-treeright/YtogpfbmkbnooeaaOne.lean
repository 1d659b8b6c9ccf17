/-
  Contract of the document's One (what token a text begins with), but for numbers. Conditions: texts of at most 100000 bytes, a place within.
-/
import Derived.Test.YtogpfbmkbnooeaaRr
import Derived.Test.YtogpfbmkbnooeaaWrd
namespace Go.Proofs.Ytogpfbmkbnooeaa
open Go.RowKit Go.Sort
set_option linter.unusedVariables false

/-- A token as the program holds it. -/
abbrev tokV (k a b : Nat) (n : Int) (s : ByteArray) : Value := .agg #[.int .u8 k, .int .i64 a, .int .i64 b, .int .i64 n, .string s]
abbrev badV (e : Int) : Value := .tuple #[tokV 0 0 0 0 { data := #[] }, .int .i64 0, .int .i64 e]

/-- What the document answers of a token at a place. -/
def RetN (i : Nat) (o : One) (w : World) (e : Ending) (w' : World) : Prop :=
  ∃ k : Nat, e = .returned (.tuple #[tokV k 0 0 o.num (bs o.text), .int .i64 ((if o.err = 0 then i + o.size else 0 : Nat) : Nat), .int .i64 o.err]) ∧ (o.err = 0 → k = o.kind) ∧ Below w.heap.size w w'

theorem retN_ok {i k m : Nat} {n : Int} {t : List UInt8} {o : One} {w w' : World} (h : o = ⟨0, m, k, n, t⟩) {E : Nat} (hE : E = i + m) (hb : Below w.heap.size w w') : RetN i o w (.returned (.tuple #[tokV k 0 0 n (bs t), .int .i64 (E : Nat), .int .i64 0])) w' := by
  subst h hE
  exact ⟨k, rfl, fun _ => rfl, hb⟩
theorem retN_bad {i k : Nat} {e : Int} {o : One} {w w' : World} (h : o = bad e) (he : e ≠ 0) (hb : Below w.heap.size w w') : RetN i o w (.returned (.tuple #[tokV k 0 0 0 { data := #[] }, .int .i64 0, .int .i64 e])) w' := by
  subst h
  refine ⟨k, ?_, fun h => absurd h he, hb⟩
  have : (if (bad e).err = 0 then i + (bad e).size else 0) = 0 := if_neg he
  rw [this]; rfl

theorem kd3 (c : UInt8) : kdN c = 3 ↔ dgt c = true := by
  cases hd : dgt c with
  | true =>
    have h := hd
    unfold dgt at h
    rw [Bool.and_eq_true, decide_eq_true_eq, decide_eq_true_eq] at h
    have a3 : ¬ c = 95 := fun e => by rw [e] at h; exact absurd h.2 (by decide)
    have a1 : sml c = false := by simp [sml, a3]; omega
    have a2 : grt c = false := by simp [grt]; omega
    rw [kdN, a1, a2, hd]; simp
  | false =>
    unfold kdN
    rw [hd]
    cases sml c <;> cases grt c <;> simp

theorem drop_take_cons (s : ByteArray) (K j : Nat) (hj : j < K) (hK : K ≤ s.size) : (s.data.toList.take K).drop j = s[j] :: (s.data.toList.take K).drop (j + 1) := by
  rw [List.drop_take, List.drop_take, drop_cons s j (by omega), show K - j = (K - (j + 1)) + 1 by omega, List.take_succ_cons]

abbrev zTok : Obj := Obj.cells #[Value.int IntKind.u8 0, Value.int IntKind.i64 0, Value.int IntKind.i64 0, Value.int IntKind.i64 0, Value.string { data := #[] }] 58

theorem tokz {w W w1 : World} (hW : Below (w.heap.size + 1) (w.alloc zTok) W) (hb : Below W.heap.size W w1) : w1.cell? ⟨w.heap.size, 0, none⟩ = some (.int .u8 0) ∧ w1.cell? ⟨w.heap.size, 1, none⟩ = some (.int .i64 0) ∧ w1.cell? ⟨w.heap.size, 2, none⟩ = some (.int .i64 0) ∧
    w1.cell? ⟨w.heap.size, 3, none⟩ = some (.int .i64 0) ∧ w1.cell? ⟨w.heap.size, 4, none⟩ = some (.string { data := #[] }) ∧ ∀ o, w1.frozen? ⟨w.heap.size, o, none⟩ = false := by
  have hz : (w.alloc zTok).heap.size = w.heap.size + 1 := by simp
  have hs := hW.size
  have h : Below (w.alloc zTok).heap.size (w.alloc zTok) w1 := by rw [hz]; exact hW.trans (hb.mono (by omega))
  refine ⟨?_, ?_, ?_, ?_, ?_, fun o => ?_⟩
  · rw [(bcell h).1 _ _ (by omega)]; simp [go_sem]
  · rw [(bcell h).1 _ _ (by omega)]; simp [go_sem]
  · rw [(bcell h).1 _ _ (by omega)]; simp [go_sem]
  · rw [(bcell h).1 _ _ (by omega)]; simp [go_sem]
  · rw [(bcell h).1 _ _ (by omega)]; simp [go_sem]
  · rw [(bcell h).2 _ _ (by omega)]; simp [go_sem]

abbrev Kind1 (c : UInt8) (k : Nat) : Prop := ∀ w, Calls Try.prog 63 #[byt c] w fun e w' => e = .returned (.int .i64 (k : Nat)) ∧ w = w'
theorem kind_at {c : UInt8} {k : Nat} (h : kdN c = k) : Kind1 c k := fun w => h ▸ kind_any c w

theorem retN_okx {i k m : Nat} {n : Int} {X : ByteArray} {o : One} {w w' : World} (h : o = ⟨0, m, k, n, X.data.toList⟩) {E : Nat} (hE : E = i + m) (hb : Below w.heap.size w w') : RetN i o w (.returned (.tuple #[tokV k 0 0 n X, .int .i64 (E : Nat), .int .i64 0])) w' := by
  have := retN_ok h hE hb
  rwa [bs_eta] at this

theorem tokc {w' w1 : World} {b : Nat} {v0 v1 v2 v3 v4 : Value} (hb : w'.heap.size = b) (h : Below (w'.alloc (Obj.cells #[v0, v1, v2, v3, v4] 58)).heap.size (w'.alloc (Obj.cells #[v0, v1, v2, v3, v4] 58)) w1) : w1.cell? ⟨b, 0, none⟩ = some v0 ∧ w1.cell? ⟨b, 1, none⟩ = some v1 ∧ w1.cell? ⟨b, 2, none⟩ = some v2 ∧
    w1.cell? ⟨b, 3, none⟩ = some v3 ∧ w1.cell? ⟨b, 4, none⟩ = some v4 ∧ ∀ o, w1.frozen? ⟨b, o, none⟩ = false := by
  subst hb
  refine ⟨?_, ?_, ?_, ?_, ?_, fun o => ?_⟩
  · rw [(bcell h).1 _ _ (by simp)]; simp [go_sem]
  · rw [(bcell h).1 _ _ (by simp)]; simp [go_sem]
  · rw [(bcell h).1 _ _ (by simp)]; simp [go_sem]
  · rw [(bcell h).1 _ _ (by simp)]; simp [go_sem]
  · rw [(bcell h).1 _ _ (by simp)]; simp [go_sem]
  · rw [(bcell h).2 _ _ (by simp)]; simp [go_sem]

set_option maxHeartbeats 1000000 in
set_option maxRecDepth 100000 in
theorem rone_great (s X : ByteArray) (w : World) (hs : s.size ≤ 100000) (i K : Nat) (hi : i < s.size) (hiK : i ≤ K) (hK : K ≤ s.size) (hX : s.extract i K = X) (o : One) (H21 : Hid (Kind1 s[i] 2)) (HI : Hid (∀ w, Calls Try.prog 64 #[.string s, .int .i64 (i : Nat)] w fun e w' => e = .returned (.int .i64 (K : Nat)) ∧ w = w'))
    (ho : Hid (o = ⟨0, K - i, 2, 0, X.data.toList⟩)) : Calls Try.prog 56 #[.string s, .int .i64 (i : Nat)] w (RetN i o w) := by
  go_enter Try.func56, Try.ntmps56
  go_wp2_with fail
  refine (H21.out _).mono ?_
  rintro _ w' ⟨rfl, rfl⟩
  go_wp2_with fail
  refine (HI.out _).mono ?_
  rintro _ w' ⟨rfl, rfl⟩
  go_wp2_with fail
  refine (H21.out _).mono ?_
  rintro _ w' ⟨rfl, rfl⟩
  go_wp2
  refine bodyPost_ret (v := .tuple #[tokV 2 0 0 0 X, .int .i64 (K : Nat), .int .i64 0]) (by simp [results, Try.results56, go_sem]) rfl ?_
  exact retN_okx ho.out (by omega) (by go_grown)

set_option maxHeartbeats 1000000 in
set_option maxRecDepth 100000 in
theorem rone_small_true (s X : ByteArray) (w : World) (hs : s.size ≤ 100000) (i K : Nat) (hi : i < s.size) (hiK : i ≤ K) (hK : K ≤ s.size) (hX : s.extract i K = X) (o : One) (H21 : Hid (Kind1 s[i] 1)) (HI : Hid (∀ w, Calls Try.prog 64 #[.string s, .int .i64 (i : Nat)] w fun e w' => e = .returned (.int .i64 (K : Nat)) ∧ w = w'))
    (HW : Hid (∀ w, Calls Try.prog 65 #[.string X] w fun e w' => e = .returned (.bool true) ∧ Below w.heap.size w w'))
    (ho : Hid (o = ⟨0, K - i, 6, 0, X.data.toList⟩)) : Calls Try.prog 56 #[.string s, .int .i64 (i : Nat)] w (RetN i o w) := by
  go_enter Try.func56, Try.ntmps56
  go_wp2_with fail
  refine (H21.out _).mono ?_
  rintro _ w' ⟨rfl, rfl⟩
  go_wp2_with fail
  refine (HI.out _).mono ?_
  rintro _ w' ⟨rfl, rfl⟩
  go_wp2_with fail
  refine (H21.out _).mono ?_
  rintro _ w' ⟨rfl, rfl⟩
  go_wp2_with fail
  refine (HW.out _).mono ?_
  rintro _ w1 ⟨rfl, hb⟩
  obtain ⟨z0, z1, z2, z3, z4, z5⟩ := tokz (by go_grown) hb
  obtain ⟨y0, y1, y2, y3, y4, y5⟩ := tokc (b := w.heap.size + 1) (by simp) hb
  have hz := hb.size
  simp only [World.size_alloc] at hz
  have hb' := (by go_grown : Below w.heap.size w _).trans (hb.mono (by simp; omega))
  clear hb
  replace hb' := Lib.hid hb'
  go_wp2
  refine bodyPost_ret (v := .tuple #[tokV 6 0 0 0 X, .int .i64 (K : Nat), .int .i64 0]) (by simp [results, Try.results56, go_sem, z0, z1, z2, z3, z4]) rfl ?_
  replace hb' := hb'.out
  exact retN_okx ho.out (by omega) (by go_grown)

set_option maxHeartbeats 1000000 in
set_option maxRecDepth 100000 in
theorem rone_small_false (s X : ByteArray) (w : World) (hs : s.size ≤ 100000) (i K : Nat) (hi : i < s.size) (hiK : i ≤ K) (hK : K ≤ s.size) (hX : s.extract i K = X) (o : One) (H21 : Hid (Kind1 s[i] 1)) (HI : Hid (∀ w, Calls Try.prog 64 #[.string s, .int .i64 (i : Nat)] w fun e w' => e = .returned (.int .i64 (K : Nat)) ∧ w = w'))
    (HW : Hid (∀ w, Calls Try.prog 65 #[.string X] w fun e w' => e = .returned (.bool false) ∧ Below w.heap.size w w'))
    (ho : Hid (o = ⟨0, K - i, 1, 0, X.data.toList⟩)) : Calls Try.prog 56 #[.string s, .int .i64 (i : Nat)] w (RetN i o w) := by
  go_enter Try.func56, Try.ntmps56
  go_wp2_with fail
  refine (H21.out _).mono ?_
  rintro _ w' ⟨rfl, rfl⟩
  go_wp2_with fail
  refine (HI.out _).mono ?_
  rintro _ w' ⟨rfl, rfl⟩
  go_wp2_with fail
  refine (H21.out _).mono ?_
  rintro _ w' ⟨rfl, rfl⟩
  go_wp2_with fail
  refine (HW.out _).mono ?_
  rintro _ w1 ⟨rfl, hb⟩
  obtain ⟨z0, z1, z2, z3, z4, z5⟩ := tokz (by go_grown) hb
  obtain ⟨y0, y1, y2, y3, y4, y5⟩ := tokc (b := w.heap.size + 1) (by simp) hb
  have hz := hb.size
  simp only [World.size_alloc] at hz
  have hb' := (by go_grown : Below w.heap.size w _).trans (hb.mono (by simp; omega))
  clear hb
  replace hb' := Lib.hid hb'
  go_wp2
  refine bodyPost_ret (v := .tuple #[tokV 1 0 0 0 X, .int .i64 (K : Nat), .int .i64 0]) (by simp [results, Try.results56, go_sem, z0, z1, z2, z3, z4]) rfl ?_
  replace hb' := hb'.out
  exact retN_okx ho.out (by omega) (by go_grown)

set_option maxHeartbeats 1000000 in
set_option maxRecDepth 100000 in
theorem rone_lit_true (s X T : ByteArray) (w : World) (hs : s.size ≤ 100000) (i m E : Nat) (hm : m ≤ 200000) (hi : i < s.size) (hX : s.extract i s.size = X) (o : One) (e34 : ((s[i].toNat : Int) == 34) = true) (H21 : Hid (Kind1 s[i] 0))
    (HR : Hid (∀ w, Calls Try.prog 67 #[.string X] w fun e w' => e = .returned (.tuple #[.string T, .int .i64 (m : Nat), .bool true]) ∧ Below w.heap.size w w'))
    (ho : Hid (o = ⟨0, m, 5, 0, T.data.toList⟩)) (hE : ((i : Int) + m) = E) : Calls Try.prog 56 #[.string s, .int .i64 (i : Nat)] w (RetN i o w) := by
  go_enter Try.func56, Try.ntmps56
  go_wp2_with fail
  refine (H21.out _).mono ?_
  rintro _ w' ⟨rfl, rfl⟩
  go_wp2_with fail
  refine (HR.out _).mono ?_
  rintro _ w1 ⟨rfl, hb⟩
  obtain ⟨hc, hf⟩ := bcell hb
  have hz := hb.size
  simp only [World.size_alloc] at hc hf hz
  go_wp2
  refine bodyPost_ret (v := .tuple #[tokV 5 0 0 0 T, .int .i64 (E : Nat), .int .i64 0]) (by simp [results, Try.results56, go_sem, hc]) rfl ?_
  have hb' := (by go_grown : Below w.heap.size w _).trans (hb.mono (by simp))
  exact retN_okx ho.out (by omega) (by go_grown)

set_option maxHeartbeats 1000000 in
set_option maxRecDepth 100000 in
theorem rone_lit_false (s X T : ByteArray) (w : World) (hs : s.size ≤ 100000) (i m E : Nat) (hm : m ≤ 200000) (hi : i < s.size) (hX : s.extract i s.size = X) (o : One) (e34 : ((s[i].toNat : Int) == 34) = true) (H21 : Hid (Kind1 s[i] 0))
    (HR : Hid (∀ w, Calls Try.prog 67 #[.string X] w fun e w' => e = .returned (.tuple #[.string T, .int .i64 (m : Nat), .bool false]) ∧ Below w.heap.size w w'))
    (ho : Hid (o = bad 4)) : Calls Try.prog 56 #[.string s, .int .i64 (i : Nat)] w (RetN i o w) := by
  go_enter Try.func56, Try.ntmps56
  go_wp2_with fail
  refine (H21.out _).mono ?_
  rintro _ w' ⟨rfl, rfl⟩
  go_wp2_with fail
  refine (HR.out _).mono ?_
  rintro _ w1 ⟨rfl, hb⟩
  obtain ⟨hc, hf⟩ := bcell hb
  have hz := hb.size
  simp only [World.size_alloc] at hc hf hz
  go_wp2
  refine bodyPost_ret (v := badV 4) (by simp [results, Try.results56, go_sem, hc]) rfl ?_
  have hb' := (by go_grown : Below w.heap.size w _).trans (hb.mono (by simp))
  exact retN_bad ho.out (by decide) (by go_grown)

theorem scells (w : World) (k : Nat) (h : k < 6) : (w.alloc (Obj.cells #[Value.string { data := #[38, 38] }, Value.string { data := #[124, 124] }, Value.string { data := #[61, 61] }, Value.string { data := #[33, 61] }, Value.string { data := #[60, 61] }, Value.string { data := #[62, 61] }] 9)).cell? ⟨w.heap.size, k, none⟩ = some (.string (bs (twos[k]'h))) := by
  have e : (w.alloc (Obj.cells #[Value.string { data := #[38, 38] }, Value.string { data := #[124, 124] }, Value.string { data := #[61, 61] }, Value.string { data := #[33, 61] }, Value.string { data := #[60, 61] }, Value.string { data := #[62, 61] }] 9)).cell? ⟨w.heap.size, k, none⟩ = (#[Value.string { data := #[38, 38] }, Value.string { data := #[124, 124] }, Value.string { data := #[61, 61] }, Value.string { data := #[33, 61] }, Value.string { data := #[60, 61] }, Value.string { data := #[62, 61] }] : Array Value)[k]? := by simp [go_sem]
  rw [e]
  match k, h with
  | 0, _ => rfl
  | 1, _ => rfl
  | 2, _ => rfl
  | 3, _ => rfl
  | 4, _ => rfl
  | 5, _ => rfl
  | n + 6, h => omega

abbrev ZT (w W : World) : Prop := W.cell? ⟨w.heap.size, 0, none⟩ = some (.int .u8 0) ∧ W.cell? ⟨w.heap.size, 1, none⟩ = some (.int .i64 0) ∧ W.cell? ⟨w.heap.size, 2, none⟩ = some (.int .i64 0) ∧
    W.cell? ⟨w.heap.size, 3, none⟩ = some (.int .i64 0) ∧ W.cell? ⟨w.heap.size, 4, none⟩ = some (.string { data := #[] }) ∧ ∀ o, W.frozen? ⟨w.heap.size, o, none⟩ = false
theorem hzz {w : World} (W : World) (h : ZT w W) : ∀ W', Below W.heap.size W W' → ZT w W' := fun W' hb =>
  ⟨cell_carry hb h.1, cell_carry hb h.2.1, cell_carry hb h.2.2.1, cell_carry hb h.2.2.2.1, cell_carry hb h.2.2.2.2.1, fun o => froz_carry hb h.1 (h.2.2.2.2.2 o)⟩

theorem bads (k : Nat) (h : k < 19) : (({ data := #[43, 45, 42, 47, 37, 60, 62, 33, 61, 40, 41, 123, 125, 91, 93, 44, 59, 58, 46] } : ByteArray)[k]'h) = ones[k]'h := by
  match k, h with
  | 0, _ => rfl
  | 1, _ => rfl
  | 2, _ => rfl
  | 3, _ => rfl
  | 4, _ => rfl
  | 5, _ => rfl
  | 6, _ => rfl
  | 7, _ => rfl
  | 8, _ => rfl
  | 9, _ => rfl
  | 10, _ => rfl
  | 11, _ => rfl
  | 12, _ => rfl
  | 13, _ => rfl
  | 14, _ => rfl
  | 15, _ => rfl
  | 16, _ => rfl
  | 17, _ => rfl
  | 18, _ => rfl
  | n + 19, h => omega

set_option maxHeartbeats 4000000 in
set_option maxRecDepth 100000 in
theorem rone_sign_y (s : ByteArray) (w : World) (hs : s.size ≤ 100000) (i : Nat) (hi : i < s.size) (o : One) (X : ByteArray) (h2 : i + 2 ≤ s.size) (hX : s.extract i (i + 2) = X) (hXl : X.data.toList = (s.data.toList.drop i).take 2) (htwo : (s.data.toList.drop i).take 2 ∈ twos → o = ⟨0, 2, 7, 0, (s.data.toList.drop i).take 2⟩)
    (e34 : ((s[i].toNat : Int) == 34) = false) (H21 : Hid (Kind1 s[i] 0))
    (hone : ¬ (s.data.toList.drop i).take 2 ∈ twos → s[i] ∈ ones → o = ⟨0, 1, 7, 0, [s[i]]⟩) (hend : ¬ (s.data.toList.drop i).take 2 ∈ twos → ¬ s[i] ∈ ones → o = bad 4) :
    Calls Try.prog 56 #[.string s, .int .i64 (i : Nat)] w (RetN i o w) := by
  have hb0 := Lib.hid ((below_alloc w zTok).trans ((below_alloc (w.alloc zTok) (Obj.cells #[Value.string { data := #[38, 38] }, Value.string { data := #[124, 124] }, Value.string { data := #[61, 61] }, Value.string { data := #[33, 61] }, Value.string { data := #[60, 61] }, Value.string { data := #[62, 61] }] 9)).mono (by simp)))
  have hc0 := Lib.hid (scells (w.alloc zTok))
  have hz0 := tokz (w := w) (W := (w.alloc zTok).alloc (Obj.cells #[Value.string { data := #[38, 38] }, Value.string { data := #[124, 124] }, Value.string { data := #[61, 61] }, Value.string { data := #[33, 61] }, Value.string { data := #[60, 61] }, Value.string { data := #[62, 61] }] 9)) ((below_alloc (w.alloc zTok) (Obj.cells #[Value.string { data := #[38, 38] }, Value.string { data := #[124, 124] }, Value.string { data := #[61, 61] }, Value.string { data := #[33, 61] }, Value.string { data := #[60, 61] }, Value.string { data := #[62, 61] }] 9)).mono (by simp)) (Below.refl _ _)
  have hsz : ((w.alloc zTok).alloc (Obj.cells #[Value.string { data := #[38, 38] }, Value.string { data := #[124, 124] }, Value.string { data := #[61, 61] }, Value.string { data := #[33, 61] }, Value.string { data := #[60, 61] }, Value.string { data := #[62, 61] }] 9)).heap.size = w.heap.size + 1 + 1 := by simp
  go_enter Try.func56, Try.ntmps56
  go_wp2_with fail
  refine (H21.out _).mono ?_
  rintro _ w' ⟨rfl, rfl⟩
  go_wp2
  obtain ⟨W, hW⟩ : ∃ W, W = (w.alloc zTok).alloc (Obj.cells #[Value.string { data := #[38, 38] }, Value.string { data := #[124, 124] }, Value.string { data := #[61, 61] }, Value.string { data := #[33, 61] }, Value.string { data := #[60, 61] }, Value.string { data := #[62, 61] }] 9) := ⟨_, rfl⟩
  rw [← hW]
  rw [← hW] at hb0 hc0 hz0 hsz
  rw [show (w.alloc zTok).heap.size = w.heap.size + 1 by simp] at hc0
  have hzW := Lib.hid (hzz W hz0)
  clear hW hz0
  go_loopw [74] (fun v wq => ∃ j : Nat, j ≤ 6 ∧ v = .int .i64 (j : Nat) ∧ (∀ m, m < j → twos[m]? ≠ some ((s.data.toList.drop i).take 2)) ∧ Below W.heap.size W wq) (fun v _ => 6 - (intOf v).toNat)
  case atStart => exact ⟨0, Nat.zero_le _, rfl, by simp, Below.refl _ _⟩
  case round =>
    obtain ⟨j, hj, rfl, hno, hbW⟩ := hrel
    obtain ⟨z0, z1, z2, z3, z4, z5⟩ := hzW.out _ hbW
    have hb1 := Lib.hid (below_step hb0.out hbW)
    have hcw := hbW
    replace hbW := Lib.hid hbW
    by_cases hl : j < 6
    case neg =>
      have hnt : ¬ (s.data.toList.drop i).take 2 ∈ twos := fun hm => by
        obtain ⟨m, hm1, hm2⟩ := List.getElem_of_mem hm
        have hm3 : m < 6 := hm1
        exact hno m (by omega) (by rw [List.getElem?_eq_getElem hm1, hm2])
      replace hone := hone hnt
      replace hend := hend hnt
      clear htwo hnt
      have hl2 : ¬ (j : Int) < 6 := by omega
      clear hno hb1 hcw
      go_wp2
      obtain ⟨T, hT⟩ : ∃ T : ByteArray, T = { data := #[43, 45, 42, 47, 37, 60, 62, 33, 61, 40, 41, 123, 125, 91, 93, 44, 59, 58, 46] } := ⟨_, rfl⟩
      have hT1 : T.size = 19 := by rw [hT]; rfl
      have hT2 := Lib.hid (show ∀ k (h : k < T.size), T[k] = ones[k]'(by rw [hT1] at h; exact h) from by subst hT; exact fun k h => bads k h)
      rw [← hT]
      clear hT
      go_loopw [15] (fun v wq => ∃ j : Nat, j ≤ 19 ∧ v = .int .i64 (j : Nat) ∧ (∀ m, m < j → ones[m]? ≠ some s[i]) ∧ Below W.heap.size W wq) (fun v _ => 19 - (intOf v).toNat)
      case atStart => exact ⟨0, Nat.zero_le _, rfl, by simp, hbW.out⟩
      case round =>
        clear hbW z0 z1 z2 z3 z4 z5
        obtain ⟨j, hj, rfl, hno, hbW⟩ := hrel
        obtain ⟨z0, z1, z2, z3, z4, z5⟩ := hzW.out _ hbW
        have hb1 := Lib.hid (below_step hb0.out hbW)
        replace hbW := Lib.hid hbW
        by_cases hl : j < 19
        case neg =>
          have ho := Lib.hid (hend (fun hm => by
            obtain ⟨m, hm1, hm2⟩ := List.getElem_of_mem hm
            have hm3 : m < 19 := hm1
            exact hno m (by omega) (by rw [List.getElem?_eq_getElem hm1, hm2])))
          have hl2 : ¬ (j : Int) < T.size := by omega
          clear hno hend hone
          go_wp2
          refine bodyPost_ret (v := badV 4) (by simp [results, Try.results56, go_sem, z0, z1, z2, z3, z4]) rfl ?_
          replace hb1 := hb1.out
          exact retN_bad ho.out (by decide) (by go_grown)
        have hl2 : (j : Int) < T.size := by omega
        have hl3 : j < T.size := by omega
        have hTj := hT2.out j hl3
        by_cases heq : s[i] = ones[j]'hl
        · have e1 : ((s[i].toNat : Int) == (T[j].toNat : Int)) = true := by rw [hTj, heq]; simp
          have hx : T.extract j (j + 1) = bs [s[i]] := by
            apply bytes_eq
            rw [ext_list, bs_list, drop_cons T j hl3, hTj, heq]; simp
          obtain ⟨Y, hY⟩ : ∃ Y, T.extract j (j + 1) = Y := ⟨_, rfl⟩
          have ho := Lib.hid (show o = ⟨0, 1, 7, 0, Y.data.toList⟩ by rw [hone (by rw [heq]; exact List.getElem_mem _), ← hY, hx, bs_list])
          obtain ⟨j1, hj1⟩ : ∃ j1, j + 1 = j1 := ⟨_, rfl⟩
          rw [hj1] at hY
          have hj2 : (j : Int) + 1 = j1 := by omega
          have hj3 : j1 ≤ T.size := by omega
          have hj4 : j ≤ j1 := by omega
          obtain ⟨i1, hi1⟩ : ∃ i1, i + 1 = i1 := ⟨_, rfl⟩
          have hi2 : (i : Int) + 1 = i1 := by omega
          clear hno hend hone heq hTj hx hj1
          go_wp2_with fail
          go_quiet (fail)
          have hb2 := Lib.hid (below_step hb1.out (below_drewN _ nq))
          go_wp2
          refine bodyPost_ret (v := .tuple #[tokV 7 0 0 0 Y, .int .i64 (i1 : Nat), .int .i64 0]) (by simp [results, Try.results56, go_sem, z0, z1, z2, z3, z4]) rfl ?_
          replace hb2 := hb2.out
          exact retN_okx ho.out (by omega) (by go_grown)
        · have e1 : ((s[i].toNat : Int) == (T[j].toNat : Int)) = false := by
            rw [hTj, beq_eq_false_iff_ne]; intro h; exact heq (UInt8.toNat_inj.1 (by omega))
          have hno2 := Lib.hid (show ∀ m, m < j + 1 → ones[m]? ≠ some s[i] from fun m hm => by
            by_cases hmj : m = j
            · subst hmj; rw [List.getElem?_eq_getElem hl]; simpa using fun e => heq e.symm
            · exact hno m (by omega))
          clear hno hend hone heq hTj
          go_wp2_with fail
          go_quiet (fail)
          have hb2 := Lib.hid (below_step hbW.out (below_drewN _ nq))
          go_wp2
          go_roundw
          case rel => exact ⟨j + 1, hl, by go_num, hno2.out, hb2.out⟩
          case measure => simp [intOf]; omega
    have hcell := cell_carry hcw (hc0.out j hl)
    clear hcw
    have h2i : (i : Int) + 2 ≤ s.size := by omega
    obtain ⟨i2, hi2⟩ : ∃ i2, i + 2 = i2 := ⟨_, rfl⟩
    rw [hi2] at hX h2
    have hi3 : (i : Int) + 2 = i2 := by omega
    have hi4 : i ≤ i2 := by omega
    have hi5 : (i2 : Int) ≤ s.size := by omega
    by_cases heq : (s.data.toList.drop i).take 2 = twos[j]'hl
    · have e1 : (X.toList == (bs (twos[j]'hl)).toList) = true := by rw [ByteArray.toList_eq, ByteArray.toList_eq, bs_list, hXl, heq]; simp
      have ho := Lib.hid (show o = ⟨0, 2, 7, 0, (bs (twos[j]'hl)).data.toList⟩ by rw [htwo (by rw [heq]; exact List.getElem_mem _), heq, bs_list])
      generalize bs (twos[j]'hl) = x at hcell e1 ho
      clear hno hend hone heq htwo hXl h2i
      go_wp2_with fail
      go_quiet (fail)
      have hb2 := Lib.hid (below_step hb1.out (below_drewN _ nq))
      go_wp2
      refine bodyPost_ret (v := .tuple #[tokV 7 0 0 0 x, .int .i64 (i2 : Nat), .int .i64 0]) (by simp [results, Try.results56, go_sem, z0, z1, z2, z3, z4]) rfl ?_
      replace hb2 := hb2.out
      exact retN_okx ho.out (by omega) (by go_grown)
    · have e1 : (X.toList == (bs (twos[j]'hl)).toList) = false := by rw [ByteArray.toList_eq, ByteArray.toList_eq, bs_list, hXl]; simpa using heq
      have hno2 := Lib.hid (show ∀ m, m < j + 1 → twos[m]? ≠ some ((s.data.toList.drop i).take 2) from fun m hm => by
        by_cases hmj : m = j
        · subst hmj; rw [List.getElem?_eq_getElem hl]; simpa using fun e => heq e.symm
        · exact hno m (by omega))
      generalize bs (twos[j]'hl) = x at hcell e1
      clear hno hend hone heq htwo hXl h2i
      go_wp2_with fail
      go_quiet (fail)
      have hb2 := Lib.hid (below_step hbW.out (below_drewN _ nq))
      go_wp2
      go_roundw
      case rel => exact ⟨j + 1, hl, by go_num, hno2.out, hb2.out⟩
      case measure => simp [intOf]; omega

set_option maxHeartbeats 4000000 in
set_option maxRecDepth 100000 in
theorem rone_sign_n (s : ByteArray) (w : World) (hs : s.size ≤ 100000) (i : Nat) (hi : i < s.size) (o : One) (h2 : ¬ i + 2 ≤ s.size)
    (e34 : ((s[i].toNat : Int) == 34) = false) (H21 : Hid (Kind1 s[i] 0))
    (hone : s[i] ∈ ones → o = ⟨0, 1, 7, 0, [s[i]]⟩) (hend : ¬ s[i] ∈ ones → o = bad 4) :
    Calls Try.prog 56 #[.string s, .int .i64 (i : Nat)] w (RetN i o w) := by
  have hb0 := Lib.hid ((below_alloc w zTok).trans ((below_alloc (w.alloc zTok) (Obj.cells #[Value.string { data := #[38, 38] }, Value.string { data := #[124, 124] }, Value.string { data := #[61, 61] }, Value.string { data := #[33, 61] }, Value.string { data := #[60, 61] }, Value.string { data := #[62, 61] }] 9)).mono (by simp)))
  have hc0 := Lib.hid (scells (w.alloc zTok))
  have hz0 := tokz (w := w) (W := (w.alloc zTok).alloc (Obj.cells #[Value.string { data := #[38, 38] }, Value.string { data := #[124, 124] }, Value.string { data := #[61, 61] }, Value.string { data := #[33, 61] }, Value.string { data := #[60, 61] }, Value.string { data := #[62, 61] }] 9)) ((below_alloc (w.alloc zTok) (Obj.cells #[Value.string { data := #[38, 38] }, Value.string { data := #[124, 124] }, Value.string { data := #[61, 61] }, Value.string { data := #[33, 61] }, Value.string { data := #[60, 61] }, Value.string { data := #[62, 61] }] 9)).mono (by simp)) (Below.refl _ _)
  have hsz : ((w.alloc zTok).alloc (Obj.cells #[Value.string { data := #[38, 38] }, Value.string { data := #[124, 124] }, Value.string { data := #[61, 61] }, Value.string { data := #[33, 61] }, Value.string { data := #[60, 61] }, Value.string { data := #[62, 61] }] 9)).heap.size = w.heap.size + 1 + 1 := by simp
  go_enter Try.func56, Try.ntmps56
  go_wp2_with fail
  refine (H21.out _).mono ?_
  rintro _ w' ⟨rfl, rfl⟩
  go_wp2
  obtain ⟨W, hW⟩ : ∃ W, W = (w.alloc zTok).alloc (Obj.cells #[Value.string { data := #[38, 38] }, Value.string { data := #[124, 124] }, Value.string { data := #[61, 61] }, Value.string { data := #[33, 61] }, Value.string { data := #[60, 61] }, Value.string { data := #[62, 61] }] 9) := ⟨_, rfl⟩
  rw [← hW]
  rw [← hW] at hb0 hc0 hz0 hsz
  rw [show (w.alloc zTok).heap.size = w.heap.size + 1 by simp] at hc0
  have hzW := Lib.hid (hzz W hz0)
  clear hW hz0
  go_loopw [74] (fun v wq => ∃ j : Nat, j ≤ 6 ∧ v = .int .i64 (j : Nat) ∧ (∀ m, m < j → twos[m]? ≠ some ((s.data.toList.drop i).take 2)) ∧ Below W.heap.size W wq) (fun v _ => 6 - (intOf v).toNat)
  case atStart => exact ⟨0, Nat.zero_le _, rfl, by simp, Below.refl _ _⟩
  case round =>
    obtain ⟨j, hj, rfl, hno, hbW⟩ := hrel
    obtain ⟨z0, z1, z2, z3, z4, z5⟩ := hzW.out _ hbW
    have hb1 := Lib.hid (below_step hb0.out hbW)
    have hcw := hbW
    replace hbW := Lib.hid hbW
    by_cases hl : j < 6
    case neg =>
      have hl2 : ¬ (j : Int) < 6 := by omega
      clear hno hb1 hcw
      go_wp2
      obtain ⟨T, hT⟩ : ∃ T : ByteArray, T = { data := #[43, 45, 42, 47, 37, 60, 62, 33, 61, 40, 41, 123, 125, 91, 93, 44, 59, 58, 46] } := ⟨_, rfl⟩
      have hT1 : T.size = 19 := by rw [hT]; rfl
      have hT2 := Lib.hid (show ∀ k (h : k < T.size), T[k] = ones[k]'(by rw [hT1] at h; exact h) from by subst hT; exact fun k h => bads k h)
      rw [← hT]
      clear hT
      go_loopw [15] (fun v wq => ∃ j : Nat, j ≤ 19 ∧ v = .int .i64 (j : Nat) ∧ (∀ m, m < j → ones[m]? ≠ some s[i]) ∧ Below W.heap.size W wq) (fun v _ => 19 - (intOf v).toNat)
      case atStart => exact ⟨0, Nat.zero_le _, rfl, by simp, hbW.out⟩
      case round =>
        clear hbW z0 z1 z2 z3 z4 z5
        obtain ⟨j, hj, rfl, hno, hbW⟩ := hrel
        obtain ⟨z0, z1, z2, z3, z4, z5⟩ := hzW.out _ hbW
        have hb1 := Lib.hid (below_step hb0.out hbW)
        replace hbW := Lib.hid hbW
        by_cases hl : j < 19
        case neg =>
          have ho := Lib.hid (hend (fun hm => by
            obtain ⟨m, hm1, hm2⟩ := List.getElem_of_mem hm
            have hm3 : m < 19 := hm1
            exact hno m (by omega) (by rw [List.getElem?_eq_getElem hm1, hm2])))
          have hl2 : ¬ (j : Int) < T.size := by omega
          clear hno hend hone
          go_wp2
          refine bodyPost_ret (v := badV 4) (by simp [results, Try.results56, go_sem, z0, z1, z2, z3, z4]) rfl ?_
          replace hb1 := hb1.out
          exact retN_bad ho.out (by decide) (by go_grown)
        have hl2 : (j : Int) < T.size := by omega
        have hl3 : j < T.size := by omega
        have hTj := hT2.out j hl3
        by_cases heq : s[i] = ones[j]'hl
        · have e1 : ((s[i].toNat : Int) == (T[j].toNat : Int)) = true := by rw [hTj, heq]; simp
          have hx : T.extract j (j + 1) = bs [s[i]] := by
            apply bytes_eq
            rw [ext_list, bs_list, drop_cons T j hl3, hTj, heq]; simp
          obtain ⟨Y, hY⟩ : ∃ Y, T.extract j (j + 1) = Y := ⟨_, rfl⟩
          have ho := Lib.hid (show o = ⟨0, 1, 7, 0, Y.data.toList⟩ by rw [hone (by rw [heq]; exact List.getElem_mem _), ← hY, hx, bs_list])
          obtain ⟨j1, hj1⟩ : ∃ j1, j + 1 = j1 := ⟨_, rfl⟩
          rw [hj1] at hY
          have hj2 : (j : Int) + 1 = j1 := by omega
          have hj3 : j1 ≤ T.size := by omega
          have hj4 : j ≤ j1 := by omega
          obtain ⟨i1, hi1⟩ : ∃ i1, i + 1 = i1 := ⟨_, rfl⟩
          have hi2 : (i : Int) + 1 = i1 := by omega
          clear hno hend hone heq hTj hx hj1
          go_wp2_with fail
          go_quiet (fail)
          have hb2 := Lib.hid (below_step hb1.out (below_drewN _ nq))
          go_wp2
          refine bodyPost_ret (v := .tuple #[tokV 7 0 0 0 Y, .int .i64 (i1 : Nat), .int .i64 0]) (by simp [results, Try.results56, go_sem, z0, z1, z2, z3, z4]) rfl ?_
          replace hb2 := hb2.out
          exact retN_okx ho.out (by omega) (by go_grown)
        · have e1 : ((s[i].toNat : Int) == (T[j].toNat : Int)) = false := by
            rw [hTj, beq_eq_false_iff_ne]; intro h; exact heq (UInt8.toNat_inj.1 (by omega))
          have hno2 := Lib.hid (show ∀ m, m < j + 1 → ones[m]? ≠ some s[i] from fun m hm => by
            by_cases hmj : m = j
            · subst hmj; rw [List.getElem?_eq_getElem hl]; simpa using fun e => heq e.symm
            · exact hno m (by omega))
          clear hno hend hone heq hTj
          go_wp2_with fail
          go_quiet (fail)
          have hb2 := Lib.hid (below_step hbW.out (below_drewN _ nq))
          go_wp2
          go_roundw
          case rel => exact ⟨j + 1, hl, by go_num, hno2.out, hb2.out⟩
          case measure => simp [intOf]; omega
    have hno2 := Lib.hid (show ∀ m, m < j + 1 → twos[m]? ≠ some ((s.data.toList.drop i).take 2) from fun m hm e => by
      have h6 : ∀ x ∈ twos, x.length = 2 := by decide
      have := h6 _ (List.mem_of_getElem? e)
      rw [List.length_take, List.length_drop, size_list] at this
      omega)
    have hg : decide ((i : Int) + 2 ≤ s.size) = false := by rw [decide_eq_false_iff_not]; omega
    clear hno hend hone hcw
    go_wp2_with fail
    go_quiet (fail)
    have hb2 := Lib.hid (below_step hbW.out (below_drewN _ nq))
    go_wp2
    go_roundw
    case rel => exact ⟨j + 1, hl, by go_num, hno2.out, hb2.out⟩
    case measure => simp [intOf]; omega

theorem read_quote (t : List UInt8) : readOf (34 :: t) = ((scan t).1, 1 + (scan t).2.1, (scan t).2.2) := by rw [readOf]; exact if_pos rfl
theorem sgn_two {l : List UInt8} (h : l.take 2 ∈ twos) : sgn l = 2 := by rw [sgn, if_pos h]
theorem sgn_one {l : List UInt8} (h : ¬ l.take 2 ∈ twos) (h2 : l.headD 0 ∈ ones) : sgn l = 1 := by rw [sgn, if_neg h, if_pos h2]
theorem sgn_no {l : List UInt8} (h : ¬ l.take 2 ∈ twos) (h2 : ¬ l.headD 0 ∈ ones) : sgn l = 0 := by rw [sgn, if_neg h, if_neg h2]
theorem short_twos {l : List UInt8} (h : ¬ 1 < l.length) : ¬ l.take 2 ∈ twos := by
  intro hm
  have h6 : ∀ x ∈ twos, x.length = 2 := by decide
  have := h6 _ hm
  rw [List.length_take] at this; omega

theorem word_small {l : List UInt8} (h : isWord l = true) : sml (l.headD 0) = true := by
  unfold isWord at h
  rw [decide_eq_true_eq] at h
  have : ∀ x ∈ words, sml (x.headD 0) = true := by decide
  exact this l h

theorem grt_not_sml {c : UInt8} (h : grt c = true) : sml c = false := by
  unfold grt at h
  rw [Bool.and_eq_true, decide_eq_true_eq, decide_eq_true_eq] at h
  have a3 : ¬ c = 95 := fun e => by rw [e] at h; exact absurd h.2 (by decide)
  simp [sml, a3]; omega

theorem head_take {l : List UInt8} {n : Nat} (h : 1 ≤ n) : (l.take n).headD 0 = l.headD 0 := by
  cases l with
  | nil => simp
  | cons c t => rw [show n = (n - 1) + 1 by omega, List.take_succ_cons]; rfl

theorem scan_le : ∀ n (m : List UInt8), m.length ≤ n → (scan m).2.1 ≤ m.length + 4 := by
  intro n
  induction n with
  | zero =>
    intro m hm
    obtain rfl : m = [] := List.eq_nil_of_length_eq_zero (by omega)
    simp [scan, rb]
  | succ n ih =>
    intro m hm
    by_cases hq : m.head? = some 34
    · rw [scan_quote m hq]; simp
    · by_cases hb : (rb m).2.2 = true
      · have hz := rb_size m hb
        have hi := ih (m.drop (rb m).2.1) (by simp; omega)
        rw [scan_step m hq hb]
        simp only [List.length_drop] at hi
        show (rb m).2.1 + (scan (m.drop (rb m).2.1)).2.1 ≤ m.length + 4
        omega
      · rw [scan_bad m hq (by simpa using hb)]
        have := rb_le m
        show (rb m).2.1 ≤ m.length + 4
        omega

theorem rone_any (s : ByteArray) (w : World) (hs : s.size ≤ 100000) (i : Nat) (hi : i < s.size) (hdg : dgt s[i] = false) : Calls Try.prog 56 #[.string s, .int .i64 (i : Nat)] w (RetN i (one (s.data.toList.drop i)) w) := by
  have hd := drop_cons s i hi
  have hhd : (s.data.toList.drop i).headD 0 = s[i] := by rw [hd]; rfl
  have hne : s.data.toList.drop i ≠ [] := by rw [hd]; simp
  obtain ⟨K, hK⟩ : ∃ K, i + runL nam (s.data.toList.drop i) = K := ⟨_, rfl⟩
  have hKs : K ≤ s.size := by
    have := runL_le nam (s.data.toList.drop i)
    rw [List.length_drop, size_list] at this; omega
  have HI := Lib.hid (fun w => inner_any s i (by omega) (by omega) K (Lib.hid hK) w)
  have hX : (s.extract i K).data.toList = (s.data.toList.drop i).take (runL nam (s.data.toList.drop i)) := by rw [ext_list]; congr 1; omega
  have hsz : runL nam (s.data.toList.drop i) = K - i := by omega
  unfold one
  rw [hhd]
  cases h1 : sml s[i] with
  | true =>
    have hk : kdN s[i] = 1 := by rw [kdN, h1]; rfl
    have hg : grt s[i] = false := by
      cases h : grt s[i] with
      | false => rfl
      | true => have := grt_not_sml h; rw [h1] at this; cases this
    rw [if_pos (by simp)]
    cases hw : isWord ((s.data.toList.drop i).take (runL nam (s.data.toList.drop i))) with
    | true =>
      refine rone_small_true s _ w hs i K hi (by omega) hKs rfl _ (Lib.hid (kind_at hk)) HI (Lib.hid fun w => rword_at _ true (by rw [hX]; exact hw) w) (Lib.hid ?_)
      rw [hX, namK, hw, hsz]; rfl
    | false =>
      refine rone_small_false s _ w hs i K hi (by omega) hKs rfl _ (Lib.hid (kind_at hk)) HI (Lib.hid fun w => rword_at _ false (by rw [hX]; exact hw) w) (Lib.hid ?_)
      rw [hX, namK, hw, hhd, hg, hsz]; rfl
  | false =>
    cases h2 : grt s[i] with
    | true =>
      have hk : kdN s[i] = 2 := by rw [kdN, h1, h2]; rfl
      have hw : isWord ((s.data.toList.drop i).take (runL nam (s.data.toList.drop i))) = false := by
        cases hw : isWord ((s.data.toList.drop i).take (runL nam (s.data.toList.drop i))) with
        | false => rfl
        | true =>
          have := word_small hw
          rw [head_take (runL_pos (by rw [hhd]; simp [nam, h2]) hne), hhd, h1] at this
          cases this
      rw [if_pos (by simp)]
      refine rone_great s _ w hs i K hi (by omega) hKs rfl _ (Lib.hid (kind_at hk)) HI (Lib.hid ?_)
      rw [hX, namK, hw, hhd, h2, hsz]; rfl
    | false =>
      rw [if_neg (by simp)]
      cases h3 : dgt s[i] with
      | true =>
        rw [h3] at hdg
        cases hdg
      | false =>
        have hk : kdN s[i] = 0 := by rw [kdN, h1, h2, h3]; rfl
        rw [if_neg (by simp)]
        by_cases h34 : s[i] = 34
        · rw [if_pos h34]
          have hxl : (s.extract i s.size).data.toList = s.data.toList.drop i := ext_end s i
          have hxs : (s.extract i s.size).size = s.size - i := by rw [← size_list, hxl, List.length_drop, size_list]
          have HR := fun w => rread_any (s.extract i s.size) w (by omega)
          rw [hxl] at HR
          unfold litOne
          cases hok : (readOf (s.data.toList.drop i)).2.2 with
          | true =>
            simp only [outR, hok, if_true] at HR
            obtain ⟨a1, a2, _⟩ := unq_read _ hok
            rw [List.length_drop, size_list] at a2
            rw [if_pos rfl]
            exact rone_lit_true s _ _ w hs i _ (i + (readOf (s.data.toList.drop i)).2.1) (by omega) hi rfl _ (by rw [h34]; rfl) (Lib.hid (kind_at hk)) (Lib.hid HR) (Lib.hid (by rw [bs_list])) (by omega)
          | false =>
            simp only [outR, hok] at HR
            rw [if_neg (by simp)]
            have hm : (readOf (s.data.toList.drop i)).2.1 ≤ 200000 := by
              rw [hd, h34, read_quote]
              have := scan_le _ (s.data.toList.drop (i + 1)) (Nat.le_refl _)
              rw [List.length_drop, size_list] at this
              show 1 + _ ≤ 200000
              omega
            exact rone_lit_false s _ _ w hs i _ 0 hm hi rfl _ (by rw [h34]; rfl) (Lib.hid (kind_at hk)) (Lib.hid HR) (Lib.hid rfl)
        · rw [if_neg h34]
          have e34 : ((s[i].toNat : Int) == 34) = false := byte_ne (n := 34) (by decide) h34
          unfold sgnOne
          by_cases h2 : i + 2 ≤ s.size
          · refine rone_sign_y s w hs i hi _ (s.extract i (i + 2)) h2 rfl (by rw [ext_list]; congr 1; omega) ?_ e34 (Lib.hid (kind_at hk)) ?_ ?_
            · intro hm
              rw [sgn_two hm]; rfl
            · intro hm ho
              rw [sgn_one hm (by rw [hhd]; exact ho), hd]; rfl
            · intro hm ho
              rw [sgn_no hm (by rw [hhd]; exact ho)]; rfl
          · have hm : ¬ (s.data.toList.drop i).take 2 ∈ twos := short_twos (by rw [List.length_drop, size_list]; omega)
            refine rone_sign_n s w hs i hi _ h2 e34 (Lib.hid (kind_at hk)) ?_ ?_
            · intro ho
              rw [sgn_one hm (by rw [hhd]; exact ho), hd]; rfl
            · intro ho
              rw [sgn_no hm (by rw [hhd]; exact ho)]; rfl


end Go.Proofs.Ytogpfbmkbnooeaa
