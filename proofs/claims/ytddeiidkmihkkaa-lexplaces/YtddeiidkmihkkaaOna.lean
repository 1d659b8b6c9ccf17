/-
  Contract of the document's One: names, numbers, literals. Conditions: texts of at most 100000 bytes, a place within.
-/
import Derived.Test.YtddeiidkmihkkaaRm
import Derived.Test.YtddeiidkmihkkaaRs
namespace Go.Proofs.Ytddeiidkmihkkaa
open Go.RowKit Go.Sort
set_option linter.unusedVariables false

abbrev Kind1 (c : UInt8) (k : Nat) : Prop := ∀ w, Calls Try.prog 21 #[byt c] w fun e w' => e = .returned (.int .i64 (k : Nat)) ∧ w = w'
theorem kind_at {c : UInt8} {k : Nat} (h : kdN c = k) : Kind1 c k := fun w => h ▸ kind_any c w

theorem retN_okx {i k m : Nat} {n : Int} {X : ByteArray} {o : One} {w w' : World} (h : o = ⟨0, m, k, n, X.data.toList⟩) {E : Nat} (hE : E = i + m) (hb : Below w.heap.size w w') : RetN i o w (.returned (.tuple #[tokV k 0 0 n X, .int .i64 (E : Nat), .int .i64 0])) w' := by
  have := retN_ok h hE hb
  rwa [bs_eta] at this

theorem tokc {w' w1 : World} {b : Nat} {v0 v1 v2 v3 v4 : Value} (hb : w'.heap.size = b) (h : Below (w'.alloc (Obj.cells #[v0, v1, v2, v3, v4] 33)).heap.size (w'.alloc (Obj.cells #[v0, v1, v2, v3, v4] 33)) w1) : w1.cell? ⟨b, 0, none⟩ = some v0 ∧ w1.cell? ⟨b, 1, none⟩ = some v1 ∧ w1.cell? ⟨b, 2, none⟩ = some v2 ∧
    w1.cell? ⟨b, 3, none⟩ = some v3 ∧ w1.cell? ⟨b, 4, none⟩ = some v4 ∧ ∀ o, w1.frozen? ⟨b, o, none⟩ = false := by
  subst hb
  refine ⟨?_, ?_, ?_, ?_, ?_, fun o => ?_⟩
  · rw [(bcell h).1 _ _ (by simp)]; simp [go_sem]
  · rw [(bcell h).1 _ _ (by simp)]; simp [go_sem]
  · rw [(bcell h).1 _ _ (by simp)]; simp [go_sem]
  · rw [(bcell h).1 _ _ (by simp)]; simp [go_sem]
  · rw [(bcell h).1 _ _ (by simp)]; simp [go_sem]
  · rw [(bcell h).2 _ _ (by simp)]; simp [go_sem]

set_option maxHeartbeats 1000000 in
set_option maxRecDepth 100000 in
theorem rone_great (s X : ByteArray) (w : World) (hs : s.size ≤ 100000) (i K : Nat) (hi : i < s.size) (hiK : i ≤ K) (hK : K ≤ s.size) (hX : s.extract i K = X) (o : One) (H21 : Hid (Kind1 s[i] 2)) (HI : Hid (∀ w, Calls Try.prog 22 #[.string s, .int .i64 (i : Nat)] w fun e w' => e = .returned (.int .i64 (K : Nat)) ∧ w = w'))
    (ho : Hid (o = ⟨0, K - i, 2, 0, X.data.toList⟩)) : Calls Try.prog 13 #[.string s, .int .i64 (i : Nat)] w (RetN i o w) := by
  go_enter Try.func13, Try.ntmps13
  go_wp2_with fail
  refine (H21.out _).mono ?_
  rintro _ w' ⟨rfl, rfl⟩
  go_wp2_with fail
  refine (HI.out _).mono ?_
  rintro _ w' ⟨rfl, rfl⟩
  go_wp2_with fail
  refine (H21.out _).mono ?_
  rintro _ w' ⟨rfl, rfl⟩
  go_wp2
  refine bodyPost_ret (v := .tuple #[tokV 2 0 0 0 X, .int .i64 (K : Nat), .int .i64 0]) (by simp [results, Try.results13, go_sem]) rfl ?_
  exact retN_okx ho.out (by omega) (by go_grown)

set_option maxHeartbeats 1000000 in
set_option maxRecDepth 100000 in
theorem rone_small_true (s X : ByteArray) (w : World) (hs : s.size ≤ 100000) (i K : Nat) (hi : i < s.size) (hiK : i ≤ K) (hK : K ≤ s.size) (hX : s.extract i K = X) (o : One) (H21 : Hid (Kind1 s[i] 1)) (HI : Hid (∀ w, Calls Try.prog 22 #[.string s, .int .i64 (i : Nat)] w fun e w' => e = .returned (.int .i64 (K : Nat)) ∧ w = w'))
    (HW : Hid (∀ w, Calls Try.prog 15 #[.string X] w fun e w' => e = .returned (.bool true) ∧ Below w.heap.size w w'))
    (ho : Hid (o = ⟨0, K - i, 6, 0, X.data.toList⟩)) : Calls Try.prog 13 #[.string s, .int .i64 (i : Nat)] w (RetN i o w) := by
  go_enter Try.func13, Try.ntmps13
  go_wp2_with fail
  refine (H21.out _).mono ?_
  rintro _ w' ⟨rfl, rfl⟩
  go_wp2_with fail
  refine (HI.out _).mono ?_
  rintro _ w' ⟨rfl, rfl⟩
  go_wp2_with fail
  refine (H21.out _).mono ?_
  rintro _ w' ⟨rfl, rfl⟩
  go_wp2_with fail
  refine (HW.out _).mono ?_
  rintro _ w1 ⟨rfl, hb⟩
  obtain ⟨z0, z1, z2, z3, z4, z5⟩ := tokz (by go_grown) hb
  obtain ⟨y0, y1, y2, y3, y4, y5⟩ := tokc (b := w.heap.size + 1) (by simp) hb
  have hz := hb.size
  simp only [World.size_alloc] at hz
  have hb' := (by go_grown : Below w.heap.size w _).trans (hb.mono (by simp; omega))
  clear hb
  replace hb' := Lib.hid hb'
  go_wp2
  refine bodyPost_ret (v := .tuple #[tokV 6 0 0 0 X, .int .i64 (K : Nat), .int .i64 0]) (by simp [results, Try.results13, go_sem, z0, z1, z2, z3, z4]) rfl ?_
  replace hb' := hb'.out
  exact retN_okx ho.out (by omega) (by go_grown)

set_option maxHeartbeats 1000000 in
set_option maxRecDepth 100000 in
theorem rone_small_false (s X : ByteArray) (w : World) (hs : s.size ≤ 100000) (i K : Nat) (hi : i < s.size) (hiK : i ≤ K) (hK : K ≤ s.size) (hX : s.extract i K = X) (o : One) (H21 : Hid (Kind1 s[i] 1)) (HI : Hid (∀ w, Calls Try.prog 22 #[.string s, .int .i64 (i : Nat)] w fun e w' => e = .returned (.int .i64 (K : Nat)) ∧ w = w'))
    (HW : Hid (∀ w, Calls Try.prog 15 #[.string X] w fun e w' => e = .returned (.bool false) ∧ Below w.heap.size w w'))
    (ho : Hid (o = ⟨0, K - i, 1, 0, X.data.toList⟩)) : Calls Try.prog 13 #[.string s, .int .i64 (i : Nat)] w (RetN i o w) := by
  go_enter Try.func13, Try.ntmps13
  go_wp2_with fail
  refine (H21.out _).mono ?_
  rintro _ w' ⟨rfl, rfl⟩
  go_wp2_with fail
  refine (HI.out _).mono ?_
  rintro _ w' ⟨rfl, rfl⟩
  go_wp2_with fail
  refine (H21.out _).mono ?_
  rintro _ w' ⟨rfl, rfl⟩
  go_wp2_with fail
  refine (HW.out _).mono ?_
  rintro _ w1 ⟨rfl, hb⟩
  obtain ⟨z0, z1, z2, z3, z4, z5⟩ := tokz (by go_grown) hb
  obtain ⟨y0, y1, y2, y3, y4, y5⟩ := tokc (b := w.heap.size + 1) (by simp) hb
  have hz := hb.size
  simp only [World.size_alloc] at hz
  have hb' := (by go_grown : Below w.heap.size w _).trans (hb.mono (by simp; omega))
  clear hb
  replace hb' := Lib.hid hb'
  go_wp2
  refine bodyPost_ret (v := .tuple #[tokV 1 0 0 0 X, .int .i64 (K : Nat), .int .i64 0]) (by simp [results, Try.results13, go_sem, z0, z1, z2, z3, z4]) rfl ?_
  replace hb' := hb'.out
  exact retN_okx ho.out (by omega) (by go_grown)

set_option maxHeartbeats 1000000 in
set_option maxRecDepth 100000 in
theorem rone_number (s : ByteArray) (w : World) (hs : s.size ≤ 100000) (i : Nat) (hi : i < s.size) (o : One) (H21 : Hid (Kind1 s[i] 3))
    (HN : Hid (∀ w, Calls Try.prog 23 #[.string s, .int .i64 (i : Nat)] w (RetN i o w))) : Calls Try.prog 13 #[.string s, .int .i64 (i : Nat)] w (RetN i o w) := by
  obtain ⟨err, sz, kd, nm, tx⟩ := o
  obtain ⟨E, hE⟩ : ∃ E : Nat, (if err = 0 then i + sz else 0) = E := ⟨_, rfl⟩
  go_enter Try.func13, Try.ntmps13
  go_wp2_with fail
  refine (H21.out _).mono ?_
  rintro _ w' ⟨rfl, rfl⟩
  go_wp2_with fail
  refine (HN.out _).mono ?_
  rintro _ w1 ⟨k, rfl, hk, hb⟩
  simp only [hE]
  obtain ⟨hc, hf⟩ := bcell hb
  have hz := hb.size
  simp only [World.size_alloc] at hc hf hz
  replace hk := Lib.hid hk
  go_wp2
  refine bodyPost_ret (v := .tuple #[tokV k 0 0 nm (bs tx), .int .i64 (E : Nat), .int .i64 err]) (by simp [results, Try.results13, go_sem, hc]) rfl ?_
  have hb' := (by go_grown : Below w.heap.size w _).trans (hb.mono (by simp))
  refine ⟨k, by simp only [hE], hk.out, by go_grown⟩

set_option maxHeartbeats 1000000 in
set_option maxRecDepth 100000 in
theorem rone_lit_true (s X T : ByteArray) (w : World) (hs : s.size ≤ 100000) (i m E : Nat) (hm : m ≤ 200000) (hi : i < s.size) (hX : s.extract i s.size = X) (o : One) (e34 : ((s[i].toNat : Int) == 34) = true) (H21 : Hid (Kind1 s[i] 0))
    (HR : Hid (∀ w, Calls Try.prog 24 #[.string X] w fun e w' => e = .returned (.tuple #[.string T, .int .i64 (m : Nat), .bool true]) ∧ Below w.heap.size w w'))
    (ho : Hid (o = ⟨0, m, 5, 0, T.data.toList⟩)) (hE : ((i : Int) + m) = E) : Calls Try.prog 13 #[.string s, .int .i64 (i : Nat)] w (RetN i o w) := by
  go_enter Try.func13, Try.ntmps13
  go_wp2_with fail
  refine (H21.out _).mono ?_
  rintro _ w' ⟨rfl, rfl⟩
  go_wp2_with fail
  refine (HR.out _).mono ?_
  rintro _ w1 ⟨rfl, hb⟩
  obtain ⟨hc, hf⟩ := bcell hb
  have hz := hb.size
  simp only [World.size_alloc] at hc hf hz
  go_wp2
  refine bodyPost_ret (v := .tuple #[tokV 5 0 0 0 T, .int .i64 (E : Nat), .int .i64 0]) (by simp [results, Try.results13, go_sem, hc]) rfl ?_
  have hb' := (by go_grown : Below w.heap.size w _).trans (hb.mono (by simp))
  exact retN_okx ho.out (by omega) (by go_grown)

set_option maxHeartbeats 1000000 in
set_option maxRecDepth 100000 in
theorem rone_lit_false (s X T : ByteArray) (w : World) (hs : s.size ≤ 100000) (i m E : Nat) (hm : m ≤ 200000) (hi : i < s.size) (hX : s.extract i s.size = X) (o : One) (e34 : ((s[i].toNat : Int) == 34) = true) (H21 : Hid (Kind1 s[i] 0))
    (HR : Hid (∀ w, Calls Try.prog 24 #[.string X] w fun e w' => e = .returned (.tuple #[.string T, .int .i64 (m : Nat), .bool false]) ∧ Below w.heap.size w w'))
    (ho : Hid (o = bad 4)) : Calls Try.prog 13 #[.string s, .int .i64 (i : Nat)] w (RetN i o w) := by
  go_enter Try.func13, Try.ntmps13
  go_wp2_with fail
  refine (H21.out _).mono ?_
  rintro _ w' ⟨rfl, rfl⟩
  go_wp2_with fail
  refine (HR.out _).mono ?_
  rintro _ w1 ⟨rfl, hb⟩
  obtain ⟨hc, hf⟩ := bcell hb
  have hz := hb.size
  simp only [World.size_alloc] at hc hf hz
  go_wp2
  refine bodyPost_ret (v := badV 4) (by simp [results, Try.results13, go_sem, hc]) rfl ?_
  have hb' := (by go_grown : Below w.heap.size w _).trans (hb.mono (by simp))
  exact retN_bad ho.out (by decide) (by go_grown)

end Go.Proofs.Ytddeiidkmihkkaa
