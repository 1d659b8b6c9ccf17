/-
 Contract of the document's One: names, numbers, literals. Conditions: texts of at most 100000 bytes, a place within. Contract of the document's One where a sign stands, or nothing that begins a token. Conditions: texts of at most 100000 bytes, a place within. Contract of the document's One, for every text and place. Conditions: texts of at most 100000 bytes, a place within. Plain facts on places: what stands between tokens, the place behind bytes, tokens without line feeds. No function of the program is spoken of. Conditions: as said. Contract of the document's Tokens. Conditions: texts of at most 65536 bytes.
-/
import Derived.Test.YtbknflaooemigaaGreatRq2
import Derived.Test.YtbknflaooemigaaGreatRq1
import Derived.Test.YtbknflaooemigaaGreatLxc
namespace Go.Proofs.YtbknflaooemigaaGreat
section
open Go.RowKit Go.Sort
set_option linter.unusedVariables false

abbrev Kind1 (c : UInt8) (k : Nat) : Prop := ∀ w, Calls Tryz.prog 38 #[byt c] w fun e w' => e = .returned (.int .i64 (k : Nat)) ∧ w = w'
theorem kind_at {c : UInt8} {k : Nat} (h : kdN c = k) : Kind1 c k := fun w => h ▸ rkind_any c w

theorem retN_okx {i k m : Nat} {n : Int} {X : ByteArray} {o : One} {w w' : World} (h : o = ⟨0, m, k, n, X.data.toList⟩) {E : Nat} (hE : E = i + m) (hb : Below w.heap.size w w') : r_RetN i o w (.returned (.tuple #[tokV k 0 0 n X, .int .i64 (E : Nat), .int .i64 0])) w' := by
 have := retN_ok h hE hb
 rwa [bs_eta] at this

theorem tokc {w' w1 : World} {b : Nat} {v0 v1 v2 v3 v4 : Value} (hb : w'.heap.size = b) (h : Below (w'.alloc (Obj.cells #[v0, v1, v2, v3, v4] 38)).heap.size (w'.alloc (Obj.cells #[v0, v1, v2, v3, v4] 38)) w1) : w1.cell? ⟨b, 0, none⟩ = some v0 ∧ w1.cell? ⟨b, 1, none⟩ = some v1 ∧ w1.cell? ⟨b, 2, none⟩ = some v2 ∧
  w1.cell? ⟨b, 3, none⟩ = some v3 ∧ w1.cell? ⟨b, 4, none⟩ = some v4 ∧ ∀ o, w1.frozen? ⟨b, o, none⟩ = false := by
 subst hb
 refine ⟨?_, ?_, ?_, ?_, ?_, fun o => ?_⟩
 ·rw [(bcell h).1 _ _ (by simp)]; simp [go_sem]
 ·rw [(bcell h).1 _ _ (by simp)]; simp [go_sem]
 ·rw [(bcell h).1 _ _ (by simp)]; simp [go_sem]
 ·rw [(bcell h).1 _ _ (by simp)]; simp [go_sem]
 ·rw [(bcell h).1 _ _ (by simp)]; simp [go_sem]
 ·rw [(bcell h).2 _ _ (by simp)]; simp [go_sem]

set_option maxHeartbeats 1000000 in
set_option maxRecDepth 100000 in
theorem rone_great (s X : ByteArray) (w : World) (hs : s.size ≤ 100000) (i K : Nat) (hi : i < s.size) (hiK : i ≤ K) (hK : K ≤ s.size) (hX : s.extract i K = X) (o : One) (H21 : Hid (Kind1 s[i] 2)) (HI : Hid (∀ w, Calls Tryz.prog 39 #[.string s, .int .i64 (i : Nat)] w fun e w' => e = .returned (.int .i64 (K : Nat)) ∧ w = w'))
  (ho : Hid (o = ⟨0, K - i, 2, 0, X.data.toList⟩)) : Calls Tryz.prog 20 #[.string s, .int .i64 (i : Nat)] w (r_RetN i o w) := by
 go_enter Tryz.func20, Tryz.ntmps20
 go_wp2_with fail
 refine (H21.out _).mono ?_
 rintro _ w' ⟨rfl, rfl⟩
 go_wp2_with fail
 refine (HI.out _).mono ?_
 rintro _ w' ⟨rfl, rfl⟩
 go_wp2_with fail
 refine (H21.out _).mono ?_
 rintro _ w' ⟨rfl, rfl⟩
 go_wp2
 refine bodyPost_ret (v := .tuple #[tokV 2 0 0 0 X, .int .i64 (K : Nat), .int .i64 0]) (by simp [results, Tryz.results20, go_sem]) rfl ?_
 exact retN_okx ho.out (by omega) (by go_grown)

set_option maxHeartbeats 1000000 in
set_option maxRecDepth 100000 in
theorem rone_small_true (s X : ByteArray) (w : World) (hs : s.size ≤ 100000) (i K : Nat) (hi : i < s.size) (hiK : i ≤ K) (hK : K ≤ s.size) (hX : s.extract i K = X) (o : One) (H21 : Hid (Kind1 s[i] 1)) (HI : Hid (∀ w, Calls Tryz.prog 39 #[.string s, .int .i64 (i : Nat)] w fun e w' => e = .returned (.int .i64 (K : Nat)) ∧ w = w'))
  (HW : Hid (∀ w, Calls Tryz.prog 40 #[.string X] w fun e w' => e = .returned (.bool true) ∧ Below w.heap.size w w'))
  (ho : Hid (o = ⟨0, K - i, 6, 0, X.data.toList⟩)) : Calls Tryz.prog 20 #[.string s, .int .i64 (i : Nat)] w (r_RetN i o w) := by
 go_enter Tryz.func20, Tryz.ntmps20
 go_wp2_with fail
 refine (H21.out _).mono ?_
 rintro _ w' ⟨rfl, rfl⟩
 go_wp2_with fail
 refine (HI.out _).mono ?_
 rintro _ w' ⟨rfl, rfl⟩
 go_wp2_with fail
 refine (H21.out _).mono ?_
 rintro _ w' ⟨rfl, rfl⟩
 go_wp2_with fail
 refine (HW.out _).mono ?_
 rintro _ w1 ⟨rfl, hb⟩
 obtain ⟨z0, z1, z2, z3, z4, z5⟩ := tokz (by go_grown) hb
 obtain ⟨y0, y1, y2, y3, y4, y5⟩ := tokc (b := w.heap.size + 1) (by simp) hb
 have hz := hb.size
 simp only [World.size_alloc] at hz
 have hb' := (by go_grown : Below w.heap.size w _).trans (hb.mono (by simp; omega))
 clear hb
 replace hb' := Lib.hid hb'
 go_wp2
 refine bodyPost_ret (v := .tuple #[tokV 6 0 0 0 X, .int .i64 (K : Nat), .int .i64 0]) (by simp [results, Tryz.results20, go_sem, z0, z1, z2, z3, z4]) rfl ?_
 replace hb' := hb'.out
 exact retN_okx ho.out (by omega) (by go_grown)

set_option maxHeartbeats 1000000 in
set_option maxRecDepth 100000 in
theorem rone_small_false (s X : ByteArray) (w : World) (hs : s.size ≤ 100000) (i K : Nat) (hi : i < s.size) (hiK : i ≤ K) (hK : K ≤ s.size) (hX : s.extract i K = X) (o : One) (H21 : Hid (Kind1 s[i] 1)) (HI : Hid (∀ w, Calls Tryz.prog 39 #[.string s, .int .i64 (i : Nat)] w fun e w' => e = .returned (.int .i64 (K : Nat)) ∧ w = w'))
  (HW : Hid (∀ w, Calls Tryz.prog 40 #[.string X] w fun e w' => e = .returned (.bool false) ∧ Below w.heap.size w w'))
  (ho : Hid (o = ⟨0, K - i, 1, 0, X.data.toList⟩)) : Calls Tryz.prog 20 #[.string s, .int .i64 (i : Nat)] w (r_RetN i o w) := by
 go_enter Tryz.func20, Tryz.ntmps20
 go_wp2_with fail
 refine (H21.out _).mono ?_
 rintro _ w' ⟨rfl, rfl⟩
 go_wp2_with fail
 refine (HI.out _).mono ?_
 rintro _ w' ⟨rfl, rfl⟩
 go_wp2_with fail
 refine (H21.out _).mono ?_
 rintro _ w' ⟨rfl, rfl⟩
 go_wp2_with fail
 refine (HW.out _).mono ?_
 rintro _ w1 ⟨rfl, hb⟩
 obtain ⟨z0, z1, z2, z3, z4, z5⟩ := tokz (by go_grown) hb
 obtain ⟨y0, y1, y2, y3, y4, y5⟩ := tokc (b := w.heap.size + 1) (by simp) hb
 have hz := hb.size
 simp only [World.size_alloc] at hz
 have hb' := (by go_grown : Below w.heap.size w _).trans (hb.mono (by simp; omega))
 clear hb
 replace hb' := Lib.hid hb'
 go_wp2
 refine bodyPost_ret (v := .tuple #[tokV 1 0 0 0 X, .int .i64 (K : Nat), .int .i64 0]) (by simp [results, Tryz.results20, go_sem, z0, z1, z2, z3, z4]) rfl ?_
 replace hb' := hb'.out
 exact retN_okx ho.out (by omega) (by go_grown)

set_option maxHeartbeats 1000000 in
set_option maxRecDepth 100000 in
theorem rone_number (s : ByteArray) (w : World) (hs : s.size ≤ 100000) (i : Nat) (hi : i < s.size) (o : One) (H21 : Hid (Kind1 s[i] 3))
  (HN : Hid (∀ w, Calls Tryz.prog 41 #[.string s, .int .i64 (i : Nat)] w (r_RetN i o w))) : Calls Tryz.prog 20 #[.string s, .int .i64 (i : Nat)] w (r_RetN i o w) := by
 obtain ⟨err, sz, kd, nm, tx⟩ := o
 obtain ⟨E, hE⟩ : ∃ E : Nat, (if err = 0 then i + sz else 0) = E := ⟨_, rfl⟩
 go_enter Tryz.func20, Tryz.ntmps20
 go_wp2_with fail
 refine (H21.out _).mono ?_
 rintro _ w' ⟨rfl, rfl⟩
 go_wp2_with fail
 refine (HN.out _).mono ?_
 rintro _ w1 ⟨k, rfl, hk, hb⟩
 simp only [hE]
 obtain ⟨hc, hf⟩ := bcell hb
 have hz := hb.size
 simp only [World.size_alloc] at hc hf hz
 replace hk := Lib.hid hk
 go_wp2
 refine bodyPost_ret (v := .tuple #[tokV k 0 0 nm (bs tx), .int .i64 (E : Nat), .int .i64 err]) (by simp [results, Tryz.results20, go_sem, hc]) rfl ?_
 have hb' := (by go_grown : Below w.heap.size w _).trans (hb.mono (by simp))
 refine ⟨k, by simp only [hE], hk.out, by go_grown⟩

set_option maxHeartbeats 1000000 in
set_option maxRecDepth 100000 in
theorem rone_lit_true (s X T : ByteArray) (w : World) (hs : s.size ≤ 100000) (i m E : Nat) (hm : m ≤ 200000) (hi : i < s.size) (hX : s.extract i s.size = X) (o : One) (e34 : ((s[i].toNat : Int) == 34) = true) (H21 : Hid (Kind1 s[i] 0))
  (HR : Hid (∀ w, Calls Tryz.prog 42 #[.string X] w fun e w' => e = .returned (.tuple #[.string T, .int .i64 (m : Nat), .bool true]) ∧ Below w.heap.size w w'))
  (ho : Hid (o = ⟨0, m, 5, 0, T.data.toList⟩)) (hE : ((i : Int) + m) = E) : Calls Tryz.prog 20 #[.string s, .int .i64 (i : Nat)] w (r_RetN i o w) := by
 go_enter Tryz.func20, Tryz.ntmps20
 go_wp2_with fail
 refine (H21.out _).mono ?_
 rintro _ w' ⟨rfl, rfl⟩
 go_wp2_with fail
 refine (HR.out _).mono ?_
 rintro _ w1 ⟨rfl, hb⟩
 obtain ⟨hc, hf⟩ := bcell hb
 have hz := hb.size
 simp only [World.size_alloc] at hc hf hz
 go_wp2
 refine bodyPost_ret (v := .tuple #[tokV 5 0 0 0 T, .int .i64 (E : Nat), .int .i64 0]) (by simp [results, Tryz.results20, go_sem, hc]) rfl ?_
 have hb' := (by go_grown : Below w.heap.size w _).trans (hb.mono (by simp))
 exact retN_okx ho.out (by omega) (by go_grown)

set_option maxHeartbeats 1000000 in
set_option maxRecDepth 100000 in
theorem rone_lit_false (s X T : ByteArray) (w : World) (hs : s.size ≤ 100000) (i m E : Nat) (hm : m ≤ 200000) (hi : i < s.size) (hX : s.extract i s.size = X) (o : One) (e34 : ((s[i].toNat : Int) == 34) = true) (H21 : Hid (Kind1 s[i] 0))
  (HR : Hid (∀ w, Calls Tryz.prog 42 #[.string X] w fun e w' => e = .returned (.tuple #[.string T, .int .i64 (m : Nat), .bool false]) ∧ Below w.heap.size w w'))
  (ho : Hid (o = bad 4)) : Calls Tryz.prog 20 #[.string s, .int .i64 (i : Nat)] w (r_RetN i o w) := by
 go_enter Tryz.func20, Tryz.ntmps20
 go_wp2_with fail
 refine (H21.out _).mono ?_
 rintro _ w' ⟨rfl, rfl⟩
 go_wp2_with fail
 refine (HR.out _).mono ?_
 rintro _ w1 ⟨rfl, hb⟩
 obtain ⟨hc, hf⟩ := bcell hb
 have hz := hb.size
 simp only [World.size_alloc] at hc hf hz
 go_wp2
 refine bodyPost_ret (v := badV 4) (by simp [results, Tryz.results20, go_sem, hc]) rfl ?_
 have hb' := (by go_grown : Below w.heap.size w _).trans (hb.mono (by simp))
 exact retN_bad ho.out (by decide) (by go_grown)
end
end Go.Proofs.YtbknflaooemigaaGreat

namespace Go.Proofs.YtbknflaooemigaaGreat
section
open Go.RowKit Go.Sort
set_option linter.unusedVariables false

theorem scells (w : World) (k : Nat) (h : k < 6) : (w.alloc (Obj.cells #[Value.string { data := #[38, 38] }, Value.string { data := #[124, 124] }, Value.string { data := #[61, 61] }, Value.string { data := #[33, 61] }, Value.string { data := #[60, 61] }, Value.string { data := #[62, 61] }] 9)).cell? ⟨w.heap.size, k, none⟩ = some (.string (bs (twos[k]'h))) := by
 have e : (w.alloc (Obj.cells #[Value.string { data := #[38, 38] }, Value.string { data := #[124, 124] }, Value.string { data := #[61, 61] }, Value.string { data := #[33, 61] }, Value.string { data := #[60, 61] }, Value.string { data := #[62, 61] }] 9)).cell? ⟨w.heap.size, k, none⟩ = (#[Value.string { data := #[38, 38] }, Value.string { data := #[124, 124] }, Value.string { data := #[61, 61] }, Value.string { data := #[33, 61] }, Value.string { data := #[60, 61] }, Value.string { data := #[62, 61] }] : Array Value)[k]? := by simp [go_sem]
 rw [e]
 match k, h with
 | 0, _ => rfl
 | 1, _ => rfl
 | 2, _ => rfl
 | 3, _ => rfl
 | 4, _ => rfl
 | 5, _ => rfl
 | n + 6, h => omega

abbrev ZT (w W : World) : Prop := W.cell? ⟨w.heap.size, 0, none⟩ = some (.int .u8 0) ∧ W.cell? ⟨w.heap.size, 1, none⟩ = some (.int .i64 0) ∧ W.cell? ⟨w.heap.size, 2, none⟩ = some (.int .i64 0) ∧
  W.cell? ⟨w.heap.size, 3, none⟩ = some (.int .i64 0) ∧ W.cell? ⟨w.heap.size, 4, none⟩ = some (.string { data := #[] }) ∧ ∀ o, W.frozen? ⟨w.heap.size, o, none⟩ = false
theorem hzz {w : World} (W : World) (h : ZT w W) : ∀ W', Below W.heap.size W W' → ZT w W' := fun W' hb =>
 ⟨cell_carry hb h.1, cell_carry hb h.2.1, cell_carry hb h.2.2.1, cell_carry hb h.2.2.2.1, cell_carry hb h.2.2.2.2.1, fun o => froz_carry hb h.1 (h.2.2.2.2.2 o)⟩

theorem bads (k : Nat) (h : k < 19) : (({ data := #[43, 45, 42, 47, 37, 60, 62, 33, 61, 40, 41, 123, 125, 91, 93, 44, 59, 58, 46] } : ByteArray)[k]'h) = ones[k]'h := by
 match k, h with
 | 0, _ => rfl
 | 1, _ => rfl
 | 2, _ => rfl
 | 3, _ => rfl
 | 4, _ => rfl
 | 5, _ => rfl
 | 6, _ => rfl
 | 7, _ => rfl
 | 8, _ => rfl
 | 9, _ => rfl
 | 10, _ => rfl
 | 11, _ => rfl
 | 12, _ => rfl
 | 13, _ => rfl
 | 14, _ => rfl
 | 15, _ => rfl
 | 16, _ => rfl
 | 17, _ => rfl
 | 18, _ => rfl
 | n + 19, h => omega

set_option maxHeartbeats 4000000 in
set_option maxRecDepth 100000 in
theorem rone_sign_y (s : ByteArray) (w : World) (hs : s.size ≤ 100000) (i : Nat) (hi : i < s.size) (o : One) (X : ByteArray) (h2 : i + 2 ≤ s.size) (hX : s.extract i (i + 2) = X) (hXl : X.data.toList = (s.data.toList.drop i).take 2) (htwo : (s.data.toList.drop i).take 2 ∈ twos → o = ⟨0, 2, 7, 0, (s.data.toList.drop i).take 2⟩)
  (e34 : ((s[i].toNat : Int) == 34) = false) (H21 : Hid (Kind1 s[i] 0))
  (hone : ¬ (s.data.toList.drop i).take 2 ∈ twos → s[i] ∈ ones → o = ⟨0, 1, 7, 0, [s[i]]⟩) (hend : ¬ (s.data.toList.drop i).take 2 ∈ twos → ¬ s[i] ∈ ones → o = bad 4) :
  Calls Tryz.prog 20 #[.string s, .int .i64 (i : Nat)] w (r_RetN i o w) := by
 have hb0 := Lib.hid ((below_alloc w zTok).trans ((below_alloc (w.alloc zTok) (Obj.cells #[Value.string { data := #[38, 38] }, Value.string { data := #[124, 124] }, Value.string { data := #[61, 61] }, Value.string { data := #[33, 61] }, Value.string { data := #[60, 61] }, Value.string { data := #[62, 61] }] 9)).mono (by simp)))
 have hc0 := Lib.hid (scells (w.alloc zTok))
 have hz0 := tokz (w := w) (W := (w.alloc zTok).alloc (Obj.cells #[Value.string { data := #[38, 38] }, Value.string { data := #[124, 124] }, Value.string { data := #[61, 61] }, Value.string { data := #[33, 61] }, Value.string { data := #[60, 61] }, Value.string { data := #[62, 61] }] 9)) ((below_alloc (w.alloc zTok) (Obj.cells #[Value.string { data := #[38, 38] }, Value.string { data := #[124, 124] }, Value.string { data := #[61, 61] }, Value.string { data := #[33, 61] }, Value.string { data := #[60, 61] }, Value.string { data := #[62, 61] }] 9)).mono (by simp)) (Below.refl _ _)
 have hsz : ((w.alloc zTok).alloc (Obj.cells #[Value.string { data := #[38, 38] }, Value.string { data := #[124, 124] }, Value.string { data := #[61, 61] }, Value.string { data := #[33, 61] }, Value.string { data := #[60, 61] }, Value.string { data := #[62, 61] }] 9)).heap.size = w.heap.size + 1 + 1 := by simp
 go_enter Tryz.func20, Tryz.ntmps20
 go_wp2_with fail
 refine (H21.out _).mono ?_
 rintro _ w' ⟨rfl, rfl⟩
 go_wp2
 obtain ⟨W, hW⟩ : ∃ W, W = (w.alloc zTok).alloc (Obj.cells #[Value.string { data := #[38, 38] }, Value.string { data := #[124, 124] }, Value.string { data := #[61, 61] }, Value.string { data := #[33, 61] }, Value.string { data := #[60, 61] }, Value.string { data := #[62, 61] }] 9) := ⟨_, rfl⟩
 rw [← hW]
 rw [← hW] at hb0 hc0 hz0 hsz
 rw [show (w.alloc zTok).heap.size = w.heap.size + 1 by simp] at hc0
 have hzW := Lib.hid (hzz W hz0)
 clear hW hz0
 go_loopw [74] (fun v wq => ∃ j : Nat, j ≤ 6 ∧ v = .int .i64 (j : Nat) ∧ (∀ m, m < j → twos[m]? ≠ some ((s.data.toList.drop i).take 2)) ∧ Below W.heap.size W wq) (fun v _ => 6 - (intOf v).toNat)
 case atStart => exact ⟨0, Nat.zero_le _, rfl, by simp, Below.refl _ _⟩
 case round =>
  obtain ⟨j, hj, rfl, hno, hbW⟩ := hrel
  obtain ⟨z0, z1, z2, z3, z4, z5⟩ := hzW.out _ hbW
  have hb1 := Lib.hid (below_step hb0.out hbW)
  have hcw := hbW
  replace hbW := Lib.hid hbW
  by_cases hl : j < 6
  case neg =>
   have hnt : ¬ (s.data.toList.drop i).take 2 ∈ twos := fun hm => by
    obtain ⟨m, hm1, hm2⟩ := List.getElem_of_mem hm
    have hm3 : m < 6 := hm1
    exact hno m (by omega) (by rw [List.getElem?_eq_getElem hm1, hm2])
   replace hone := hone hnt
   replace hend := hend hnt
   clear htwo hnt
   have hl2 : ¬ (j : Int) < 6 := by omega
   clear hno hb1 hcw
   go_wp2
   obtain ⟨T, hT⟩ : ∃ T : ByteArray, T = { data := #[43, 45, 42, 47, 37, 60, 62, 33, 61, 40, 41, 123, 125, 91, 93, 44, 59, 58, 46] } := ⟨_, rfl⟩
   have hT1 : T.size = 19 := by rw [hT]; rfl
   have hT2 := Lib.hid (show ∀ k (h : k < T.size), T[k] = ones[k]'(by rw [hT1] at h; exact h) from by subst hT; exact fun k h => bads k h)
   rw [← hT]
   clear hT
   go_loopw [15] (fun v wq => ∃ j : Nat, j ≤ 19 ∧ v = .int .i64 (j : Nat) ∧ (∀ m, m < j → ones[m]? ≠ some s[i]) ∧ Below W.heap.size W wq) (fun v _ => 19 - (intOf v).toNat)
   case atStart => exact ⟨0, Nat.zero_le _, rfl, by simp, hbW.out⟩
   case round =>
    clear hbW z0 z1 z2 z3 z4 z5
    obtain ⟨j, hj, rfl, hno, hbW⟩ := hrel
    obtain ⟨z0, z1, z2, z3, z4, z5⟩ := hzW.out _ hbW
    have hb1 := Lib.hid (below_step hb0.out hbW)
    replace hbW := Lib.hid hbW
    by_cases hl : j < 19
    case neg =>
     have ho := Lib.hid (hend (fun hm => by
      obtain ⟨m, hm1, hm2⟩ := List.getElem_of_mem hm
      have hm3 : m < 19 := hm1
      exact hno m (by omega) (by rw [List.getElem?_eq_getElem hm1, hm2])))
     have hl2 : ¬ (j : Int) < T.size := by omega
     clear hno hend hone
     go_wp2
     refine bodyPost_ret (v := badV 4) (by simp [results, Tryz.results20, go_sem, z0, z1, z2, z3, z4]) rfl ?_
     replace hb1 := hb1.out
     exact retN_bad ho.out (by decide) (by go_grown)
    have hl2 : (j : Int) < T.size := by omega
    have hl3 : j < T.size := by omega
    have hTj := hT2.out j hl3
    by_cases heq : s[i] = ones[j]'hl
    ·have e1 : ((s[i].toNat : Int) == (T[j].toNat : Int)) = true := by rw [hTj, heq]; simp
     have hx : T.extract j (j + 1) = bs [s[i]] := by
      apply bytes_eq
      rw [ext_list, bs_list, drop_cons T j hl3, hTj, heq]; simp
     obtain ⟨Y, hY⟩ : ∃ Y, T.extract j (j + 1) = Y := ⟨_, rfl⟩
     have ho := Lib.hid (show o = ⟨0, 1, 7, 0, Y.data.toList⟩ by rw [hone (by rw [heq]; exact List.getElem_mem _), ← hY, hx, bs_list])
     obtain ⟨j1, hj1⟩ : ∃ j1, j + 1 = j1 := ⟨_, rfl⟩
     rw [hj1] at hY
     have hj2 : (j : Int) + 1 = j1 := by omega
     have hj3 : j1 ≤ T.size := by omega
     have hj4 : j ≤ j1 := by omega
     obtain ⟨i1, hi1⟩ : ∃ i1, i + 1 = i1 := ⟨_, rfl⟩
     have hi2 : (i : Int) + 1 = i1 := by omega
     clear hno hend hone heq hTj hx hj1
     go_wp2_with fail
     go_quiet (fail)
     have hb2 := Lib.hid (below_step hb1.out (below_drewN _ nq))
     go_wp2
     refine bodyPost_ret (v := .tuple #[tokV 7 0 0 0 Y, .int .i64 (i1 : Nat), .int .i64 0]) (by simp [results, Tryz.results20, go_sem, z0, z1, z2, z3, z4]) rfl ?_
     replace hb2 := hb2.out
     exact retN_okx ho.out (by omega) (by go_grown)
    ·have e1 : ((s[i].toNat : Int) == (T[j].toNat : Int)) = false := by
      rw [hTj, beq_eq_false_iff_ne]; intro h; exact heq (UInt8.toNat_inj.1 (by omega))
     have hno2 := Lib.hid (show ∀ m, m < j + 1 → ones[m]? ≠ some s[i] from fun m hm => by
      by_cases hmj : m = j
      ·subst hmj; rw [List.getElem?_eq_getElem hl]; simpa using fun e => heq e.symm
      ·exact hno m (by omega))
     clear hno hend hone heq hTj
     go_wp2_with fail
     go_quiet (fail)
     have hb2 := Lib.hid (below_step hbW.out (below_drewN _ nq))
     go_wp2
     go_roundw
     case rel => exact ⟨j + 1, hl, by go_num, hno2.out, hb2.out⟩
     case measure => simp [intOf]; omega
  have hcell := cell_carry hcw (hc0.out j hl)
  clear hcw
  have h2i : (i : Int) + 2 ≤ s.size := by omega
  obtain ⟨i2, hi2⟩ : ∃ i2, i + 2 = i2 := ⟨_, rfl⟩
  rw [hi2] at hX h2
  have hi3 : (i : Int) + 2 = i2 := by omega
  have hi4 : i ≤ i2 := by omega
  have hi5 : (i2 : Int) ≤ s.size := by omega
  by_cases heq : (s.data.toList.drop i).take 2 = twos[j]'hl
  ·have e1 : (X.toList == (bs (twos[j]'hl)).toList) = true := by rw [ByteArray.toList_eq, ByteArray.toList_eq, bs_list, hXl, heq]; simp
   have ho := Lib.hid (show o = ⟨0, 2, 7, 0, (bs (twos[j]'hl)).data.toList⟩ by rw [htwo (by rw [heq]; exact List.getElem_mem _), heq, bs_list])
   generalize bs (twos[j]'hl) = x at hcell e1 ho
   clear hno hend hone heq htwo hXl h2i
   go_wp2_with fail
   go_quiet (fail)
   have hb2 := Lib.hid (below_step hb1.out (below_drewN _ nq))
   go_wp2
   refine bodyPost_ret (v := .tuple #[tokV 7 0 0 0 x, .int .i64 (i2 : Nat), .int .i64 0]) (by simp [results, Tryz.results20, go_sem, z0, z1, z2, z3, z4]) rfl ?_
   replace hb2 := hb2.out
   exact retN_okx ho.out (by omega) (by go_grown)
  ·have e1 : (X.toList == (bs (twos[j]'hl)).toList) = false := by rw [ByteArray.toList_eq, ByteArray.toList_eq, bs_list, hXl]; simpa using heq
   have hno2 := Lib.hid (show ∀ m, m < j + 1 → twos[m]? ≠ some ((s.data.toList.drop i).take 2) from fun m hm => by
    by_cases hmj : m = j
    ·subst hmj; rw [List.getElem?_eq_getElem hl]; simpa using fun e => heq e.symm
    ·exact hno m (by omega))
   generalize bs (twos[j]'hl) = x at hcell e1
   clear hno hend hone heq htwo hXl h2i
   go_wp2_with fail
   go_quiet (fail)
   have hb2 := Lib.hid (below_step hbW.out (below_drewN _ nq))
   go_wp2
   go_roundw
   case rel => exact ⟨j + 1, hl, by go_num, hno2.out, hb2.out⟩
   case measure => simp [intOf]; omega

set_option maxHeartbeats 4000000 in
set_option maxRecDepth 100000 in
theorem rone_sign_n (s : ByteArray) (w : World) (hs : s.size ≤ 100000) (i : Nat) (hi : i < s.size) (o : One) (h2 : ¬ i + 2 ≤ s.size)
  (e34 : ((s[i].toNat : Int) == 34) = false) (H21 : Hid (Kind1 s[i] 0))
  (hone : s[i] ∈ ones → o = ⟨0, 1, 7, 0, [s[i]]⟩) (hend : ¬ s[i] ∈ ones → o = bad 4) :
  Calls Tryz.prog 20 #[.string s, .int .i64 (i : Nat)] w (r_RetN i o w) := by
 have hb0 := Lib.hid ((below_alloc w zTok).trans ((below_alloc (w.alloc zTok) (Obj.cells #[Value.string { data := #[38, 38] }, Value.string { data := #[124, 124] }, Value.string { data := #[61, 61] }, Value.string { data := #[33, 61] }, Value.string { data := #[60, 61] }, Value.string { data := #[62, 61] }] 9)).mono (by simp)))
 have hc0 := Lib.hid (scells (w.alloc zTok))
 have hz0 := tokz (w := w) (W := (w.alloc zTok).alloc (Obj.cells #[Value.string { data := #[38, 38] }, Value.string { data := #[124, 124] }, Value.string { data := #[61, 61] }, Value.string { data := #[33, 61] }, Value.string { data := #[60, 61] }, Value.string { data := #[62, 61] }] 9)) ((below_alloc (w.alloc zTok) (Obj.cells #[Value.string { data := #[38, 38] }, Value.string { data := #[124, 124] }, Value.string { data := #[61, 61] }, Value.string { data := #[33, 61] }, Value.string { data := #[60, 61] }, Value.string { data := #[62, 61] }] 9)).mono (by simp)) (Below.refl _ _)
 have hsz : ((w.alloc zTok).alloc (Obj.cells #[Value.string { data := #[38, 38] }, Value.string { data := #[124, 124] }, Value.string { data := #[61, 61] }, Value.string { data := #[33, 61] }, Value.string { data := #[60, 61] }, Value.string { data := #[62, 61] }] 9)).heap.size = w.heap.size + 1 + 1 := by simp
 go_enter Tryz.func20, Tryz.ntmps20
 go_wp2_with fail
 refine (H21.out _).mono ?_
 rintro _ w' ⟨rfl, rfl⟩
 go_wp2
 obtain ⟨W, hW⟩ : ∃ W, W = (w.alloc zTok).alloc (Obj.cells #[Value.string { data := #[38, 38] }, Value.string { data := #[124, 124] }, Value.string { data := #[61, 61] }, Value.string { data := #[33, 61] }, Value.string { data := #[60, 61] }, Value.string { data := #[62, 61] }] 9) := ⟨_, rfl⟩
 rw [← hW]
 rw [← hW] at hb0 hc0 hz0 hsz
 rw [show (w.alloc zTok).heap.size = w.heap.size + 1 by simp] at hc0
 have hzW := Lib.hid (hzz W hz0)
 clear hW hz0
 go_loopw [74] (fun v wq => ∃ j : Nat, j ≤ 6 ∧ v = .int .i64 (j : Nat) ∧ (∀ m, m < j → twos[m]? ≠ some ((s.data.toList.drop i).take 2)) ∧ Below W.heap.size W wq) (fun v _ => 6 - (intOf v).toNat)
 case atStart => exact ⟨0, Nat.zero_le _, rfl, by simp, Below.refl _ _⟩
 case round =>
  obtain ⟨j, hj, rfl, hno, hbW⟩ := hrel
  obtain ⟨z0, z1, z2, z3, z4, z5⟩ := hzW.out _ hbW
  have hb1 := Lib.hid (below_step hb0.out hbW)
  have hcw := hbW
  replace hbW := Lib.hid hbW
  by_cases hl : j < 6
  case neg =>
   have hl2 : ¬ (j : Int) < 6 := by omega
   clear hno hb1 hcw
   go_wp2
   obtain ⟨T, hT⟩ : ∃ T : ByteArray, T = { data := #[43, 45, 42, 47, 37, 60, 62, 33, 61, 40, 41, 123, 125, 91, 93, 44, 59, 58, 46] } := ⟨_, rfl⟩
   have hT1 : T.size = 19 := by rw [hT]; rfl
   have hT2 := Lib.hid (show ∀ k (h : k < T.size), T[k] = ones[k]'(by rw [hT1] at h; exact h) from by subst hT; exact fun k h => bads k h)
   rw [← hT]
   clear hT
   go_loopw [15] (fun v wq => ∃ j : Nat, j ≤ 19 ∧ v = .int .i64 (j : Nat) ∧ (∀ m, m < j → ones[m]? ≠ some s[i]) ∧ Below W.heap.size W wq) (fun v _ => 19 - (intOf v).toNat)
   case atStart => exact ⟨0, Nat.zero_le _, rfl, by simp, hbW.out⟩
   case round =>
    clear hbW z0 z1 z2 z3 z4 z5
    obtain ⟨j, hj, rfl, hno, hbW⟩ := hrel
    obtain ⟨z0, z1, z2, z3, z4, z5⟩ := hzW.out _ hbW
    have hb1 := Lib.hid (below_step hb0.out hbW)
    replace hbW := Lib.hid hbW
    by_cases hl : j < 19
    case neg =>
     have ho := Lib.hid (hend (fun hm => by
      obtain ⟨m, hm1, hm2⟩ := List.getElem_of_mem hm
      have hm3 : m < 19 := hm1
      exact hno m (by omega) (by rw [List.getElem?_eq_getElem hm1, hm2])))
     have hl2 : ¬ (j : Int) < T.size := by omega
     clear hno hend hone
     go_wp2
     refine bodyPost_ret (v := badV 4) (by simp [results, Tryz.results20, go_sem, z0, z1, z2, z3, z4]) rfl ?_
     replace hb1 := hb1.out
     exact retN_bad ho.out (by decide) (by go_grown)
    have hl2 : (j : Int) < T.size := by omega
    have hl3 : j < T.size := by omega
    have hTj := hT2.out j hl3
    by_cases heq : s[i] = ones[j]'hl
    ·have e1 : ((s[i].toNat : Int) == (T[j].toNat : Int)) = true := by rw [hTj, heq]; simp
     have hx : T.extract j (j + 1) = bs [s[i]] := by
      apply bytes_eq
      rw [ext_list, bs_list, drop_cons T j hl3, hTj, heq]; simp
     obtain ⟨Y, hY⟩ : ∃ Y, T.extract j (j + 1) = Y := ⟨_, rfl⟩
     have ho := Lib.hid (show o = ⟨0, 1, 7, 0, Y.data.toList⟩ by rw [hone (by rw [heq]; exact List.getElem_mem _), ← hY, hx, bs_list])
     obtain ⟨j1, hj1⟩ : ∃ j1, j + 1 = j1 := ⟨_, rfl⟩
     rw [hj1] at hY
     have hj2 : (j : Int) + 1 = j1 := by omega
     have hj3 : j1 ≤ T.size := by omega
     have hj4 : j ≤ j1 := by omega
     obtain ⟨i1, hi1⟩ : ∃ i1, i + 1 = i1 := ⟨_, rfl⟩
     have hi2 : (i : Int) + 1 = i1 := by omega
     clear hno hend hone heq hTj hx hj1
     go_wp2_with fail
     go_quiet (fail)
     have hb2 := Lib.hid (below_step hb1.out (below_drewN _ nq))
     go_wp2
     refine bodyPost_ret (v := .tuple #[tokV 7 0 0 0 Y, .int .i64 (i1 : Nat), .int .i64 0]) (by simp [results, Tryz.results20, go_sem, z0, z1, z2, z3, z4]) rfl ?_
     replace hb2 := hb2.out
     exact retN_okx ho.out (by omega) (by go_grown)
    ·have e1 : ((s[i].toNat : Int) == (T[j].toNat : Int)) = false := by
      rw [hTj, beq_eq_false_iff_ne]; intro h; exact heq (UInt8.toNat_inj.1 (by omega))
     have hno2 := Lib.hid (show ∀ m, m < j + 1 → ones[m]? ≠ some s[i] from fun m hm => by
      by_cases hmj : m = j
      ·subst hmj; rw [List.getElem?_eq_getElem hl]; simpa using fun e => heq e.symm
      ·exact hno m (by omega))
     clear hno hend hone heq hTj
     go_wp2_with fail
     go_quiet (fail)
     have hb2 := Lib.hid (below_step hbW.out (below_drewN _ nq))
     go_wp2
     go_roundw
     case rel => exact ⟨j + 1, hl, by go_num, hno2.out, hb2.out⟩
     case measure => simp [intOf]; omega
  have hno2 := Lib.hid (show ∀ m, m < j + 1 → twos[m]? ≠ some ((s.data.toList.drop i).take 2) from fun m hm e => by
   have h6 : ∀ x ∈ twos, x.length = 2 := by decide
   have := h6 _ (List.mem_of_getElem? e)
   rw [List.length_take, List.length_drop, size_list] at this
   omega)
  have hg : decide ((i : Int) + 2 ≤ s.size) = false := by rw [decide_eq_false_iff_not]; omega
  clear hno hend hone hcw
  go_wp2_with fail
  go_quiet (fail)
  have hb2 := Lib.hid (below_step hbW.out (below_drewN _ nq))
  go_wp2
  go_roundw
  case rel => exact ⟨j + 1, hl, by go_num, hno2.out, hb2.out⟩
  case measure => simp [intOf]; omega
end
end Go.Proofs.YtbknflaooemigaaGreat

namespace Go.Proofs.YtbknflaooemigaaGreat
section
open Go.RowKit Go.Sort
set_option linter.unusedVariables false

theorem word_small {l : List UInt8} (h : isWord l = true) : sml (l.headD 0) = true := by
 unfold isWord at h
 rw [decide_eq_true_eq] at h
 have : ∀ x ∈ words, sml (x.headD 0) = true := by decide
 exact this l h

theorem grt_not_sml {c : UInt8} (h : grt c = true) : sml c = false := by
 unfold grt at h
 rw [Bool.and_eq_true, decide_eq_true_eq, decide_eq_true_eq] at h
 have a3 : ¬ c = 95 := fun e => by rw [e] at h; exact absurd h.2 (by decide)
 simp [sml, a3]; omega

theorem head_take {l : List UInt8} {n : Nat} (h : 1 ≤ n) : (l.take n).headD 0 = l.headD 0 := by
 cases l with
 | nil => simp
 | cons c t => rw [show n = (n - 1) + 1 by omega, List.take_succ_cons]; rfl

theorem scan_le : ∀ n (m : List UInt8), m.length ≤ n → (scan m).2.1 ≤ m.length + 4 := by
 intro n
 induction n with
 | zero =>
  intro m hm
  obtain rfl : m = [] := List.eq_nil_of_length_eq_zero (by omega)
  simp [scan, rb]
 | succ n ih =>
  intro m hm
  by_cases hq : m.head? = some 34
  ·rw [scan_quote m hq]; simp
  ·by_cases hb : (rb m).2.2 = true
   ·have hz := rb_size m hb
    have hi := ih (m.drop (rb m).2.1) (by simp; omega)
    rw [scan_step m hq hb]
    simp only [List.length_drop] at hi
    show (rb m).2.1 + (scan (m.drop (rb m).2.1)).2.1 ≤ m.length + 4
    omega
   ·rw [scan_bad m hq (by simpa using hb)]
    have := rb_le m
    show (rb m).2.1 ≤ m.length + 4
    omega

theorem rone_any (s : ByteArray) (w : World) (hs : s.size ≤ 100000) (i : Nat) (hi : i < s.size) : Calls Tryz.prog 20 #[.string s, .int .i64 (i : Nat)] w (r_RetN i (one (s.data.toList.drop i)) w) := by
 have hd := drop_cons s i hi
 have hhd : (s.data.toList.drop i).headD 0 = s[i] := by rw [hd]; rfl
 have hne : s.data.toList.drop i ≠ [] := by rw [hd]; simp
 obtain ⟨K, hK⟩ : ∃ K, i + runL nam (s.data.toList.drop i) = K := ⟨_, rfl⟩
 have hKs : K ≤ s.size := by
  have := runL_le nam (s.data.toList.drop i)
  rw [List.length_drop, size_list] at this; omega
 have HI := Lib.hid (fun w => inner_any s i (by omega) (by omega) K (Lib.hid hK) w)
 have hX : (s.extract i K).data.toList = (s.data.toList.drop i).take (runL nam (s.data.toList.drop i)) := by rw [ext_list]; congr 1; omega
 have hsz : runL nam (s.data.toList.drop i) = K - i := by omega
 unfold one
 rw [hhd]
 cases h1 : sml s[i] with
 | true =>
  have hk : kdN s[i] = 1 := by rw [kdN, h1]; rfl
  have hg : grt s[i] = false := by
   cases h : grt s[i] with
   | false => rfl
   | true => have := grt_not_sml h; rw [h1] at this; cases this
  rw [if_pos (by simp)]
  cases hw : isWord ((s.data.toList.drop i).take (runL nam (s.data.toList.drop i))) with
  | true =>
   refine rone_small_true s _ w hs i K hi (by omega) hKs rfl _ (Lib.hid (kind_at hk)) HI (Lib.hid fun w => rword_at _ true (by rw [hX]; exact hw) w) (Lib.hid ?_)
   rw [hX, namK, hw, hsz]; rfl
  | false =>
   refine rone_small_false s _ w hs i K hi (by omega) hKs rfl _ (Lib.hid (kind_at hk)) HI (Lib.hid fun w => rword_at _ false (by rw [hX]; exact hw) w) (Lib.hid ?_)
   rw [hX, namK, hw, hhd, hg, hsz]; rfl
 | false =>
  cases h2 : grt s[i] with
  | true =>
   have hk : kdN s[i] = 2 := by rw [kdN, h1, h2]; rfl
   have hw : isWord ((s.data.toList.drop i).take (runL nam (s.data.toList.drop i))) = false := by
    cases hw : isWord ((s.data.toList.drop i).take (runL nam (s.data.toList.drop i))) with
    | false => rfl
    | true =>
     have := word_small hw
     rw [head_take (runL_pos (by rw [hhd]; simp [nam, h2]) hne), hhd, h1] at this
     cases this
   rw [if_pos (by simp)]
   refine rone_great s _ w hs i K hi (by omega) hKs rfl _ (Lib.hid (kind_at hk)) HI (Lib.hid ?_)
   rw [hX, namK, hw, hhd, h2, hsz]; rfl
  | false =>
   rw [if_neg (by simp)]
   cases h3 : dgt s[i] with
   | true =>
    have hk : kdN s[i] = 3 := (kd3 _).2 h3
    rw [if_pos rfl]
    exact rone_number s w hs i hi _ (Lib.hid (kind_at hk)) (Lib.hid fun w => rnum_any s w hs i hi h3)
   | false =>
    have hk : kdN s[i] = 0 := by rw [kdN, h1, h2, h3]; rfl
    rw [if_neg (by simp)]
    by_cases h34 : s[i] = 34
    ·rw [if_pos h34]
     have hxl : (s.extract i s.size).data.toList = s.data.toList.drop i := ext_end s i
     have hxs : (s.extract i s.size).size = s.size - i := by rw [← size_list, hxl, List.length_drop, size_list]
     have HR := fun w => rread_any (s.extract i s.size) w (by omega)
     rw [hxl] at HR
     unfold litOne
     cases hok : (readOf (s.data.toList.drop i)).2.2 with
     | true =>
      simp only [outR, hok, if_true] at HR
      obtain ⟨a1, a2, _⟩ := unq_read _ hok
      rw [List.length_drop, size_list] at a2
      rw [if_pos rfl]
      exact rone_lit_true s _ _ w hs i _ (i + (readOf (s.data.toList.drop i)).2.1) (by omega) hi rfl _ (by rw [h34]; rfl) (Lib.hid (kind_at hk)) (Lib.hid HR) (Lib.hid (by rw [bs_list])) (by omega)
     | false =>
      simp only [outR, hok] at HR
      rw [if_neg (by simp)]
      have hm : (readOf (s.data.toList.drop i)).2.1 ≤ 200000 := by
       rw [hd, h34, read_quote]
       have := scan_le _ (s.data.toList.drop (i + 1)) (Nat.le_refl _)
       rw [List.length_drop, size_list] at this
       show 1 + _ ≤ 200000
       omega
      exact rone_lit_false s _ _ w hs i _ 0 hm hi rfl _ (by rw [h34]; rfl) (Lib.hid (kind_at hk)) (Lib.hid HR) (Lib.hid rfl)
    ·rw [if_neg h34]
     have e34 : ((s[i].toNat : Int) == 34) = false := byte_ne (n := 34) (by decide) h34
     unfold sgnOne
     by_cases h2 : i + 2 ≤ s.size
     ·refine rone_sign_y s w hs i hi _ (s.extract i (i + 2)) h2 rfl (by rw [ext_list]; congr 1; omega) ?_ e34 (Lib.hid (kind_at hk)) ?_ ?_
      ·intro hm
       rw [sgn_two hm]; rfl
      ·intro hm ho
       rw [sgn_one hm (by rw [hhd]; exact ho), hd]; rfl
      ·intro hm ho
       rw [sgn_no hm (by rw [hhd]; exact ho)]; rfl
     ·have hm : ¬ (s.data.toList.drop i).take 2 ∈ twos := short_twos (by rw [List.length_drop, size_list]; omega)
      refine rone_sign_n s w hs i hi _ h2 e34 (Lib.hid (kind_at hk)) ?_ ?_
      ·intro ho
       rw [sgn_one hm (by rw [hhd]; exact ho), hd]; rfl
      ·intro ho
       rw [sgn_no hm (by rw [hhd]; exact ho)]; rfl
end
end Go.Proofs.YtbknflaooemigaaGreat

namespace Go.Proofs.YtbknflaooemigaaGreat
section
set_option linter.unusedVariables false

theorem plc_app (x y : List UInt8) : ∀ a b, plc a b (x ++ y) = plc (plc a b x).1 (plc a b x).2 y := by
 induction x with
 | nil => intro a b; rfl
 | cons c t ih =>
  intro a b
  rw [List.cons_append, plc, plc]
  split
  ·exact ih _ _
  ·exact ih _ _

theorem plc_nolf {x : List UInt8} (h : ∀ c ∈ x, c ≠ 10) : ∀ a b, plc a b x = (a, b + x.length) := by
 induction x with
 | nil => intro a b; rfl
 | cons c t ih =>
  intro a b
  rw [plc, if_neg (h c (by simp)), ih (fun d hd => h d (by simp [hd]))]
  simp; omega

theorem plc_cases (x : List UInt8) : (∀ a b, plc a b x = (a, b + x.length)) ∨ ∃ k m, 1 ≤ k ∧ k ≤ x.length ∧ m ≤ x.length + 1 ∧ 1 ≤ m ∧ ∀ a b, plc a b x = (a + k, m) := by
 induction x with
 | nil => exact .inl fun a b => rfl
 | cons c t ih =>
  by_cases hc : c = 10
  ·subst hc
   rcases ih with h | ⟨k, m, h1, h2, h3, h5, h4⟩
   ·exact .inr ⟨1, 1 + t.length, by omega, by simp, by simp; omega, by omega, fun a b => by rw [plc, if_pos rfl, h]⟩
   ·exact .inr ⟨k + 1, m, by omega, by simp; omega, by simp; omega, h5, fun a b => by rw [plc, if_pos rfl, h4]; simp; omega⟩
  ·rcases ih with h | ⟨k, m, h1, h2, h3, h5, h4⟩
   ·exact .inl fun a b => by rw [plc, if_neg hc, h]; simp; omega
   ·exact .inr ⟨k, m, h1, by simp; omega, by simp; omega, h5, fun a b => by rw [plc, if_neg hc, h4]⟩

theorem skip_le : ∀ (l : List UInt8) (n : Bool), skipF n l ≤ l.length := by
 intro l
 induction l with
 | nil => intro n; simp [skipF]
 | cons c t ih =>
  intro n
  rw [skipF]
  have h1 := ih false
  have h2 := ih true
  split
  ·simp; omega
  ·split
   ·simp; omega
   ·split
    ·simp; omega
    ·simp

theorem skip_true (t : List UInt8) : skipF true t = runL nlf t + skipF false (t.drop (runL nlf t)) := by
 induction t with
 | nil => rfl
 | cons c t ih =>
  by_cases hc : c = 10
  ·subst hc
   rw [runL_none (by decide), List.drop_zero, skip_lf, skip_lf]; omega
  ·rw [skip_in t hc (.inl rfl), runL_cons (by simp [nlf, hc]), List.drop_succ_cons, ih]; omega

/-- Where nothing but a token, or the end, can stand. -/
def atTok (l : List UInt8) : Prop := ∀ c, l.head? = some c → ¬ isGap c

theorem skip_stop : ∀ n (l : List UInt8), l.length ≤ n → atTok (l.drop (skipF false l)) := by
 intro n
 induction n with
 | zero =>
  intro l hl
  obtain rfl : l = [] := List.eq_nil_of_length_eq_zero (by omega)
  intro c hc; simp at hc
 | succ n ih =>
  intro l hl
  cases l with
  | nil => intro c hc; simp at hc
  | cons c t =>
   simp only [List.length_cons] at hl
   by_cases hg : isGap c
   ·rcases hg with rfl | rfl | rfl | rfl | rfl
    ·rw [skip_lf, List.drop_succ_cons]; exact ih t (by omega)
    ·rw [skip_blank t (.inl rfl), List.drop_succ_cons]; exact ih t (by omega)
    ·rw [skip_blank t (.inr (.inl rfl)), List.drop_succ_cons]; exact ih t (by omega)
    ·rw [skip_blank t (.inr (.inr rfl)), List.drop_succ_cons]; exact ih t (by omega)
    ·rw [skip_in t (by decide) (.inr rfl), List.drop_succ_cons, skip_true, ← List.drop_drop]
     exact ih _ (by simp; omega)
   ·rw [skip_tok t hg, List.drop_zero]
    intro d hd; simp at hd; subst hd; exact hg

theorem toks_skip : ∀ n (l : List UInt8), l.length ≤ n → ∀ a b, toks l a b = toks (l.drop (skipF false l)) (plc a b (l.take (skipF false l))).1 (plc a b (l.take (skipF false l))).2 := by
 intro n
 induction n with
 | zero =>
  intro l hl a b
  obtain rfl : l = [] := List.eq_nil_of_length_eq_zero (by omega)
  rfl
 | succ n ih =>
  intro l hl a b
  cases l with
  | nil => rfl
  | cons c t =>
   simp only [List.length_cons] at hl
   by_cases hg : isGap c
   ·rcases hg with rfl | rfl | rfl | rfl | rfl
    ·rw [skip_lf, List.drop_succ_cons, List.take_succ_cons, plc, if_pos rfl, toks_lf]; exact ih t (by omega) _ _
    ·rw [skip_blank t (.inl rfl), List.drop_succ_cons, List.take_succ_cons, plc, if_neg (by decide), toks_blank _ _ _ _ (.inl rfl)]; exact ih t (by omega) _ _
    ·rw [skip_blank t (.inr (.inl rfl)), List.drop_succ_cons, List.take_succ_cons, plc, if_neg (by decide), toks_blank _ _ _ _ (.inr (.inl rfl))]; exact ih t (by omega) _ _
    ·rw [skip_blank t (.inr (.inr rfl)), List.drop_succ_cons, List.take_succ_cons, plc, if_neg (by decide), toks_blank _ _ _ _ (.inr (.inr rfl))]; exact ih t (by omega) _ _
    ·rw [skip_in t (by decide) (.inr rfl), List.drop_succ_cons, List.take_succ_cons, plc, if_neg (by decide), toks_note, skip_true, ← List.drop_drop, List.take_add, plc_app]
     have hn : ∀ c ∈ t.take (runL nlf t), c ≠ 10 := fun c hc => by
      have := runL_all nlf t c hc
      unfold nlf at this; simpa using this
     rw [plc_nolf hn, List.length_take, Nat.min_eq_left (runL_le _ _)]
     rw [show b + (runL nlf t + 1) = b + 1 + runL nlf t by omega]
     exact ih _ (by simp; omega) _ _
   ·rw [skip_tok t hg, List.drop_zero, List.take_zero]; rfl

theorem dg_nolf {c : UInt8} {x : Nat} (h : dg c = some x) : c ≠ 10 := fun e => by subst e; simp [dg] at h
theorem bk_nolf {c b : UInt8} (h : bk c = some b) : c ≠ 10 := fun e => by subst e; simp [bk] at h

theorem rb_nolf (l : List UInt8) (h : (rb l).2.2 = true) : ∀ c ∈ l.take (rb l).2.1, c ≠ 10 := by
 match l with
 | [] => simp
 | c :: t =>
  by_cases h1 : c.toNat < 32 ∨ 126 < c.toNat
  ·simp [rb_out c t h1] at h
  ·by_cases h2 : c = 92
   ·subst h2
    match t with
    | [] => simp [rb_end] at h
    | d :: u =>
     by_cases h3 : d = 120
     ·subst h3
      rw [rb_x] at h ⊢
      match u with
      | [] => simp [rd_nil] at h
      | e :: v =>
       cases he : dg e with
       | none => simp [rd_bad e v he] at h
       | some x =>
        match v with
        | [] => simp [rd_one e x he] at h
        | f :: v =>
         cases hf : dg f with
         | none => simp [rd_bad2 e f v x he hf] at h
         | some y =>
          rw [rd_two e f v x y he hf]
          have a1 := dg_nolf he
          have a2 := dg_nolf hf
          simp [a1, a2]
     ·cases hb : bk d with
      | none => simp [rb_no d u h3 hb] at h
      | some b =>
       rw [rb_bk d u h3 b hb]
       have a1 := bk_nolf hb
       simp [a1]
   ·rw [rb_plain c t h1 h2]
    have a1 : c ≠ 10 := fun e => by rw [e] at h1; exact h1 (.inl (by decide))
    simp [a1]

theorem scan_nolf : ∀ n (m : List UInt8), m.length ≤ n → (scan m).2.2 = true → ∀ c ∈ m.take (scan m).2.1, c ≠ 10 := by
 intro n
 induction n with
 | zero =>
  intro m hm h
  obtain rfl : m = [] := List.eq_nil_of_length_eq_zero (by omega)
  simp
 | succ n ih =>
  intro m hm h
  by_cases hq : m.head? = some 34
  ·rw [scan_quote m hq]
   cases m with
   | nil => simp
   | cons c t => simp at hq; subst hq; simp
  ·by_cases hb : (rb m).2.2 = true
   ·have hs := scan_step m hq hb
    have hz := rb_size m hb
    rw [hs] at h
    have hi := ih (m.drop (rb m).2.1) (by simp; omega) h
    rw [hs]
    show ∀ c ∈ m.take ((rb m).2.1 + (scan (m.drop (rb m).2.1)).2.1), c ≠ 10
    rw [List.take_add]
    intro c hc
    rcases List.mem_append.1 hc with hc | hc
    ·exact rb_nolf m hb c hc
    ·exact hi c hc
   ·rw [scan_bad m hq (by simpa using hb)] at h
    simp at h

theorem nam_nolf {c : UInt8} (h : nam c = true) : c ≠ 10 := fun e => by subst e; exact absurd h (by decide)
theorem dgt_nolf {c : UInt8} (h : dgt c = true) : c ≠ 10 := fun e => by subst e; exact absurd h (by decide)

theorem one_nolf (l : List UInt8) (hl : l ≠ []) (h : (one l).err = 0) : ∀ c ∈ l.take (one l).size, c ≠ 10 := by
 unfold one at *
 split at h
 ·rename_i h1
  rw [if_pos h1]
  exact fun c hc => nam_nolf (runL_all nam l c hc)
 ·rename_i h1
  rw [if_neg h1]
  split at h
  ·rename_i h2
   rw [if_pos h2]
   unfold numOne at *
   split at h
   ·simp [bad] at h
   ·rename_i h3
    rw [if_neg h3]
    split at h
    ·simp [bad] at h
    ·rename_i h4
     rw [if_neg h4]
     show ∀ c ∈ l.take (numK l), c ≠ 10
     unfold numK
     split
     ·rename_i h5
      unfold isC at h5
      rw [decide_eq_true_eq] at h5
      rw [List.take_add]
      intro c hc
      rcases List.mem_append.1 hc with hc | hc
      ·exact dgt_nolf (runL_all dgt l c hc)
      ·cases hd : l.drop (runL dgt l) with
       | nil => rw [hd] at h5; simp at h5
       | cons a b =>
        rw [hd] at h5 hc
        simp at h5 hc
        subst hc; subst h5; decide
     ·exact fun c hc => dgt_nolf (runL_all dgt l c hc)
  ·rename_i h2
   rw [if_neg h2]
   split at h
   ·rename_i h3
    rw [if_pos h3]
    unfold litOne at *
    split at h
    ·rename_i h4
     rw [if_pos h4]
     obtain ⟨t, rfl⟩ := read_head l h4
     rw [read_quote] at h4 ⊢
     show ∀ c ∈ (34 :: t).take (1 + (scan t).2.1), c ≠ 10
     rw [show 1 + (scan t).2.1 = (scan t).2.1 + 1 by omega, List.take_succ_cons]
     intro c hc
     rcases List.mem_cons.1 hc with rfl | hc
     ·decide
     ·exact scan_nolf _ t (Nat.le_refl _) h4 c hc
    ·simp [bad] at h
   ·rename_i h3
    rw [if_neg h3]
    unfold sgnOne at *
    split at h
    ·simp [bad] at h
    ·rename_i h4
     rw [if_neg h4]
     show ∀ c ∈ l.take (sgn l), c ≠ 10
     by_cases h5 : l.take 2 ∈ twos
     ·rw [sgn_two h5]
      have h6 : ∀ x ∈ twos, ∀ c ∈ x, c ≠ 10 := by decide
      exact h6 _ h5
     ·by_cases h6 : l.headD 0 ∈ ones
      ·rw [sgn_one h5 h6]
       cases l with
       | nil => exact absurd rfl hl
       | cons c t =>
        have h7 : ∀ x ∈ ones, x ≠ 10 := by decide
        have := h7 _ h6
        simpa using this
      ·exact absurd (sgn_no h5 h6) h4
end
end Go.Proofs.YtbknflaooemigaaGreat

namespace Go.Proofs.YtbknflaooemigaaGreat
section
open Go.RowKit Go.Sort
set_option linter.unusedVariables false

theorem rone_ok (s : ByteArray) (hs : s.size ≤ 100000) (i : Nat) (hi : i < s.size) (o : One) (ho : one (s.data.toList.drop i) = o) (he : o.err = 0) (w : World) :
  Calls Tryz.prog 20 #[.string s, .int .i64 (i : Nat)] w fun e w' => e = .returned (.tuple #[tokV o.kind 0 0 o.num (bs o.text), .int .i64 ((i + o.size : Nat) : Nat), .int .i64 0]) ∧ Below w.heap.size w w' := by
 refine (rone_any s w hs i hi).mono ?_
 rw [ho]
 rintro e w' ⟨k, rfl, hk, hb⟩
 rw [hk he, if_pos he, he]
 exact ⟨rfl, hb⟩
theorem rone_err (s : ByteArray) (hs : s.size ≤ 100000) (i : Nat) (hi : i < s.size) (o : One) (ho : one (s.data.toList.drop i) = o) (he : ¬ o.err = 0) (w : World) :
  Calls Tryz.prog 20 #[.string s, .int .i64 (i : Nat)] w fun e w' => ∃ k : Nat, e = .returned (.tuple #[tokV k 0 0 o.num (bs o.text), .int .i64 0, .int .i64 o.err]) ∧ Below w.heap.size w w' := by
 refine (rone_any s w hs i hi).mono ?_
 rw [ho]
 rintro e w' ⟨k, rfl, hk, hb⟩
 rw [if_neg he]
 exact ⟨k, rfl, hb⟩

abbrev none0 : Obj := Obj.cells #[] 38
def InvR (s : ByteArray) (w : World) (R : Res) (i f line col : Nat) (v : Value) (acc : List Tok) (w' : World) : Prop :=
 i ≤ s.size ∧ f ≤ i ∧ line ≤ f + 1 ∧ col ≤ f + 1 ∧ 1 ≤ col ∧ acc.length ≤ i ∧ atTok (s.data.toList.drop i) ∧
 (toks (s.data.toList.drop i) (plc line col ((s.data.toList.drop f).take (i - f))).1 (plc line col ((s.data.toList.drop f).take (i - f))).2).map (acc ++ ·) = R ∧
 OwnT w' (w.heap.size + 2) v acc ∧ Below (w.heap.size + 2) ((w.alloc zFau).alloc none0) w'

theorem InvR.start (s : ByteArray) (w w' : World) (R : Res) (hR : toks s.data.toList 1 1 = R) (n : Nat) (hn : 0 + skipF false (s.data.toList.drop 0) = n) (v : Value) (ho : OwnT w' (w.heap.size + 2) v []) (hb : Below (w.heap.size + 2) ((w.alloc zFau).alloc none0) w') :
  InvR s w R n 0 1 1 v [] w' := by
 rw [List.drop_zero] at hn
 have hle := skip_le s.data.toList false
 rw [size_list] at hle
 have hn' : skipF false s.data.toList = n := by omega
 refine ⟨by omega, by omega, by omega, by omega, by omega, by simp, ?_, ?_, ho, hb⟩
 ·rw [← hn']; exact skip_stop _ _ (Nat.le_refl _)
 ·rw [← hR, toks_skip _ s.data.toList (Nat.le_refl _) 1 1, hn', List.drop_zero, Nat.sub_zero]
  cases toks (s.data.toList.drop n) (plc 1 1 (s.data.toList.take n)).1 (plc 1 1 (s.data.toList.take n)).2 <;> rfl

theorem InvR.bnd {s : ByteArray} {w w' : World} {R : Res} {i f line col : Nat} {v : Value} {acc : List Tok} (h : InvR s w R i f line col v acc w') {L C : Nat} (hp : plc line col ((s.data.toList.drop f).take (i - f)) = (L, C)) : L ≤ i + 1 ∧ C ≤ i + 1 ∧ 1 ≤ C := by
 obtain ⟨h1, h2, h3, h4, h45, h5, h6, h7, h8, h9⟩ := h
 have hlen : ((s.data.toList.drop f).take (i - f)).length = i - f := by rw [List.length_take, List.length_drop, size_list]; omega
 rcases plc_cases ((s.data.toList.drop f).take (i - f)) with hc | ⟨k, m, a1, a2, a3, a5, a4⟩
 ·rw [hc, hlen] at hp
  simp only [Prod.mk.injEq] at hp
  omega
 ·rw [a4] at hp
  rw [hlen] at a2 a3
  simp only [Prod.mk.injEq] at hp
  omega

theorem InvR.fin {s : ByteArray} {w w' : World} {R : Res} {i f line col : Nat} {v : Value} {acc : List Tok} (h : InvR s w R i f line col v acc w') {L C : Nat} (hp : plc line col ((s.data.toList.drop f).take (i - f)) = (L, C)) (hlt : ¬ i < s.size) :
  R = .ok (acc ++ [⟨8, L, C, 0, []⟩]) := by
 obtain ⟨h1, h2, h3, h4, h45, h5, h6, h7, h8, h9⟩ := h
 rw [hp, drop_end s i (by omega), toks_nil] at h7
 rw [← h7]; rfl
theorem InvR.bad {s : ByteArray} {w w' : World} {R : Res} {i f line col : Nat} {v : Value} {acc : List Tok} {o : One} (h : InvR s w R i f line col v acc w') {L C : Nat} (hp : plc line col ((s.data.toList.drop f).take (i - f)) = (L, C)) (hlt : i < s.size)
  (ho : one (s.data.toList.drop i) = o) (he : ¬ o.err = 0) : R = .error (o.err, L, C) := by
 obtain ⟨h1, h2, h3, h4, h45, h5, h6, h7, h8, h9⟩ := h
 have hd := drop_cons s i hlt
 have hg : ¬ isGap s[i] := h6 _ (by rw [hd]; rfl)
 rw [hp, hd] at h7
 rw [hd] at ho
 rw [toks_bad _ _ _ _ hg (by rw [ho]; exact he), ho] at h7
 rw [← h7]; rfl
theorem InvR.tok {s : ByteArray} {w w' w2 : World} {R : Res} {i f line col : Nat} {v v2 : Value} {acc : List Tok} {o : One} (h : InvR s w R i f line col v acc w') {L C : Nat} (hp : plc line col ((s.data.toList.drop f).take (i - f)) = (L, C)) (hlt : i < s.size)
  (ho : one (s.data.toList.drop i) = o) (he : o.err = 0) (n : Nat) (hn : i + o.size + skipF false (s.data.toList.drop (i + o.size)) = n) :
  1 ≤ o.size ∧ i + o.size ≤ s.size ∧ n ≤ s.size ∧ (OwnT w2 (w.heap.size + 2) v2 (acc ++ [⟨o.kind, L, C, o.num, o.text⟩]) → Below (w.heap.size + 2) w' w2 →
   InvR s w R n i L C v2 (acc ++ [⟨o.kind, L, C, o.num, o.text⟩]) w2) := by
 obtain ⟨bL, bC, bC1⟩ := h.bnd hp
 obtain ⟨h1, h2, h3, h4, h45, h5, h6, h7, h8, h9⟩ := h
 have hd := drop_cons s i hlt
 have hg : ¬ isGap s[i] := h6 _ (by rw [hd]; rfl)
 have hne : s.data.toList.drop i ≠ [] := by rw [hd]; simp
 have hk := one_ok _ hne (by rw [ho]; exact he)
 have hnl := one_nolf _ hne (by rw [ho]; exact he)
 rw [ho] at hnl
 rw [ho, List.length_drop, size_list] at hk
 have hsk := skip_le (s.data.toList.drop (i + o.size)) false
 rw [List.length_drop, size_list] at hsk
 refine ⟨hk.1, by omega, by omega, fun ho2 hb2 => ⟨by omega, by omega, bL, bC, bC1, by simp; omega, ?_, ?_, ho2, h9.trans hb2⟩⟩
 ·rw [← hn, ← List.drop_drop]
  exact skip_stop _ _ (Nat.le_refl _)
 ·rw [hp] at h7
  have h7' : (toks (s.data.toList.drop i) L C).map (acc ++ ·) = R := h7
  have ho' := ho
  rw [hd] at h7' ho'
  rw [toks_tok _ _ _ _ hg (by rw [ho']; exact he), ho', ← hd, List.drop_drop] at h7'
  rw [toks_skip _ (s.data.toList.drop (i + o.size)) (Nat.le_refl _), List.drop_drop, hn] at h7'
  have hx : (s.data.toList.drop i).take (n - i) = (s.data.toList.drop i).take o.size ++ (s.data.toList.drop (i + o.size)).take (skipF false (s.data.toList.drop (i + o.size))) := by
   rw [show n - i = o.size + skipF false (s.data.toList.drop (i + o.size)) by omega, List.take_add, List.drop_drop]
  have hlen : ((s.data.toList.drop i).take o.size).length = o.size := by rw [List.length_take, List.length_drop, size_list]; omega
  rw [hx, plc_app, plc_nolf hnl, hlen, ← h7']
  cases toks (List.drop n s.data.toList) (plc L (C + o.size) ((s.data.toList.drop (i + o.size)).take (skipF false (s.data.toList.drop (i + o.size))))).1 (plc L (C + o.size) ((s.data.toList.drop (i + o.size)).take (skipF false (s.data.toList.drop (i + o.size))))).2 with
  | ok l => simp [Except.map]
  | error f => rfl

theorem fau_cells2 {w w' : World} (h : Below (w.heap.size + 2) ((w.alloc zFau).alloc none0) w') : w'.cell? ⟨w.heap.size, 0, none⟩ = some (.int .i64 0) ∧ w'.cell? ⟨w.heap.size, 1, none⟩ = some (.int .i64 0) ∧ w'.cell? ⟨w.heap.size, 2, none⟩ = some (.int .i64 0) ∧ ∀ o, w'.frozen? ⟨w.heap.size, o, none⟩ = false :=
 fau_cells (((below_alloc (w.alloc zFau) none0).mono (by simp)).trans (h.mono (by omega)))
theorem fau_below2 {w w' : World} (h : Below (w.heap.size + 2) ((w.alloc zFau).alloc none0) w') : Below w.heap.size w w' :=
 fau_below (((below_alloc (w.alloc zFau) none0).mono (by simp)).trans (h.mono (by omega)))
theorem none_own {w w' : World} (h : Below (w.heap.size + 2) ((w.alloc zFau).alloc none0) w') : OwnT w' (w.heap.size + 1) (.slice (some ⟨w.heap.size + 1, 0, none⟩) 0 0) [] := by
 have h0 := ownT_empty (w := w.alloc zFau) (B := w.heap.size + 1) (by simp)
 rw [show (w.alloc zFau).heap.size = w.heap.size + 1 by simp] at h0
 exact ownT_carry h0 (by rw [show ((w.alloc zFau).alloc none0).heap.size = w.heap.size + 2 by simp]; exact h)

set_option maxHeartbeats 4000000 in
set_option maxRecDepth 100000 in
theorem rtokens_core (s : ByteArray) (w : World) (hs : s.size ≤ 65536) (R : Res) (hR : Hid (toks s.data.toList 1 1 = R)) : Calls Tryz.prog 11 #[.string s] w (RetT w R) := by
 obtain ⟨n0, hn0⟩ : ∃ n, 0 + skipF false (s.data.toList.drop 0) = n := ⟨_, rfl⟩
 have HS0 := Lib.hid (fun w => skip_any s 0 (by omega) (by omega) n0 (Lib.hid hn0) w)
 have hst := Lib.hid (fun w' v => InvR.start s w w' R hR.out n0 hn0 v)
 clear hn0 hR
 go_enter Tryz.func11, Tryz.ntmps11
 go_wp2_with fail
 refine (HS0.out _).mono ?_
 rintro _ w' ⟨rfl, rfl⟩
 go_wp2
 go_loopw [5, 6, 7, 8, 9] (fun v a b c d wr => ∃ (i f line col : Nat) (acc : List Tok), a = .int .i64 (i : Nat) ∧ b = .int .i64 (f : Nat) ∧ c = .int .i64 (line : Nat) ∧ d = .int .i64 (col : Nat) ∧ InvR s w R i f line col v acc wr) (fun _ a _ _ _ _ => s.size - (intOf a).toNat)
 case atStart =>
  refine ⟨n0, 0, 1, 1, [], rfl, rfl, rfl, rfl, hst.out _ _ ?_ ?_⟩
  ·have := ownT_empty (w := (w.alloc zFau).alloc none0) (B := w.heap.size + 2) (by simp)
   rw [show ((w.alloc zFau).alloc none0).heap.size = w.heap.size + 1 + 1 by simp] at this
   exact this
  ·exact (below_alloc _ _).mono (by simp)
 case round =>
  clear hst HS0
  obtain ⟨i, f, line, col, acc, rfl, rfl, rfl, rfl, hI⟩ := hrel
  have h1 := hI.1
  have h2 := hI.2.1
  have h3 := hI.2.2.1
  have h4 := hI.2.2.2.1
  have h45 := hI.2.2.2.2.1
  have h5 := hI.2.2.2.2.2.1
  have ho := Lib.hid hI.2.2.2.2.2.2.2.2.1
  have hb := Lib.hid hI.2.2.2.2.2.2.2.2.2
  have hbs : w.heap.size + 2 ≤ wr.heap.size := by have := hb.out.size; simpa using this
  obtain ⟨o, hone⟩ : ∃ o, i < s.size → one (s.data.toList.drop i) = o := ⟨_, fun _ => rfl⟩
  obtain ⟨X, hX⟩ : ∃ X, s.extract f s.size = X := ⟨_, rfl⟩
  obtain ⟨m, hm⟩ : ∃ m, i - f = m := ⟨_, rfl⟩
  have hm1 : (i : Int) - f = m := by omega
  have hXl : X.data.toList = s.data.toList.drop f := by rw [← hX, ext_end]
  have hXs : X.size = s.size - f := by rw [← size_list, hXl, List.length_drop, size_list]
  have HPl := Lib.hid (fun w => place_any X m (by omega) (by omega) _ (Lib.hid rfl) w)
  rw [hXl] at HPl
  have hp0 := hm ▸ (rfl : plc line col ((s.data.toList.drop f).take (i - f)) = _)
  have hlen : ((s.data.toList.drop f).take m).length = m := by rw [List.length_take, List.length_drop, size_list]; omega
  clear hXl hXs
  rcases plc_cases ((s.data.toList.drop f).take m) with hc | ⟨k, mm, a1, a2, a3, a5, a4⟩
  ·obtain ⟨C, hC0⟩ : ∃ C, col + m = C := ⟨_, rfl⟩
   have hp : plc line col ((s.data.toList.drop f).take (i - f)) = (line, C) := by rw [hm, hc, hlen, hC0]
   rw [hc, hlen] at HPl
   obtain ⟨dc, hdc⟩ : ∃ dc, 1 + m = dc := ⟨_, rfl⟩
   rw [hdc] at HPl
   have HPl : Hid (∀ w, Calls Tryz.prog 19 #[.string X, .int .i64 (m : Nat)] w fun e w' => e = .returned (.tuple #[.int .i64 1, .int .i64 (dc : Nat)]) ∧ w = w') := HPl
   obtain ⟨d1, hd10⟩ : ∃ d1, dc - 1 = d1 := ⟨_, rfl⟩
   clear hc hp0
   have hd1 : (dc : Int) - 1 = d1 := by omega
   have hC : (col : Int) + d1 = C := by omega
   by_cases hlt : i < s.size
   case neg =>
    have HR := Lib.hid (hI.fin hp hlt)
    have hge : ¬ (i : Int) < s.size := by omega
    have hge2 : (s.size : Int) ≤ i := by omega
    clear hI hp
    go_wp2_with fail
    refine (HPl.out _).mono ?_
    rintro _ w' ⟨rfl, rfl⟩
    go_wp2_with (at_builtin; refine wpList_appT rfl _ _ rfl (w.heap.size + 2) u5 acc ⟨8, line, C, 0, []⟩ wr.heap.size rfl rfl rfl rfl ho.out hbs (by omega) ?_; intro v2 w2 ho2 hb2; obtain ⟨c0, c1, c2, c3⟩ := fau_cells2 (hb.out.trans hb2); replace ho2 := Lib.hid ho2; replace hb2 := Lib.hid hb2)
    refine bodyPost_ret (v := .tuple #[v2, fV (0, 0, 0)]) (by simp [results, Tryz.results11, go_sem, c0, c1, c2]) rfl ?_
    have hbb := fau_below2 (hb.out.trans hb2.out)
    rw [HR.out]
    exact ⟨v2, rfl, ownT_mono (ownT_set (ownT_set (ownT_set ho2.out (by simp)) (by simp)) (by simp)) (by omega), by go_grown⟩
   have hge : (i : Int) < s.size := by omega
   by_cases herr : o.err = 0
   ·obtain ⟨n, hn⟩ : ∃ n, i + o.size + skipF false (s.data.toList.drop (i + o.size)) = n := ⟨_, rfl⟩
    obtain ⟨k1, k2, k3, -⟩ := hI.tok (w2 := wr) (v2 := u5) hp hlt (hone hlt) herr n hn
    have HI := Lib.hid (fun w2 v2 => (hI.tok (w2 := w2) (v2 := v2) hp hlt (hone hlt) herr n hn).2.2.2)
    have HO := Lib.hid (fun w => rone_ok s (by omega) i hlt o (hone hlt) herr w)
    obtain ⟨en, hen⟩ : ∃ en, i + o.size = en := ⟨_, rfl⟩
    have hni := Lib.hid (show i < n by omega)
    rw [hen] at HO hn k2
    have HS := Lib.hid (fun w => skip_any s en (by omega) (by omega) n (Lib.hid hn) w)
    obtain ⟨err, sz, kd, nm, tx⟩ := o
    simp only at herr HO HI
    subst herr
    clear hI hp hone hn k1 hen
    go_wp2_with fail
    refine (HPl.out _).mono ?_
    rintro _ w' ⟨rfl, rfl⟩
    go_wp2_with fail
    refine (HO.out _).mono ?_
    rintro _ w1 ⟨rfl, hb1⟩
    have ho1 := Lib.hid (ownT_carry ho.out hb1)
    have hbs1 := hb1.size
    replace hb1 := Lib.hid (hb1.mono hbs)
    go_wp2_with (at_builtin; refine wpList_appT rfl _ _ rfl (w.heap.size + 2) u5 acc ⟨kd, line, C, nm, tx⟩ (w1.heap.size + 1) (by simp) rfl rfl rfl (ownT_carry ho1.out (by go_grown)) (by simp; omega) (by omega) ?_; intro v2 w2 ho2 hb2; replace ho2 := Lib.hid ho2; replace hb2 := Lib.hid ((hb1.out.trans ((by go_grown : Below w1.heap.size w1 _).mono (Nat.le_trans hbs hbs1))).trans hb2))
    refine (HS.out _).mono ?_
    rintro _ w3 ⟨rfl, rfl⟩
    go_wp2
    go_roundw
    case rel => exact ⟨n, i, line, C, _, rfl, rfl, rfl, rfl, HI.out _ _ ho2.out hb2.out⟩
    case measure => have := hni.out; simp [intOf]; omega
   ·have HR := Lib.hid (hI.bad hp hlt (hone hlt) herr)
    have HO := Lib.hid (fun w => rone_err s (by omega) i hlt o (hone hlt) herr w)
    obtain ⟨err, sz, kd, nm, tx⟩ := o
    simp only at herr HR HO
    have herr2 : (err != 0) = true := by simpa using herr
    clear hI hp hone herr
    go_wp2_with fail
    refine (HPl.out _).mono ?_
    rintro _ w' ⟨rfl, rfl⟩
    go_wp2_with fail
    refine (HO.out _).mono ?_
    rintro _ w1 ⟨k, rfl, hb1⟩
    obtain ⟨c0, c1, c2, c3⟩ := fau_cells2 (hb.out.trans (hb1.mono hbs))
    have d0 := fun O => cell_alloc c0 O
    have d1' := fun O => cell_alloc c1 O
    have d2 := fun O => cell_alloc c2 O
    have d3 := fun o O => froz_alloc c0 (c3 o) O
    have hbs1 := hb1.size
    replace hb1 := Lib.hid (hb1.mono hbs)
    go_wp2
    refine bodyPost_ret (v := .tuple #[.slice (some ⟨w.heap.size + 1, 0, none⟩) 0 0, fV (err, line, C)]) (by simp [results, Tryz.results11, go_sem, d0, d1', d2]) rfl ?_
    have hbb := fau_below2 (hb.out.trans hb1.out)
    have hno := none_own (hb.out.trans hb1.out)
    rw [HR.out]
    exact ⟨_, rfl, ownT_mono (ownT_set (ownT_set (ownT_set (ownT_carry hno (below_alloc _ _)) (by simp)) (by simp)) (by simp)) (by omega), by go_grown⟩
  ·obtain ⟨L, hL0⟩ : ∃ L, line + k = L := ⟨_, rfl⟩
   obtain ⟨dc, hdc⟩ : ∃ dc, mm = dc := ⟨_, rfl⟩
   have hp : plc line col ((s.data.toList.drop f).take (i - f)) = (L, dc) := by rw [hm, a4, hL0, hdc]
   rw [a4, hdc] at HPl
   obtain ⟨dl, hdl0⟩ : ∃ dl : Nat, 1 + k = dl := ⟨_, rfl⟩
   rw [hdl0] at HPl
   obtain ⟨d1, hd10⟩ : ∃ d1, dl - 1 = d1 := ⟨_, rfl⟩
   rw [hlen] at a2 a3
   clear a4 hp0
   have hdl : (1 : Int) < dl := by omega
   have hd1 : (dl : Int) - 1 = d1 := by omega
   have hL : (line : Int) + d1 = L := by omega
   by_cases hlt : i < s.size
   case neg =>
    have HR := Lib.hid (hI.fin hp hlt)
    have hge : ¬ (i : Int) < s.size := by omega
    have hge2 : (s.size : Int) ≤ i := by omega
    clear hI hp
    go_wp2_with fail
    refine (HPl.out _).mono ?_
    rintro _ w' ⟨rfl, rfl⟩
    go_wp2_with (at_builtin; refine wpList_appT rfl _ _ rfl (w.heap.size + 2) u5 acc ⟨8, L, dc, 0, []⟩ wr.heap.size rfl rfl rfl rfl ho.out hbs (by omega) ?_; intro v2 w2 ho2 hb2; obtain ⟨c0, c1, c2, c3⟩ := fau_cells2 (hb.out.trans hb2); replace ho2 := Lib.hid ho2; replace hb2 := Lib.hid hb2)
    refine bodyPost_ret (v := .tuple #[v2, fV (0, 0, 0)]) (by simp [results, Tryz.results11, go_sem, c0, c1, c2]) rfl ?_
    have hbb := fau_below2 (hb.out.trans hb2.out)
    rw [HR.out]
    exact ⟨v2, rfl, ownT_mono (ownT_set (ownT_set (ownT_set ho2.out (by simp)) (by simp)) (by simp)) (by omega), by go_grown⟩
   have hge : (i : Int) < s.size := by omega
   by_cases herr : o.err = 0
   ·obtain ⟨n, hn⟩ : ∃ n, i + o.size + skipF false (s.data.toList.drop (i + o.size)) = n := ⟨_, rfl⟩
    obtain ⟨k1, k2, k3, -⟩ := hI.tok (w2 := wr) (v2 := u5) hp hlt (hone hlt) herr n hn
    have HI := Lib.hid (fun w2 v2 => (hI.tok (w2 := w2) (v2 := v2) hp hlt (hone hlt) herr n hn).2.2.2)
    have HO := Lib.hid (fun w => rone_ok s (by omega) i hlt o (hone hlt) herr w)
    obtain ⟨en, hen⟩ : ∃ en, i + o.size = en := ⟨_, rfl⟩
    have hni := Lib.hid (show i < n by omega)
    rw [hen] at HO hn k2
    have HS := Lib.hid (fun w => skip_any s en (by omega) (by omega) n (Lib.hid hn) w)
    obtain ⟨err, sz, kd, nm, tx⟩ := o
    simp only at herr HO HI
    subst herr
    clear hI hp hone hn k1 hen
    go_wp2_with fail
    refine (HPl.out _).mono ?_
    rintro _ w' ⟨rfl, rfl⟩
    go_wp2_with fail
    refine (HO.out _).mono ?_
    rintro _ w1 ⟨rfl, hb1⟩
    have ho1 := Lib.hid (ownT_carry ho.out hb1)
    have hbs1 := hb1.size
    replace hb1 := Lib.hid (hb1.mono hbs)
    go_wp2_with (at_builtin; refine wpList_appT rfl _ _ rfl (w.heap.size + 2) u5 acc ⟨kd, L, dc, nm, tx⟩ (w1.heap.size + 1) (by simp) rfl rfl rfl (ownT_carry ho1.out (by go_grown)) (by simp; omega) (by omega) ?_; intro v2 w2 ho2 hb2; replace ho2 := Lib.hid ho2; replace hb2 := Lib.hid ((hb1.out.trans ((by go_grown : Below w1.heap.size w1 _).mono (Nat.le_trans hbs hbs1))).trans hb2))
    refine (HS.out _).mono ?_
    rintro _ w3 ⟨rfl, rfl⟩
    go_wp2
    go_roundw
    case rel => exact ⟨n, i, L, dc, _, rfl, rfl, rfl, rfl, HI.out _ _ ho2.out hb2.out⟩
    case measure => have := hni.out; simp [intOf]; omega
   ·have HR := Lib.hid (hI.bad hp hlt (hone hlt) herr)
    have HO := Lib.hid (fun w => rone_err s (by omega) i hlt o (hone hlt) herr w)
    obtain ⟨err, sz, kd, nm, tx⟩ := o
    simp only at herr HR HO
    have herr2 : (err != 0) = true := by simpa using herr
    clear hI hp hone herr
    go_wp2_with fail
    refine (HPl.out _).mono ?_
    rintro _ w' ⟨rfl, rfl⟩
    go_wp2_with fail
    refine (HO.out _).mono ?_
    rintro _ w1 ⟨k, rfl, hb1⟩
    obtain ⟨c0, c1, c2, c3⟩ := fau_cells2 (hb.out.trans (hb1.mono hbs))
    have d0 := fun O => cell_alloc c0 O
    have d1' := fun O => cell_alloc c1 O
    have d2 := fun O => cell_alloc c2 O
    have d3 := fun o O => froz_alloc c0 (c3 o) O
    have hbs1 := hb1.size
    replace hb1 := Lib.hid (hb1.mono hbs)
    go_wp2
    refine bodyPost_ret (v := .tuple #[.slice (some ⟨w.heap.size + 1, 0, none⟩) 0 0, fV (err, L, dc)]) (by simp [results, Tryz.results11, go_sem, d0, d1', d2]) rfl ?_
    have hbb := fau_below2 (hb.out.trans hb1.out)
    have hno := none_own (hb.out.trans hb1.out)
    rw [HR.out]
    exact ⟨_, rfl, ownT_mono (ownT_set (ownT_set (ownT_set (ownT_carry hno (below_alloc _ _)) (by simp)) (by simp)) (by simp)) (by omega), by go_grown⟩
end
end Go.Proofs.YtbknflaooemigaaGreat
