/-
 Contracts and plain facts on the way to PrettyBack. Conditions: as each says.
-/
import Derived.Test.YtoaplbljflhheaaGreatBau
import Derived.Test.YtoaplbljflhheaaGreatBap
import Derived.Test.YtoaplbljflhheaaGreatBar
set_option maxHeartbeats 40000000
set_option maxRecDepth 100000
set_option linter.unusedVariables false
set_option linter.unusedSimpArgs false
namespace Go.Proofs.YtoaplbljflhheaaGreat
open _root_.Go.Proofs.Tryz
section
section
open Go.RowKit Go.Sort
abbrev Vy (c : UInt8) (k : Nat) : Prop := ∀ w, Calls prog 163 #[byt c] w fun e w' => e = .returned (.int .i64 (k : Nat)) ∧ w = w'
theorem Lz {c : UInt8} {k : Nat} (h : kdN c = k) : Vy c k := fun w => h ▸ Uf c w
theorem I5 {i k m : Nat} {n : Int} {X : ByteArray} {o : One} {w w' : World} (h : o = ⟨0, m, k, n, X.data.toList⟩) {E : Nat} (hE : E = i + m) (hb : Below w.heap.size w w') : Jn i o w (.returned (.tuple #[Jl k 0 0 n X, .int .i64 (E : Nat), .int .i64 0])) w' := by
 have := b38 h hE hb
 rwa [Ry] at this
theorem c28 {w' w1 : World} {b : Nat} {v0 v1 v2 v3 v4 : Value} (hb : w'.heap.size = b) (h : Below (w'.alloc (Obj.cells #[v0, v1, v2, v3, v4] 89)).heap.size (w'.alloc (Obj.cells #[v0, v1, v2, v3, v4] 89)) w1) : w1.cell? ⟨b, 0, none⟩ = some v0 ∧ w1.cell? ⟨b, 1, none⟩ = some v1 ∧ w1.cell? ⟨b, 2, none⟩ = some v2 ∧
  w1.cell? ⟨b, 3, none⟩ = some v3 ∧ w1.cell? ⟨b, 4, none⟩ = some v4 ∧ ∀ o, w1.frozen? ⟨b, o, none⟩ = false := by
 subst hb;refine ⟨?_, ?_, ?_, ?_, ?_, fun o => ?_⟩
 ·rw [(Cr h).1 _ _ (by simp)]; simp [go_sem]
 ·rw [(Cr h).1 _ _ (by simp)]; simp [go_sem]
 ·rw [(Cr h).1 _ _ (by simp)]; simp [go_sem]
 ·rw [(Cr h).1 _ _ (by simp)]; simp [go_sem]
 ·rw [(Cr h).1 _ _ (by simp)]; simp [go_sem]
 ·rw [(Cr h).2 _ _ (by simp)]; simp [go_sem]
theorem a0p (s X : ByteArray) (w : World) (hs : s.size <= 100000) (i K : Nat) (hi : i < s.size) (hiK : i <= K) (hK : K <= s.size) (hX : s.extract i K = X) (o : One) (H21 : Hid (Vy s[i] 2)) (HI : Hid (∀ w, Calls prog 164 #[.string s, .int .i64 (i : Nat)] w fun e w' => e = .returned (.int .i64 (K : Nat)) ∧ w = w'))
  (ho : Hid (o = ⟨0, K - i, 2, 0, X.data.toList⟩)) : Calls prog 125 #[.string s, .int .i64 (i : Nat)] w (Jn i o w) := by
 go_enter func125, ntmps125;go_wp2_with fail;refine (H21.out _).mono ?_;rintro _ w' ⟨rfl, rfl⟩;go_wp2_with fail;refine (HI.out _).mono ?_;rintro _ w' ⟨rfl, rfl⟩;go_wp2_with fail;refine (H21.out _).mono ?_;rintro _ w' ⟨rfl, rfl⟩;go_wp2;refine bodyPost_ret (v := .tuple #[Jl 2 0 0 0 X, .int .i64 (K : Nat), .int .i64 0]) (by simp [results, results125, go_sem]) rfl ?_;exact I5 ho.out (by omega) (by go_grown)
theorem Pa (s X : ByteArray) (w : World) (hs : s.size <= 100000) (i K : Nat) (hi : i < s.size) (hiK : i <= K) (hK : K <= s.size) (hX : s.extract i K = X) (o : One) (H21 : Hid (Vy s[i] 1)) (HI : Hid (∀ w, Calls prog 164 #[.string s, .int .i64 (i : Nat)] w fun e w' => e = .returned (.int .i64 (K : Nat)) ∧ w = w'))
  (HW : Hid (∀ w, Calls prog 165 #[.string X] w fun e w' => e = .returned (.bool true) ∧ Below w.heap.size w w'))
  (ho : Hid (o = ⟨0, K - i, 6, 0, X.data.toList⟩)) : Calls prog 125 #[.string s, .int .i64 (i : Nat)] w (Jn i o w) := by
 go_enter func125, ntmps125;go_wp2_with fail;refine (H21.out _).mono ?_;rintro _ w' ⟨rfl, rfl⟩;go_wp2_with fail;refine (HI.out _).mono ?_;rintro _ w' ⟨rfl, rfl⟩;go_wp2_with fail;refine (H21.out _).mono ?_;rintro _ w' ⟨rfl, rfl⟩;go_wp2_with fail;refine (HW.out _).mono ?_;rintro _ w1 ⟨rfl, hb⟩;obtain ⟨z0, z1, z2, z3, z4, z5⟩ := c1c (by go_grown) hb;obtain ⟨y0, y1, y2, y3, y4, y5⟩ := c28 (b := w.heap.size + 1) (by simp) hb;have hz := hb.size;simp only [World.size_alloc] at hz;have hb' := (by go_grown : Below w.heap.size w _).trans (hb.mono (by simp; omega));clear hb;replace hb' := zz hb';go_wp2;refine bodyPost_ret (v := .tuple #[Jl 6 0 0 0 X, .int .i64 (K : Nat), .int .i64 0]) (by simp [results, results125, go_sem, z0, z1, z2, z3, z4]) rfl ?_;replace hb' := hb'.out;exact I5 ho.out (by omega) (by go_grown)
theorem N3 (s X : ByteArray) (w : World) (hs : s.size <= 100000) (i K : Nat) (hi : i < s.size) (hiK : i <= K) (hK : K <= s.size) (hX : s.extract i K = X) (o : One) (H21 : Hid (Vy s[i] 1)) (HI : Hid (∀ w, Calls prog 164 #[.string s, .int .i64 (i : Nat)] w fun e w' => e = .returned (.int .i64 (K : Nat)) ∧ w = w'))
  (HW : Hid (∀ w, Calls prog 165 #[.string X] w fun e w' => e = .returned (.bool false) ∧ Below w.heap.size w w'))
  (ho : Hid (o = ⟨0, K - i, 1, 0, X.data.toList⟩)) : Calls prog 125 #[.string s, .int .i64 (i : Nat)] w (Jn i o w) := by
 go_enter func125, ntmps125;go_wp2_with fail;refine (H21.out _).mono ?_;rintro _ w' ⟨rfl, rfl⟩;go_wp2_with fail;refine (HI.out _).mono ?_;rintro _ w' ⟨rfl, rfl⟩;go_wp2_with fail;refine (H21.out _).mono ?_;rintro _ w' ⟨rfl, rfl⟩;go_wp2_with fail;refine (HW.out _).mono ?_;rintro _ w1 ⟨rfl, hb⟩;obtain ⟨z0, z1, z2, z3, z4, z5⟩ := c1c (by go_grown) hb;obtain ⟨y0, y1, y2, y3, y4, y5⟩ := c28 (b := w.heap.size + 1) (by simp) hb;have hz := hb.size;simp only [World.size_alloc] at hz;have hb' := (by go_grown : Below w.heap.size w _).trans (hb.mono (by simp; omega));clear hb;replace hb' := zz hb';go_wp2;refine bodyPost_ret (v := .tuple #[Jl 1 0 0 0 X, .int .i64 (K : Nat), .int .i64 0]) (by simp [results, results125, go_sem, z0, z1, z2, z3, z4]) rfl ?_;replace hb' := hb'.out;exact I5 ho.out (by omega) (by go_grown)
theorem Sb (s X T : ByteArray) (w : World) (hs : s.size <= 100000) (i m E : Nat) (hm : m <= 200000) (hi : i < s.size) (hX : s.extract i s.size = X) (o : One) (e34 : ((s[i].toNat : Int) == 34) = true) (H21 : Hid (Vy s[i] 0))
  (HR : Hid (∀ w, Calls prog 167 #[.string X] w fun e w' => e = .returned (.tuple #[.string T, .int .i64 (m : Nat), .bool true]) ∧ Below w.heap.size w w'))
  (ho : Hid (o = ⟨0, m, 5, 0, T.data.toList⟩)) (hE : ((i : Int) + m) = E) : Calls prog 125 #[.string s, .int .i64 (i : Nat)] w (Jn i o w) := by
 go_enter func125, ntmps125;go_wp2_with fail;refine (H21.out _).mono ?_;rintro _ w' ⟨rfl, rfl⟩;go_wp2_with fail;refine (HR.out _).mono ?_;rintro _ w1 ⟨rfl, hb⟩;obtain ⟨hc, hf⟩ := Cr hb;have hz := hb.size;simp only [World.size_alloc] at hc hf hz;go_wp2;refine bodyPost_ret (v := .tuple #[Jl 5 0 0 0 T, .int .i64 (E : Nat), .int .i64 0]) (by simp [results, results125, go_sem, hc]) rfl ?_;have hb' := (by go_grown : Below w.heap.size w _).trans (hb.mono (by simp));exact I5 ho.out (by omega) (by go_grown)
theorem Qr (s X T : ByteArray) (w : World) (hs : s.size <= 100000) (i m E : Nat) (hm : m <= 200000) (hi : i < s.size) (hX : s.extract i s.size = X) (o : One) (e34 : ((s[i].toNat : Int) == 34) = true) (H21 : Hid (Vy s[i] 0))
  (HR : Hid (∀ w, Calls prog 167 #[.string X] w fun e w' => e = .returned (.tuple #[.string T, .int .i64 (m : Nat), .bool false]) ∧ Below w.heap.size w w'))
  (ho : Hid (o = bad 4)) : Calls prog 125 #[.string s, .int .i64 (i : Nat)] w (Jn i o w) := by
 go_enter func125, ntmps125;go_wp2_with fail;refine (H21.out _).mono ?_;rintro _ w' ⟨rfl, rfl⟩;go_wp2_with fail;refine (HR.out _).mono ?_;rintro _ w1 ⟨rfl, hb⟩;obtain ⟨hc, hf⟩ := Cr hb;have hz := hb.size;simp only [World.size_alloc] at hc hf hz;go_wp2;refine bodyPost_ret (v := N6 4) (by simp [results, results125, go_sem, hc]) rfl ?_;have hb' := (by go_grown : Below w.heap.size w _).trans (hb.mono (by simp));exact Sc ho.out (by decide) (by go_grown)
end
end
section
section
open Go.RowKit Go.Sort
theorem b1x (w : World) (k : Nat) (h : k < 6) : (w.alloc (Obj.cells #[Value.string { data := #[38, 38] }, Value.string { data := #[124, 124] }, Value.string { data := #[61, 61] }, Value.string { data := #[33, 61] }, Value.string { data := #[60, 61] }, Value.string { data := #[62, 61] }] 9)).cell? ⟨w.heap.size, k, none⟩ = some (.string (bs (J0[k]'h))) := by
 have e : (w.alloc (Obj.cells #[Value.string { data := #[38, 38] }, Value.string { data := #[124, 124] }, Value.string { data := #[61, 61] }, Value.string { data := #[33, 61] }, Value.string { data := #[60, 61] }, Value.string { data := #[62, 61] }] 9)).cell? ⟨w.heap.size, k, none⟩ = (#[Value.string { data := #[38, 38] }, Value.string { data := #[124, 124] }, Value.string { data := #[61, 61] }, Value.string { data := #[33, 61] }, Value.string { data := #[60, 61] }, Value.string { data := #[62, 61] }] : Array Value)[k]? := by simp [go_sem]
 rw [e]
 match k, h with
 | 0, _ => rfl
 | 1, _ => rfl
 | 2, _ => rfl
 | 3, _ => rfl
 | 4, _ => rfl
 | 5, _ => rfl
 | n + 6, h => omega
abbrev ZT (w W : World) : Prop := W.cell? ⟨w.heap.size, 0, none⟩ = some (.int .u8 0) ∧ W.cell? ⟨w.heap.size, 1, none⟩ = some (.int .i64 0) ∧ W.cell? ⟨w.heap.size, 2, none⟩ = some (.int .i64 0) ∧
  W.cell? ⟨w.heap.size, 3, none⟩ = some (.int .i64 0) ∧ W.cell? ⟨w.heap.size, 4, none⟩ = some (.string { data := #[] }) ∧ ∀ o, W.frozen? ⟨w.heap.size, o, none⟩ = false
theorem hzz {w : World} (W : World) (h : ZT w W) : ∀ W', Below W.heap.size W W' -> ZT w W' := fun W' hb =>
 ⟨Ac hb h.1, Ac hb h.2.1, Ac hb h.2.2.1, Ac hb h.2.2.2.1, Ac hb h.2.2.2.2.1, fun o => C2 hb h.1 (h.2.2.2.2.2 o)⟩
theorem c3e (k : Nat) (h : k < 19) : (({ data := #[43, 45, 42, 47, 37, 60, 62, 33, 61, 40, 41, 123, 125, 91, 93, 44, 59, 58, 46] } : ByteArray)[k]'h) = Qt[k]'h := by
 match k, h with
 | 0, _ => rfl
 | 1, _ => rfl
 | 2, _ => rfl
 | 3, _ => rfl
 | 4, _ => rfl
 | 5, _ => rfl
 | 6, _ => rfl
 | 7, _ => rfl
 | 8, _ => rfl
 | 9, _ => rfl
 | 10, _ => rfl
 | 11, _ => rfl
 | 12, _ => rfl
 | 13, _ => rfl
 | 14, _ => rfl
 | 15, _ => rfl
 | 16, _ => rfl
 | 17, _ => rfl
 | 18, _ => rfl
 | n + 19, h => omega
theorem Ws (s : ByteArray) (w : World) (hs : s.size <= 100000) (i : Nat) (hi : i < s.size) (o : One) (X : ByteArray) (h2 : i + 2 <= s.size) (hX : s.extract i (i + 2) = X) (hXl : X.data.toList = (s.data.toList.drop i).take 2) (htwo : (s.data.toList.drop i).take 2 ∈ J0 -> o = ⟨0, 2, 7, 0, (s.data.toList.drop i).take 2⟩)
  (e34 : ((s[i].toNat : Int) == 34) = false) (H21 : Hid (Vy s[i] 0))
  (hone : ¬ (s.data.toList.drop i).take 2 ∈ J0 -> s[i] ∈ Qt -> o = ⟨0, 1, 7, 0, [s[i]]⟩) (hend : ¬ (s.data.toList.drop i).take 2 ∈ J0 -> ¬ s[i] ∈ Qt -> o = bad 4) :
  Calls prog 125 #[.string s, .int .i64 (i : Nat)] w (Jn i o w) := by
 have hb0 := zz ((Aa w Qz).trans ((Aa (w.alloc Qz) (Obj.cells #[Value.string { data := #[38, 38] }, Value.string { data := #[124, 124] }, Value.string { data := #[61, 61] }, Value.string { data := #[33, 61] }, Value.string { data := #[60, 61] }, Value.string { data := #[62, 61] }] 9)).mono (by simp)));have hc0 := zz (b1x (w.alloc Qz));have hz0 := c1c (w := w) (W := (w.alloc Qz).alloc (Obj.cells #[Value.string { data := #[38, 38] }, Value.string { data := #[124, 124] }, Value.string { data := #[61, 61] }, Value.string { data := #[33, 61] }, Value.string { data := #[60, 61] }, Value.string { data := #[62, 61] }] 9)) ((Aa (w.alloc Qz) (Obj.cells #[Value.string { data := #[38, 38] }, Value.string { data := #[124, 124] }, Value.string { data := #[61, 61] }, Value.string { data := #[33, 61] }, Value.string { data := #[60, 61] }, Value.string { data := #[62, 61] }] 9)).mono (by simp)) (Below.refl _ _);have hsz : ((w.alloc Qz).alloc (Obj.cells #[Value.string { data := #[38, 38] }, Value.string { data := #[124, 124] }, Value.string { data := #[61, 61] }, Value.string { data := #[33, 61] }, Value.string { data := #[60, 61] }, Value.string { data := #[62, 61] }] 9)).heap.size = w.heap.size + 1 + 1 := by simp
 go_enter func125, ntmps125;go_wp2_with fail;refine (H21.out _).mono ?_;rintro _ w' ⟨rfl, rfl⟩;go_wp2;obtain ⟨W, hW⟩ : ∃ W, W = (w.alloc Qz).alloc (Obj.cells #[Value.string { data := #[38, 38] }, Value.string { data := #[124, 124] }, Value.string { data := #[61, 61] }, Value.string { data := #[33, 61] }, Value.string { data := #[60, 61] }, Value.string { data := #[62, 61] }] 9) := ⟨_, rfl⟩;rw [<- hW];rw [<- hW] at hb0 hc0 hz0 hsz;rw [show (w.alloc Qz).heap.size = w.heap.size + 1 by simp] at hc0;have hzW := zz (hzz W hz0);clear hW hz0
 go_loopw [74] (fun v wq => ∃ j : Nat, j <= 6 ∧ v = .int .i64 (j : Nat) ∧ (∀ m, m < j -> J0[m]? ≠ some ((s.data.toList.drop i).take 2)) ∧ Below W.heap.size W wq) (fun v _ => 6 - (intOf v).toNat)
 case atStart => exact ⟨0, Nat.zero_le _, rfl, by simp, Below.refl _ _⟩
 case round =>
  obtain ⟨j, hj, rfl, hno, hbW⟩ := hrel;obtain ⟨z0, z1, z2, z3, z4, z5⟩ := hzW.out _ hbW;have hb1 := zz (Ab hb0.out hbW);have hcw := hbW;replace hbW := zz hbW;by_cases hl : j < 6
  case neg =>
   have hnt : ¬ (s.data.toList.drop i).take 2 ∈ J0 := fun hm => by
    obtain ⟨m, hm1, hm2⟩ := List.getElem_of_mem hm;have hm3 : m < 6 := hm1;exact hno m (by omega) (by rw [List.getElem?_eq_getElem hm1, hm2])
   replace hone := hone hnt;replace hend := hend hnt;clear htwo hnt;have hl2 : ¬ (j : Int) < 6 := by omega
   clear hno hb1 hcw;go_wp2;obtain ⟨T, hT⟩ : ∃ T : ByteArray, T = { data := #[43, 45, 42, 47, 37, 60, 62, 33, 61, 40, 41, 123, 125, 91, 93, 44, 59, 58, 46] } := ⟨_, rfl⟩;have hT1 : T.size = 19 := by rw [hT]; rfl
   have hT2 := zz (show ∀ k (h : k < T.size), T[k] = Qt[k]'(by rw [hT1] at h; exact h) from by subst hT; exact fun k h => c3e k h);rw [<- hT];clear hT
   go_loopw [15] (fun v wq => ∃ j : Nat, j <= 19 ∧ v = .int .i64 (j : Nat) ∧ (∀ m, m < j -> Qt[m]? ≠ some s[i]) ∧ Below W.heap.size W wq) (fun v _ => 19 - (intOf v).toNat)
   case atStart => exact ⟨0, Nat.zero_le _, rfl, by simp, hbW.out⟩
   case round =>
    clear hbW z0 z1 z2 z3 z4 z5;obtain ⟨j, hj, rfl, hno, hbW⟩ := hrel;obtain ⟨z0, z1, z2, z3, z4, z5⟩ := hzW.out _ hbW;have hb1 := zz (Ab hb0.out hbW);replace hbW := zz hbW;by_cases hl : j < 19
    case neg =>
     have ho := zz (hend (fun hm => by
      obtain ⟨m, hm1, hm2⟩ := List.getElem_of_mem hm;have hm3 : m < 19 := hm1
      exact hno m (by omega) (by rw [List.getElem?_eq_getElem hm1, hm2])))
     have hl2 : ¬ (j : Int) < T.size := by omega
     clear hno hend hone;go_wp2;refine bodyPost_ret (v := N6 4) (by simp [results, results125, go_sem, z0, z1, z2, z3, z4]) rfl ?_;replace hb1 := hb1.out;exact Sc ho.out (by decide) (by go_grown)
    have hl2 : (j : Int) < T.size := by omega
    have hl3 : j < T.size := by omega
    have hTj := hT2.out j hl3;by_cases heq : s[i] = Qt[j]'hl
    ·have e1 : ((s[i].toNat : Int) == (T[j].toNat : Int)) = true := by rw [hTj, heq]; simp
     have hx : T.extract j (j + 1) = bs [s[i]] := by
      apply Oq;rw [E8, B9, Au T j hl3, hTj, heq]; simp
     obtain ⟨Y, hY⟩ : ∃ Y, T.extract j (j + 1) = Y := ⟨_, rfl⟩;have ho := zz (show o = ⟨0, 1, 7, 0, Y.data.toList⟩ by rw [hone (by rw [heq]; exact List.getElem_mem _), <- hY, hx, B9]);obtain ⟨j1, hj1⟩ : ∃ j1, j + 1 = j1 := ⟨_, rfl⟩;rw [hj1] at hY;have hj2 : (j : Int) + 1 = j1 := by omega
     have hj3 : j1 <= T.size := by omega
     have hj4 : j <= j1 := by omega
     obtain ⟨i1, hi1⟩ : ∃ i1, i + 1 = i1 := ⟨_, rfl⟩;have hi2 : (i : Int) + 1 = i1 := by omega
     clear hno hend hone heq hTj hx hj1;go_wp2_with fail
     go_quiet (fail)
     have hb2 := zz (Ab hb1.out (An _ nq));go_wp2;refine bodyPost_ret (v := .tuple #[Jl 7 0 0 0 Y, .int .i64 (i1 : Nat), .int .i64 0]) (by simp [results, results125, go_sem, z0, z1, z2, z3, z4]) rfl ?_;replace hb2 := hb2.out;exact I5 ho.out (by omega) (by go_grown)
    ·have e1 : ((s[i].toNat : Int) == (T[j].toNat : Int)) = false := by
      rw [hTj, beq_eq_false_iff_ne]; intro h; exact heq (UInt8.toNat_inj.1 (by omega))
     have hno2 := zz (show ∀ m, m < j + 1 -> Qt[m]? ≠ some s[i] from fun m hm => by
      by_cases hmj : m = j
      ·subst hmj; rw [List.getElem?_eq_getElem hl]; simpa using fun e => heq e.symm
      ·exact hno m (by omega))
     clear hno hend hone heq hTj;go_wp2_with fail
     go_quiet (fail)
     have hb2 := zz (Ab hbW.out (An _ nq));go_wp2
     go_roundw
     case rel => exact ⟨j + 1, hl, by go_num, hno2.out, hb2.out⟩
     case measure => simp [intOf]; omega
  have hcell := Ac hcw (hc0.out j hl);clear hcw;have h2i : (i : Int) + 2 <= s.size := by omega
  obtain ⟨i2, hi2⟩ : ∃ i2, i + 2 = i2 := ⟨_, rfl⟩;rw [hi2] at hX h2;have hi3 : (i : Int) + 2 = i2 := by omega
  have hi4 : i <= i2 := by omega
  have hi5 : (i2 : Int) <= s.size := by omega
  by_cases heq : (s.data.toList.drop i).take 2 = J0[j]'hl
  ·have e1 : (X.toList == (bs (J0[j]'hl)).toList) = true := by rw [ByteArray.toList_eq, ByteArray.toList_eq, B9, hXl, heq]; simp
   have ho := zz (show o = ⟨0, 2, 7, 0, (bs (J0[j]'hl)).data.toList⟩ by rw [htwo (by rw [heq]; exact List.getElem_mem _), heq, B9]);generalize bs (J0[j]'hl) = x at hcell e1 ho;clear hno hend hone heq htwo hXl h2i;go_wp2_with fail
   go_quiet (fail)
   have hb2 := zz (Ab hb1.out (An _ nq));go_wp2;refine bodyPost_ret (v := .tuple #[Jl 7 0 0 0 x, .int .i64 (i2 : Nat), .int .i64 0]) (by simp [results, results125, go_sem, z0, z1, z2, z3, z4]) rfl ?_;replace hb2 := hb2.out;exact I5 ho.out (by omega) (by go_grown)
  ·have e1 : (X.toList == (bs (J0[j]'hl)).toList) = false := by rw [ByteArray.toList_eq, ByteArray.toList_eq, B9, hXl]; simpa using heq
   have hno2 := zz (show ∀ m, m < j + 1 -> J0[m]? ≠ some ((s.data.toList.drop i).take 2) from fun m hm => by
    by_cases hmj : m = j
    ·subst hmj; rw [List.getElem?_eq_getElem hl]; simpa using fun e => heq e.symm
    ·exact hno m (by omega))
   generalize bs (J0[j]'hl) = x at hcell e1;clear hno hend hone heq htwo hXl h2i;go_wp2_with fail
   go_quiet (fail)
   have hb2 := zz (Ab hbW.out (An _ nq));go_wp2
   go_roundw
   case rel => exact ⟨j + 1, hl, by go_num, hno2.out, hb2.out⟩
   case measure => simp [intOf]; omega
theorem Wt (s : ByteArray) (w : World) (hs : s.size <= 100000) (i : Nat) (hi : i < s.size) (o : One) (h2 : ¬ i + 2 <= s.size)
  (e34 : ((s[i].toNat : Int) == 34) = false) (H21 : Hid (Vy s[i] 0))
  (hone : s[i] ∈ Qt -> o = ⟨0, 1, 7, 0, [s[i]]⟩) (hend : ¬ s[i] ∈ Qt -> o = bad 4) :
  Calls prog 125 #[.string s, .int .i64 (i : Nat)] w (Jn i o w) := by
 have hb0 := zz ((Aa w Qz).trans ((Aa (w.alloc Qz) (Obj.cells #[Value.string { data := #[38, 38] }, Value.string { data := #[124, 124] }, Value.string { data := #[61, 61] }, Value.string { data := #[33, 61] }, Value.string { data := #[60, 61] }, Value.string { data := #[62, 61] }] 9)).mono (by simp)));have hc0 := zz (b1x (w.alloc Qz));have hz0 := c1c (w := w) (W := (w.alloc Qz).alloc (Obj.cells #[Value.string { data := #[38, 38] }, Value.string { data := #[124, 124] }, Value.string { data := #[61, 61] }, Value.string { data := #[33, 61] }, Value.string { data := #[60, 61] }, Value.string { data := #[62, 61] }] 9)) ((Aa (w.alloc Qz) (Obj.cells #[Value.string { data := #[38, 38] }, Value.string { data := #[124, 124] }, Value.string { data := #[61, 61] }, Value.string { data := #[33, 61] }, Value.string { data := #[60, 61] }, Value.string { data := #[62, 61] }] 9)).mono (by simp)) (Below.refl _ _);have hsz : ((w.alloc Qz).alloc (Obj.cells #[Value.string { data := #[38, 38] }, Value.string { data := #[124, 124] }, Value.string { data := #[61, 61] }, Value.string { data := #[33, 61] }, Value.string { data := #[60, 61] }, Value.string { data := #[62, 61] }] 9)).heap.size = w.heap.size + 1 + 1 := by simp
 go_enter func125, ntmps125;go_wp2_with fail;refine (H21.out _).mono ?_;rintro _ w' ⟨rfl, rfl⟩;go_wp2;obtain ⟨W, hW⟩ : ∃ W, W = (w.alloc Qz).alloc (Obj.cells #[Value.string { data := #[38, 38] }, Value.string { data := #[124, 124] }, Value.string { data := #[61, 61] }, Value.string { data := #[33, 61] }, Value.string { data := #[60, 61] }, Value.string { data := #[62, 61] }] 9) := ⟨_, rfl⟩;rw [<- hW];rw [<- hW] at hb0 hc0 hz0 hsz;rw [show (w.alloc Qz).heap.size = w.heap.size + 1 by simp] at hc0;have hzW := zz (hzz W hz0);clear hW hz0
 go_loopw [74] (fun v wq => ∃ j : Nat, j <= 6 ∧ v = .int .i64 (j : Nat) ∧ (∀ m, m < j -> J0[m]? ≠ some ((s.data.toList.drop i).take 2)) ∧ Below W.heap.size W wq) (fun v _ => 6 - (intOf v).toNat)
 case atStart => exact ⟨0, Nat.zero_le _, rfl, by simp, Below.refl _ _⟩
 case round =>
  obtain ⟨j, hj, rfl, hno, hbW⟩ := hrel;obtain ⟨z0, z1, z2, z3, z4, z5⟩ := hzW.out _ hbW;have hb1 := zz (Ab hb0.out hbW);have hcw := hbW;replace hbW := zz hbW;by_cases hl : j < 6
  case neg =>
   have hl2 : ¬ (j : Int) < 6 := by omega
   clear hno hb1 hcw;go_wp2;obtain ⟨T, hT⟩ : ∃ T : ByteArray, T = { data := #[43, 45, 42, 47, 37, 60, 62, 33, 61, 40, 41, 123, 125, 91, 93, 44, 59, 58, 46] } := ⟨_, rfl⟩;have hT1 : T.size = 19 := by rw [hT]; rfl
   have hT2 := zz (show ∀ k (h : k < T.size), T[k] = Qt[k]'(by rw [hT1] at h; exact h) from by subst hT; exact fun k h => c3e k h);rw [<- hT];clear hT
   go_loopw [15] (fun v wq => ∃ j : Nat, j <= 19 ∧ v = .int .i64 (j : Nat) ∧ (∀ m, m < j -> Qt[m]? ≠ some s[i]) ∧ Below W.heap.size W wq) (fun v _ => 19 - (intOf v).toNat)
   case atStart => exact ⟨0, Nat.zero_le _, rfl, by simp, hbW.out⟩
   case round =>
    clear hbW z0 z1 z2 z3 z4 z5;obtain ⟨j, hj, rfl, hno, hbW⟩ := hrel;obtain ⟨z0, z1, z2, z3, z4, z5⟩ := hzW.out _ hbW;have hb1 := zz (Ab hb0.out hbW);replace hbW := zz hbW;by_cases hl : j < 19
    case neg =>
     have ho := zz (hend (fun hm => by
      obtain ⟨m, hm1, hm2⟩ := List.getElem_of_mem hm;have hm3 : m < 19 := hm1
      exact hno m (by omega) (by rw [List.getElem?_eq_getElem hm1, hm2])))
     have hl2 : ¬ (j : Int) < T.size := by omega
     clear hno hend hone;go_wp2;refine bodyPost_ret (v := N6 4) (by simp [results, results125, go_sem, z0, z1, z2, z3, z4]) rfl ?_;replace hb1 := hb1.out;exact Sc ho.out (by decide) (by go_grown)
    have hl2 : (j : Int) < T.size := by omega
    have hl3 : j < T.size := by omega
    have hTj := hT2.out j hl3;by_cases heq : s[i] = Qt[j]'hl
    ·have e1 : ((s[i].toNat : Int) == (T[j].toNat : Int)) = true := by rw [hTj, heq]; simp
     have hx : T.extract j (j + 1) = bs [s[i]] := by
      apply Oq;rw [E8, B9, Au T j hl3, hTj, heq]; simp
     obtain ⟨Y, hY⟩ : ∃ Y, T.extract j (j + 1) = Y := ⟨_, rfl⟩;have ho := zz (show o = ⟨0, 1, 7, 0, Y.data.toList⟩ by rw [hone (by rw [heq]; exact List.getElem_mem _), <- hY, hx, B9]);obtain ⟨j1, hj1⟩ : ∃ j1, j + 1 = j1 := ⟨_, rfl⟩;rw [hj1] at hY;have hj2 : (j : Int) + 1 = j1 := by omega
     have hj3 : j1 <= T.size := by omega
     have hj4 : j <= j1 := by omega
     obtain ⟨i1, hi1⟩ : ∃ i1, i + 1 = i1 := ⟨_, rfl⟩;have hi2 : (i : Int) + 1 = i1 := by omega
     clear hno hend hone heq hTj hx hj1;go_wp2_with fail
     go_quiet (fail)
     have hb2 := zz (Ab hb1.out (An _ nq));go_wp2;refine bodyPost_ret (v := .tuple #[Jl 7 0 0 0 Y, .int .i64 (i1 : Nat), .int .i64 0]) (by simp [results, results125, go_sem, z0, z1, z2, z3, z4]) rfl ?_;replace hb2 := hb2.out;exact I5 ho.out (by omega) (by go_grown)
    ·have e1 : ((s[i].toNat : Int) == (T[j].toNat : Int)) = false := by
      rw [hTj, beq_eq_false_iff_ne]; intro h; exact heq (UInt8.toNat_inj.1 (by omega))
     have hno2 := zz (show ∀ m, m < j + 1 -> Qt[m]? ≠ some s[i] from fun m hm => by
      by_cases hmj : m = j
      ·subst hmj; rw [List.getElem?_eq_getElem hl]; simpa using fun e => heq e.symm
      ·exact hno m (by omega))
     clear hno hend hone heq hTj;go_wp2_with fail
     go_quiet (fail)
     have hb2 := zz (Ab hbW.out (An _ nq));go_wp2
     go_roundw
     case rel => exact ⟨j + 1, hl, by go_num, hno2.out, hb2.out⟩
     case measure => simp [intOf]; omega
  have hno2 := zz (show ∀ m, m < j + 1 -> J0[m]? ≠ some ((s.data.toList.drop i).take 2) from fun m hm e => by
   have h6 : ∀ x ∈ J0, x.length = 2 := by decide
   have := h6 _ (List.mem_of_getElem? e);rw [List.length_take, List.length_drop, Ad] at this
   omega)
  have hg : decide ((i : Int) + 2 <= s.size) = false := by rw [decide_eq_false_iff_not]; omega
  clear hno hend hone hcw;go_wp2_with fail
  go_quiet (fail)
  have hb2 := zz (Ab hbW.out (An _ nq));go_wp2
  go_roundw
  case rel => exact ⟨j + 1, hl, by go_num, hno2.out, hb2.out⟩
  case measure => simp [intOf]; omega
end
end
section
section
open Go.RowKit Go.Sort
theorem Q6 {l : List UInt8} (h : Dj l = true) : sml (l.headD 0) = true := by
 unfold Dj at h;rw [decide_eq_true_eq] at h;have : ∀ x ∈ Lb, sml (x.headD 0) = true := by decide
 exact this l h
theorem L0 {c : UInt8} (h : grt c = true) : sml c = false := by
 unfold grt at h;rw [Bool.and_eq_true, decide_eq_true_eq, decide_eq_true_eq] at h;have a3 : ¬ c = 95 := fun e => by rw [e] at h; exact absurd h.2 (by decide)
 simp [sml, a3]; omega
theorem a45 {l : List UInt8} {n : Nat} (h : 1 <= n) : (l.take n).headD 0 = l.headD 0 := by
 cases l with
 | nil => simp
 | cons c t => rw [show n = (n - 1) + 1 by omega, List.take_succ_cons]; rfl
theorem b3x : ∀ n (m : List UInt8), m.length <= n -> (C5 m).2.1 <= m.length + 4 := by
 intro n
 induction n with
 | zero =>
  intro m hm;obtain rfl : m = [] := List.eq_nil_of_length_eq_zero (by omega)
  simp [C5, rb]
 | succ n ih =>
  intro m hm;by_cases hq : m.head? = some 34
  ·rw [Dv m hq]; simp
  ·by_cases hb : (rb m).2.2 = true
   ·have hz := Hz m hb;have hi := ih (m.drop (rb m).2.1) (by simp; omega);rw [Eu m hq hb];simp only [List.length_drop] at hi;show (rb m).2.1 + (C5 (m.drop (rb m).2.1)).2.1 <= m.length + 4;omega
   ·rw [Gr m hq (by simpa using hb)];have := b8i m;show (rb m).2.1 <= m.length + 4;omega
theorem b34 (s : ByteArray) (w : World) (hs : s.size <= 100000) (i : Nat) (hi : i < s.size) (hnd : dgt s[i] = false) : Calls prog 125 #[.string s, .int .i64 (i : Nat)] w (Jn i (one (s.data.toList.drop i)) w) := by
 have hd := Au s i hi;have hhd : (s.data.toList.drop i).headD 0 = s[i] := by rw [hd]; rfl
 have hne : s.data.toList.drop i ≠ [] := by rw [hd]; simp
 obtain ⟨K, hK⟩ : ∃ K, i + Bz nam (s.data.toList.drop i) = K := ⟨_, rfl⟩
 have hKs : K <= s.size := by
  have := I3 nam (s.data.toList.drop i);rw [List.length_drop, Ad] at this; omega
 have HI := zz (fun w => a42 s i (by omega) (by omega) K (zz hK) w);have hX : (s.extract i K).data.toList = (s.data.toList.drop i).take (Bz nam (s.data.toList.drop i)) := by rw [E8]; congr 1; omega
 have hsz : Bz nam (s.data.toList.drop i) = K - i := by omega
 unfold one;rw [hhd]
 cases h1 : sml s[i] with
 | true =>
  have hk : kdN s[i] = 1 := by rw [kdN, h1]; rfl
  have hg : grt s[i] = false := by
   cases h : grt s[i] with
   | false => rfl
   | true => have := L0 h; rw [h1] at this; cases this
  rw [if_pos (by simp)]
  cases hw : Dj ((s.data.toList.drop i).take (Bz nam (s.data.toList.drop i))) with
  | true =>
   refine Pa s _ w hs i K hi (by omega) hKs rfl _ (zz (Lz hk)) HI (zz fun w => Yn _ true (by rw [hX]; exact hw) w) (zz ?_)
   rw [hX, Kf, hw, hsz]; rfl
  | false =>
   refine N3 s _ w hs i K hi (by omega) hKs rfl _ (zz (Lz hk)) HI (zz fun w => Yn _ false (by rw [hX]; exact hw) w) (zz ?_)
   rw [hX, Kf, hw, hhd, hg, hsz]; rfl
 | false =>
  cases h2 : grt s[i] with
  | true =>
   have hk : kdN s[i] = 2 := by rw [kdN, h1, h2]; rfl
   have hw : Dj ((s.data.toList.drop i).take (Bz nam (s.data.toList.drop i))) = false := by
    cases hw : Dj ((s.data.toList.drop i).take (Bz nam (s.data.toList.drop i))) with
    | false => rfl
    | true =>
     have := Q6 hw;rw [a45 (Ks (by rw [hhd]; simp [nam, h2]) hne), hhd, h1] at this;cases this
   rw [if_pos (by simp)];refine a0p s _ w hs i K hi (by omega) hKs rfl _ (zz (Lz hk)) HI (zz ?_)
   rw [hX, Kf, hw, hhd, h2, hsz]; rfl
  | false =>
   rw [if_neg (by simp)]
   cases h3 : dgt s[i] with
   | true =>
    rw [hnd] at h3
    cases h3
   | false =>
    have hk : kdN s[i] = 0 := by rw [kdN, h1, h2, h3]; rfl
    rw [if_neg (by simp)];by_cases h34 : s[i] = 34
    ·rw [if_pos h34];have hxl : (s.extract i s.size).data.toList = s.data.toList.drop i := Hg s i;have hxs : (s.extract i s.size).size = s.size - i := by rw [<- Ad, hxl, List.length_drop, Ad]
     have HR := fun w => a25 (s.extract i s.size) w (by omega)
     rw [hxl] at HR;unfold Ll
     cases hok : (A8 (s.data.toList.drop i)).2.2 with
     | true =>
      simp only [b15, hok, if_true] at HR;obtain ⟨a1, a2, _⟩ := N9 _ hok;rw [List.length_drop, Ad] at a2;rw [if_pos rfl]
      exact Sb s _ _ w hs i _ (i + (A8 (s.data.toList.drop i)).2.1) (by omega) hi rfl _ (by rw [h34]; rfl) (zz (Lz hk)) (zz HR) (zz (by rw [B9])) (by omega)
     | false =>
      simp only [b15, hok] at HR;rw [if_neg (by simp)]
      have hm : (A8 (s.data.toList.drop i)).2.1 <= 200000 := by
       rw [hd, h34, Im];have := b3x _ (s.data.toList.drop (i + 1)) (Nat.le_refl _);rw [List.length_drop, Ad] at this;show 1 + _ <= 200000;omega
      exact Qr s _ _ w hs i _ 0 hm hi rfl _ (by rw [h34]; rfl) (zz (Lz hk)) (zz HR) (zz rfl)
    ·rw [if_neg h34];have e34 : ((s[i].toNat : Int) == 34) = false := Av (n := 34) (by decide) h34;unfold Lh;by_cases h2 : i + 2 <= s.size
     ·refine Ws s w hs i hi _ (s.extract i (i + 2)) h2 rfl (by rw [E8]; congr 1; omega) ?_ e34 (zz (Lz hk)) ?_ ?_
      ·intro hm;rw [J5 hm]; rfl
      ·intro hm ho;rw [Cn hm (by rw [hhd]; exact ho), hd]; rfl
      ·intro hm ho;rw [Yj hm (by rw [hhd]; exact ho)]; rfl
     ·have hm : ¬ (s.data.toList.drop i).take 2 ∈ J0 := Rc (by rw [List.length_drop, Ad]; omega);refine Wt s w hs i hi _ h2 e34 (zz (Lz hk)) ?_ ?_
      ·intro ho;rw [Cn hm (by rw [hhd]; exact ho), hd]; rfl
      ·intro ho;rw [Yj hm (by rw [hhd]; exact ho)]; rfl
end
end
section
section
theorem a3w (x y : List UInt8) : ∀ a b, plc a b (x ++ y) = plc (plc a b x).1 (plc a b x).2 y := by
 induction x with
 | nil => intro a b; rfl
 | cons c t ih =>
  intro a b;rw [List.cons_append, plc, plc];split
  ·exact ih _ _
  ·exact ih _ _
theorem Yy {x : List UInt8} (h : ∀ c ∈ x, c ≠ 10) : ∀ a b, plc a b x = (a, b + x.length) := by
 induction x with
 | nil => intro a b; rfl
 | cons c t ih =>
  intro a b;rw [plc, if_neg (h c (by simp)), ih (fun d hd => h d (by simp [hd]))];simp; omega
theorem a3v (x : List UInt8) : (∀ a b, plc a b x = (a, b + x.length)) ∨ ∃ k m, 1 <= k ∧ k <= x.length ∧ m <= x.length + 1 ∧ 1 <= m ∧ ∀ a b, plc a b x = (a + k, m) := by
 induction x with
 | nil => exact .inl fun a b => rfl
 | cons c t ih =>
  by_cases hc : c = 10
  ·subst hc;rcases ih with h | ⟨k, m, h1, h2, h3, h5, h4⟩
   ·exact .inr ⟨1, 1 + t.length, by omega, by simp, by simp; omega, by omega, fun a b => by rw [plc, if_pos rfl, h]⟩
   ·exact .inr ⟨k + 1, m, by omega, by simp; omega, by simp; omega, h5, fun a b => by rw [plc, if_pos rfl, h4]; simp; omega⟩
  ·rcases ih with h | ⟨k, m, h1, h2, h3, h5, h4⟩
   ·exact .inl fun a b => by rw [plc, if_neg hc, h]; simp; omega
   ·exact .inr ⟨k, m, h1, by simp; omega, by simp; omega, h5, fun a b => by rw [plc, if_neg hc, h4]⟩
theorem a2k : ∀ (l : List UInt8) (n : Bool), Ek n l <= l.length := by
 intro l
 induction l with
 | nil => intro n; simp [Ek]
 | cons c t ih =>
  intro n;rw [Ek];have h1 := ih false;have h2 := ih true;split
  ·simp; omega
  ·split
   ·simp; omega
   ·split
    ·simp; omega
    ·simp
theorem T4 (t : List UInt8) : Ek true t = Bz nlf t + Ek false (t.drop (Bz nlf t)) := by
 induction t with
 | nil => rfl
 | cons c t ih =>
  by_cases hc : c = 10
  ·subst hc;rw [Il (by decide), List.drop_zero, R8, R8]; omega
  ·rw [Wn t hc (.inl rfl), G9 (by simp [nlf, hc]), List.drop_succ_cons, ih]; omega
def c04 (l : List UInt8) : Prop := ∀ c, l.head? = some c -> ¬ Fy c
theorem T5 : ∀ n (l : List UInt8), l.length <= n -> c04 (l.drop (Ek false l)) := by
 intro n
 induction n with
 | zero =>
  intro l hl;obtain rfl : l = [] := List.eq_nil_of_length_eq_zero (by omega)
  intro c hc; simp at hc
 | succ n ih =>
  intro l hl
  cases l with
  | nil => intro c hc; simp at hc
  | cons c t =>
   simp only [List.length_cons] at hl;by_cases hg : Fy c
   ·rcases hg with rfl | rfl | rfl | rfl | rfl
    ·rw [R8, List.drop_succ_cons]; exact ih t (by omega)
    ·rw [Gy t (.inl rfl), List.drop_succ_cons]; exact ih t (by omega)
    ·rw [Gy t (.inr (.inl rfl)), List.drop_succ_cons]; exact ih t (by omega)
    ·rw [Gy t (.inr (.inr rfl)), List.drop_succ_cons]; exact ih t (by omega)
    ·rw [Wn t (by decide) (.inr rfl), List.drop_succ_cons, T4, <- List.drop_drop];exact ih _ (by simp; omega)
   ·rw [Yg t hg, List.drop_zero];intro d hd; simp at hd; subst hd; exact hg
theorem Tu : ∀ n (l : List UInt8), l.length <= n -> ∀ a b, F8 l a b = F8 (l.drop (Ek false l)) (plc a b (l.take (Ek false l))).1 (plc a b (l.take (Ek false l))).2 := by
 intro n
 induction n with
 | zero =>
  intro l hl a b;obtain rfl : l = [] := List.eq_nil_of_length_eq_zero (by omega)
  rfl
 | succ n ih =>
  intro l hl a b
  cases l with
  | nil => rfl
  | cons c t =>
   simp only [List.length_cons] at hl;by_cases hg : Fy c
   ·rcases hg with rfl | rfl | rfl | rfl | rfl
    ·rw [R8, List.drop_succ_cons, List.take_succ_cons, plc, if_pos rfl, R3]; exact ih t (by omega) _ _
    ·rw [Gy t (.inl rfl), List.drop_succ_cons, List.take_succ_cons, plc, if_neg (by decide), Eg _ _ _ _ (.inl rfl)]; exact ih t (by omega) _ _
    ·rw [Gy t (.inr (.inl rfl)), List.drop_succ_cons, List.take_succ_cons, plc, if_neg (by decide), Eg _ _ _ _ (.inr (.inl rfl))]; exact ih t (by omega) _ _
    ·rw [Gy t (.inr (.inr rfl)), List.drop_succ_cons, List.take_succ_cons, plc, if_neg (by decide), Eg _ _ _ _ (.inr (.inr rfl))]; exact ih t (by omega) _ _
    ·rw [Wn t (by decide) (.inr rfl), List.drop_succ_cons, List.take_succ_cons, plc, if_neg (by decide), O2, T4, <- List.drop_drop, List.take_add, a3w]
     have hn : ∀ c ∈ t.take (Bz nlf t), c ≠ 10 := fun c hc => by
      have := I4 nlf t c hc;unfold nlf at this; simpa using this
     rw [Yy hn, List.length_take, Nat.min_eq_left (I3 _ _)];rw [show b + (Bz nlf t + 1) = b + 1 + Bz nlf t by omega];exact ih _ (by simp; omega) _ _
   ·rw [Yg t hg, List.drop_zero, List.take_zero]; rfl
theorem a5z {c : UInt8} {x : Nat} (h : dg c = some x) : c ≠ 10 := fun e => by subst e; simp [dg] at h
theorem b54 {c b : UInt8} (h : bk c = some b) : c ≠ 10 := fun e => by subst e; simp [bk] at h
theorem b4b (l : List UInt8) (h : (rb l).2.2 = true) : ∀ c ∈ l.take (rb l).2.1, c ≠ 10 := by
 match l with
 | [] => simp
 | c :: t =>
  by_cases h1 : c.toNat < 32 ∨ 126 < c.toNat
  ·simp [Uo c t h1] at h
  ·by_cases h2 : c = 92
   ·subst h2
    match t with
    | [] => simp [Up] at h
    | d :: u =>
     by_cases h3 : d = 120
     ·subst h3;rw [b6n] at h ⊢
      match u with
      | [] => simp [Um] at h
      | e :: v =>
       cases he : dg e with
       | none => simp [Un e v he] at h
       | some x =>
        match v with
        | [] => simp [Ul e x he] at h
        | f :: v =>
         cases hf : dg f with
         | none => simp [Pg e f v x he hf] at h
         | some y =>
          rw [Uk e f v x y he hf];have a1 := a5z he;have a2 := a5z hf;simp [a1, a2]
     ·cases hb : bk d with
      | none => simp [a3l d u h3 hb] at h
      | some b =>
       rw [Uq d u h3 b hb];have a1 := b54 hb;simp [a1]
   ·rw [Md c t h1 h2];have a1 : c ≠ 10 := fun e => by rw [e] at h1; exact h1 (.inl (by decide))
    simp [a1]
theorem a2x : ∀ n (m : List UInt8), m.length <= n -> (C5 m).2.2 = true -> ∀ c ∈ m.take (C5 m).2.1, c ≠ 10 := by
 intro n
 induction n with
 | zero =>
  intro m hm h;obtain rfl : m = [] := List.eq_nil_of_length_eq_zero (by omega)
  simp
 | succ n ih =>
  intro m hm h;by_cases hq : m.head? = some 34
  ·rw [Dv m hq]
   cases m with
   | nil => simp
   | cons c t => simp at hq; subst hq; simp
  ·by_cases hb : (rb m).2.2 = true
   ·have hs := Eu m hq hb;have hz := Hz m hb;rw [hs] at h;have hi := ih (m.drop (rb m).2.1) (by simp; omega) h;rw [hs];show ∀ c ∈ m.take ((rb m).2.1 + (C5 (m.drop (rb m).2.1)).2.1), c ≠ 10;rw [List.take_add];intro c hc;rcases List.mem_append.1 hc with hc | hc
    ·exact b4b m hb c hc
    ·exact hi c hc
   ·rw [Gr m hq (by simpa using hb)] at h;simp at h
theorem a9l {c : UInt8} (h : nam c = true) : c ≠ 10 := fun e => by subst e; exact absurd h (by decide)
theorem Zi {c : UInt8} (h : dgt c = true) : c ≠ 10 := fun e => by subst e; exact absurd h (by decide)
theorem a85 (l : List UInt8) (hl : l ≠ []) (h : (one l).err = 0) : ∀ c ∈ l.take (one l).size, c ≠ 10 := by
 unfold one at *;split at h
 ·rename_i h1;rw [if_pos h1];exact fun c hc => a9l (I4 nam l c hc)
 ·rename_i h1;rw [if_neg h1];split at h
  ·rename_i h2;rw [if_pos h2];unfold Mh at *;split at h
   ·simp [bad] at h
   ·rename_i h3;rw [if_neg h3];split at h
    ·simp [bad] at h
    ·rename_i h4;rw [if_neg h4];show ∀ c ∈ l.take (Y2 l), c ≠ 10;unfold Y2;split
     ·rename_i h5;unfold isC at h5;rw [decide_eq_true_eq] at h5;rw [List.take_add];intro c hc;rcases List.mem_append.1 hc with hc | hc
      ·exact Zi (I4 dgt l c hc)
      ·cases hd : l.drop (Bz dgt l) with
       | nil => rw [hd] at h5; simp at h5
       | cons a b =>
        rw [hd] at h5 hc;simp at h5 hc;subst hc; subst h5; decide
     ·exact fun c hc => Zi (I4 dgt l c hc)
  ·rename_i h2;rw [if_neg h2];split at h
   ·rename_i h3;rw [if_pos h3];unfold Ll at *;split at h
    ·rename_i h4;rw [if_pos h4];obtain ⟨t, rfl⟩ := Pf l h4;rw [Im] at h4 ⊢;show ∀ c ∈ (34 :: t).take (1 + (C5 t).2.1), c ≠ 10;rw [show 1 + (C5 t).2.1 = (C5 t).2.1 + 1 by omega, List.take_succ_cons];intro c hc;rcases List.mem_cons.1 hc with rfl | hc
     ·decide
     ·exact a2x _ t (Nat.le_refl _) h4 c hc
    ·simp [bad] at h
   ·rename_i h3;rw [if_neg h3];unfold Lh at *;split at h
    ·simp [bad] at h
    ·rename_i h4;rw [if_neg h4];show ∀ c ∈ l.take (sgn l), c ≠ 10;by_cases h5 : l.take 2 ∈ J0
     ·rw [J5 h5];have h6 : ∀ x ∈ J0, ∀ c ∈ x, c ≠ 10 := by decide
      exact h6 _ h5
     ·by_cases h6 : l.headD 0 ∈ Qt
      ·rw [Cn h5 h6]
       cases l with
       | nil => exact absurd rfl hl
       | cons c t =>
        have h7 : ∀ x ∈ Qt, x ≠ 10 := by decide
        have := h7 _ h6;simpa using this
      ·exact absurd (Yj h5 h6) h4
end
end
section
section
open Go.RowKit Go.Sort
abbrev b9h : Obj := Obj.cells #[] 89
def a61 (s : ByteArray) (w : World) (R : Res) (i f line col : Nat) (v : Value) (acc : List Tok) (w' : World) : Prop :=
 i <= s.size ∧ f <= i ∧ line <= f + 1 ∧ col <= f + 1 ∧ 1 <= col ∧ acc.length <= i ∧ c04 (s.data.toList.drop i) ∧
 (F8 (s.data.toList.drop i) (plc line col ((s.data.toList.drop f).take (i - f))).1 (plc line col ((s.data.toList.drop f).take (i - f))).2).map (acc ++ ·) = R ∧
 Qx w' (w.heap.size + 2) v acc ∧ Below (w.heap.size + 2) ((w.alloc b2m).alloc b9h) w'
theorem a61.start (s : ByteArray) (w w' : World) (R : Res) (hR : F8 s.data.toList 1 1 = R) (n : Nat) (hn : 0 + Ek false (s.data.toList.drop 0) = n) (v : Value) (ho : Qx w' (w.heap.size + 2) v []) (hb : Below (w.heap.size + 2) ((w.alloc b2m).alloc b9h) w') :
  a61 s w R n 0 1 1 v [] w' := by
 rw [List.drop_zero] at hn;have hle := a2k s.data.toList false;rw [Ad] at hle;have hn' : Ek false s.data.toList = n := by omega
 refine ⟨by omega, by omega, by omega, by omega, by omega, by simp, ?_, ?_, ho, hb⟩
 ·rw [<- hn']; exact T5 _ _ (Nat.le_refl _)
 ·rw [<- hR, Tu _ s.data.toList (Nat.le_refl _) 1 1, hn', List.drop_zero, Nat.sub_zero];cases F8 (s.data.toList.drop n) (plc 1 1 (s.data.toList.take n)).1 (plc 1 1 (s.data.toList.take n)).2 <;> rfl
theorem a61.bnd {s : ByteArray} {w w' : World} {R : Res} {i f line col : Nat} {v : Value} {acc : List Tok} (h : a61 s w R i f line col v acc w') {L C : Nat} (hp : plc line col ((s.data.toList.drop f).take (i - f)) = (L, C)) : L <= i + 1 ∧ C <= i + 1 ∧ 1 <= C := by
 obtain ⟨h1, h2, h3, h4, h45, h5, h6, h7, h8, h9⟩ := h;have hlen : ((s.data.toList.drop f).take (i - f)).length = i - f := by rw [List.length_take, List.length_drop, Ad]; omega
 rcases a3v ((s.data.toList.drop f).take (i - f)) with hc | ⟨k, m, a1, a2, a3, a5, a4⟩
 ·rw [hc, hlen] at hp;simp only [Prod.mk.injEq] at hp;omega
 ·rw [a4] at hp;rw [hlen] at a2 a3;simp only [Prod.mk.injEq] at hp;omega
theorem a61.fin {s : ByteArray} {w w' : World} {R : Res} {i f line col : Nat} {v : Value} {acc : List Tok} (h : a61 s w R i f line col v acc w') {L C : Nat} (hp : plc line col ((s.data.toList.drop f).take (i - f)) = (L, C)) (hlt : ¬ i < s.size) :
  R = .ok (acc ++ [⟨8, L, C, 0, []⟩]) := by
 obtain ⟨h1, h2, h3, h4, h45, h5, h6, h7, h8, h9⟩ := h;rw [hp, Co s i (by omega), L6] at h7;rw [<- h7]; rfl
theorem a61.bad {s : ByteArray} {w w' : World} {R : Res} {i f line col : Nat} {v : Value} {acc : List Tok} {o : One} (h : a61 s w R i f line col v acc w') {L C : Nat} (hp : plc line col ((s.data.toList.drop f).take (i - f)) = (L, C)) (hlt : i < s.size)
  (ho : one (s.data.toList.drop i) = o) (he : ¬ o.err = 0) : R = .error (o.err, L, C) := by
 obtain ⟨h1, h2, h3, h4, h45, h5, h6, h7, h8, h9⟩ := h;have hd := Au s i hlt;have hg : ¬ Fy s[i] := h6 _ (by rw [hd]; rfl);rw [hp, hd] at h7;rw [hd] at ho;rw [R4 _ _ _ _ hg (by rw [ho]; exact he), ho] at h7;rw [<- h7]; rfl
theorem a61.tok {s : ByteArray} {w w' w2 : World} {R : Res} {i f line col : Nat} {v v2 : Value} {acc : List Tok} {o : One} (h : a61 s w R i f line col v acc w') {L C : Nat} (hp : plc line col ((s.data.toList.drop f).take (i - f)) = (L, C)) (hlt : i < s.size)
  (ho : one (s.data.toList.drop i) = o) (he : o.err = 0) (n : Nat) (hn : i + o.size + Ek false (s.data.toList.drop (i + o.size)) = n) :
  1 <= o.size ∧ i + o.size <= s.size ∧ n <= s.size ∧ (Qx w2 (w.heap.size + 2) v2 (acc ++ [⟨o.kind, L, C, o.num, o.text⟩]) -> Below (w.heap.size + 2) w' w2 ->
   a61 s w R n i L C v2 (acc ++ [⟨o.kind, L, C, o.num, o.text⟩]) w2) := by
 obtain ⟨bL, bC, bC1⟩ := h.bnd hp;obtain ⟨h1, h2, h3, h4, h45, h5, h6, h7, h8, h9⟩ := h;have hd := Au s i hlt;have hg : ¬ Fy s[i] := h6 _ (by rw [hd]; rfl);have hne : s.data.toList.drop i ≠ [] := by rw [hd]; simp
 have hk := Pk _ hne (by rw [ho]; exact he);have hnl := a85 _ hne (by rw [ho]; exact he);rw [ho] at hnl;rw [ho, List.length_drop, Ad] at hk;have hsk := a2k (s.data.toList.drop (i + o.size)) false;rw [List.length_drop, Ad] at hsk;refine ⟨hk.1, by omega, by omega, fun ho2 hb2 => ⟨by omega, by omega, bL, bC, bC1, by simp; omega, ?_, ?_, ho2, h9.trans hb2⟩⟩
 ·rw [<- hn, <- List.drop_drop];exact T5 _ _ (Nat.le_refl _)
 ·rw [hp] at h7;have h7' : (F8 (s.data.toList.drop i) L C).map (acc ++ ·) = R := h7;have ho' := ho;rw [hd] at h7' ho';rw [Oa _ _ _ _ hg (by rw [ho']; exact he), ho', <- hd, List.drop_drop] at h7';rw [Tu _ (s.data.toList.drop (i + o.size)) (Nat.le_refl _), List.drop_drop, hn] at h7'
  have hx : (s.data.toList.drop i).take (n - i) = (s.data.toList.drop i).take o.size ++ (s.data.toList.drop (i + o.size)).take (Ek false (s.data.toList.drop (i + o.size))) := by
   rw [show n - i = o.size + Ek false (s.data.toList.drop (i + o.size)) by omega, List.take_add, List.drop_drop]
  have hlen : ((s.data.toList.drop i).take o.size).length = o.size := by rw [List.length_take, List.length_drop, Ad]; omega
  rw [hx, a3w, Yy hnl, hlen, <- h7']
  cases F8 (List.drop n s.data.toList) (plc L (C + o.size) ((s.data.toList.drop (i + o.size)).take (Ek false (s.data.toList.drop (i + o.size))))).1 (plc L (C + o.size) ((s.data.toList.drop (i + o.size)).take (Ek false (s.data.toList.drop (i + o.size))))).2 with
  | ok l => simp [Except.map]
  | error f => rfl
end
end
end Go.Proofs.YtoaplbljflhheaaGreat
