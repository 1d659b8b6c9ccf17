/-
  Contract of the document's One where a sign stands, or nothing that begins a token. Conditions: texts of at most 100000 bytes, a place within.
-/
import Derived.Test.YtddeiidkmihkkaaOna
namespace Go.Proofs.Ytddeiidkmihkkaa
open Go.RowKit Go.Sort
set_option linter.unusedVariables false

theorem scells (w : World) (k : Nat) (h : k < 6) : (w.alloc (Obj.cells #[Value.string { data := #[38, 38] }, Value.string { data := #[124, 124] }, Value.string { data := #[61, 61] }, Value.string { data := #[33, 61] }, Value.string { data := #[60, 61] }, Value.string { data := #[62, 61] }] 9)).cell? ⟨w.heap.size, k, none⟩ = some (.string (bs (twos[k]'h))) := by
  have e : (w.alloc (Obj.cells #[Value.string { data := #[38, 38] }, Value.string { data := #[124, 124] }, Value.string { data := #[61, 61] }, Value.string { data := #[33, 61] }, Value.string { data := #[60, 61] }, Value.string { data := #[62, 61] }] 9)).cell? ⟨w.heap.size, k, none⟩ = (#[Value.string { data := #[38, 38] }, Value.string { data := #[124, 124] }, Value.string { data := #[61, 61] }, Value.string { data := #[33, 61] }, Value.string { data := #[60, 61] }, Value.string { data := #[62, 61] }] : Array Value)[k]? := by simp [go_sem]
  rw [e]
  match k, h with
  | 0, _ => rfl
  | 1, _ => rfl
  | 2, _ => rfl
  | 3, _ => rfl
  | 4, _ => rfl
  | 5, _ => rfl
  | n + 6, h => omega

abbrev ZT (w W : World) : Prop := W.cell? ⟨w.heap.size, 0, none⟩ = some (.int .u8 0) ∧ W.cell? ⟨w.heap.size, 1, none⟩ = some (.int .i64 0) ∧ W.cell? ⟨w.heap.size, 2, none⟩ = some (.int .i64 0) ∧
    W.cell? ⟨w.heap.size, 3, none⟩ = some (.int .i64 0) ∧ W.cell? ⟨w.heap.size, 4, none⟩ = some (.string { data := #[] }) ∧ ∀ o, W.frozen? ⟨w.heap.size, o, none⟩ = false
theorem hzz {w : World} (W : World) (h : ZT w W) : ∀ W', Below W.heap.size W W' → ZT w W' := fun W' hb =>
  ⟨cell_carry hb h.1, cell_carry hb h.2.1, cell_carry hb h.2.2.1, cell_carry hb h.2.2.2.1, cell_carry hb h.2.2.2.2.1, fun o => froz_carry hb h.1 (h.2.2.2.2.2 o)⟩

theorem bads (k : Nat) (h : k < 19) : (({ data := #[43, 45, 42, 47, 37, 60, 62, 33, 61, 40, 41, 123, 125, 91, 93, 44, 59, 58, 46] } : ByteArray)[k]'h) = ones[k]'h := by
  match k, h with
  | 0, _ => rfl
  | 1, _ => rfl
  | 2, _ => rfl
  | 3, _ => rfl
  | 4, _ => rfl
  | 5, _ => rfl
  | 6, _ => rfl
  | 7, _ => rfl
  | 8, _ => rfl
  | 9, _ => rfl
  | 10, _ => rfl
  | 11, _ => rfl
  | 12, _ => rfl
  | 13, _ => rfl
  | 14, _ => rfl
  | 15, _ => rfl
  | 16, _ => rfl
  | 17, _ => rfl
  | 18, _ => rfl
  | n + 19, h => omega

set_option maxHeartbeats 4000000 in
set_option maxRecDepth 100000 in
theorem rone_sign_y (s : ByteArray) (w : World) (hs : s.size ≤ 100000) (i : Nat) (hi : i < s.size) (o : One) (X : ByteArray) (h2 : i + 2 ≤ s.size) (hX : s.extract i (i + 2) = X) (hXl : X.data.toList = (s.data.toList.drop i).take 2) (htwo : (s.data.toList.drop i).take 2 ∈ twos → o = ⟨0, 2, 7, 0, (s.data.toList.drop i).take 2⟩)
    (e34 : ((s[i].toNat : Int) == 34) = false) (H21 : Hid (Kind1 s[i] 0))
    (hone : ¬ (s.data.toList.drop i).take 2 ∈ twos → s[i] ∈ ones → o = ⟨0, 1, 7, 0, [s[i]]⟩) (hend : ¬ (s.data.toList.drop i).take 2 ∈ twos → ¬ s[i] ∈ ones → o = bad 4) :
    Calls Try.prog 13 #[.string s, .int .i64 (i : Nat)] w (RetN i o w) := by
  have hb0 := Lib.hid ((below_alloc w zTok).trans ((below_alloc (w.alloc zTok) (Obj.cells #[Value.string { data := #[38, 38] }, Value.string { data := #[124, 124] }, Value.string { data := #[61, 61] }, Value.string { data := #[33, 61] }, Value.string { data := #[60, 61] }, Value.string { data := #[62, 61] }] 9)).mono (by simp)))
  have hc0 := Lib.hid (scells (w.alloc zTok))
  have hz0 := tokz (w := w) (W := (w.alloc zTok).alloc (Obj.cells #[Value.string { data := #[38, 38] }, Value.string { data := #[124, 124] }, Value.string { data := #[61, 61] }, Value.string { data := #[33, 61] }, Value.string { data := #[60, 61] }, Value.string { data := #[62, 61] }] 9)) ((below_alloc (w.alloc zTok) (Obj.cells #[Value.string { data := #[38, 38] }, Value.string { data := #[124, 124] }, Value.string { data := #[61, 61] }, Value.string { data := #[33, 61] }, Value.string { data := #[60, 61] }, Value.string { data := #[62, 61] }] 9)).mono (by simp)) (Below.refl _ _)
  have hsz : ((w.alloc zTok).alloc (Obj.cells #[Value.string { data := #[38, 38] }, Value.string { data := #[124, 124] }, Value.string { data := #[61, 61] }, Value.string { data := #[33, 61] }, Value.string { data := #[60, 61] }, Value.string { data := #[62, 61] }] 9)).heap.size = w.heap.size + 1 + 1 := by simp
  go_enter Try.func13, Try.ntmps13
  go_wp2_with fail
  refine (H21.out _).mono ?_
  rintro _ w' ⟨rfl, rfl⟩
  go_wp2
  obtain ⟨W, hW⟩ : ∃ W, W = (w.alloc zTok).alloc (Obj.cells #[Value.string { data := #[38, 38] }, Value.string { data := #[124, 124] }, Value.string { data := #[61, 61] }, Value.string { data := #[33, 61] }, Value.string { data := #[60, 61] }, Value.string { data := #[62, 61] }] 9) := ⟨_, rfl⟩
  rw [← hW]
  rw [← hW] at hb0 hc0 hz0 hsz
  rw [show (w.alloc zTok).heap.size = w.heap.size + 1 by simp] at hc0
  have hzW := Lib.hid (hzz W hz0)
  clear hW hz0
  go_loopw [74] (fun v wq => ∃ j : Nat, j ≤ 6 ∧ v = .int .i64 (j : Nat) ∧ (∀ m, m < j → twos[m]? ≠ some ((s.data.toList.drop i).take 2)) ∧ Below W.heap.size W wq) (fun v _ => 6 - (intOf v).toNat)
  case atStart => exact ⟨0, Nat.zero_le _, rfl, by simp, Below.refl _ _⟩
  case round =>
    obtain ⟨j, hj, rfl, hno, hbW⟩ := hrel
    obtain ⟨z0, z1, z2, z3, z4, z5⟩ := hzW.out _ hbW
    have hb1 := Lib.hid (below_step hb0.out hbW)
    have hcw := hbW
    replace hbW := Lib.hid hbW
    by_cases hl : j < 6
    case neg =>
      have hnt : ¬ (s.data.toList.drop i).take 2 ∈ twos := fun hm => by
        obtain ⟨m, hm1, hm2⟩ := List.getElem_of_mem hm
        have hm3 : m < 6 := hm1
        exact hno m (by omega) (by rw [List.getElem?_eq_getElem hm1, hm2])
      replace hone := hone hnt
      replace hend := hend hnt
      clear htwo hnt
      have hl2 : ¬ (j : Int) < 6 := by omega
      clear hno hb1 hcw
      go_wp2
      obtain ⟨T, hT⟩ : ∃ T : ByteArray, T = { data := #[43, 45, 42, 47, 37, 60, 62, 33, 61, 40, 41, 123, 125, 91, 93, 44, 59, 58, 46] } := ⟨_, rfl⟩
      have hT1 : T.size = 19 := by rw [hT]; rfl
      have hT2 := Lib.hid (show ∀ k (h : k < T.size), T[k] = ones[k]'(by rw [hT1] at h; exact h) from by subst hT; exact fun k h => bads k h)
      rw [← hT]
      clear hT
      go_loopw [15] (fun v wq => ∃ j : Nat, j ≤ 19 ∧ v = .int .i64 (j : Nat) ∧ (∀ m, m < j → ones[m]? ≠ some s[i]) ∧ Below W.heap.size W wq) (fun v _ => 19 - (intOf v).toNat)
      case atStart => exact ⟨0, Nat.zero_le _, rfl, by simp, hbW.out⟩
      case round =>
        clear hbW z0 z1 z2 z3 z4 z5
        obtain ⟨j, hj, rfl, hno, hbW⟩ := hrel
        obtain ⟨z0, z1, z2, z3, z4, z5⟩ := hzW.out _ hbW
        have hb1 := Lib.hid (below_step hb0.out hbW)
        replace hbW := Lib.hid hbW
        by_cases hl : j < 19
        case neg =>
          have ho := Lib.hid (hend (fun hm => by
            obtain ⟨m, hm1, hm2⟩ := List.getElem_of_mem hm
            have hm3 : m < 19 := hm1
            exact hno m (by omega) (by rw [List.getElem?_eq_getElem hm1, hm2])))
          have hl2 : ¬ (j : Int) < T.size := by omega
          clear hno hend hone
          go_wp2
          refine bodyPost_ret (v := badV 4) (by simp [results, Try.results13, go_sem, z0, z1, z2, z3, z4]) rfl ?_
          replace hb1 := hb1.out
          exact retN_bad ho.out (by decide) (by go_grown)
        have hl2 : (j : Int) < T.size := by omega
        have hl3 : j < T.size := by omega
        have hTj := hT2.out j hl3
        by_cases heq : s[i] = ones[j]'hl
        · have e1 : ((s[i].toNat : Int) == (T[j].toNat : Int)) = true := by rw [hTj, heq]; simp
          have hx : T.extract j (j + 1) = bs [s[i]] := by
            apply bytes_eq
            rw [ext_list, bs_list, drop_cons T j hl3, hTj, heq]; simp
          obtain ⟨Y, hY⟩ : ∃ Y, T.extract j (j + 1) = Y := ⟨_, rfl⟩
          have ho := Lib.hid (show o = ⟨0, 1, 7, 0, Y.data.toList⟩ by rw [hone (by rw [heq]; exact List.getElem_mem _), ← hY, hx, bs_list])
          obtain ⟨j1, hj1⟩ : ∃ j1, j + 1 = j1 := ⟨_, rfl⟩
          rw [hj1] at hY
          have hj2 : (j : Int) + 1 = j1 := by omega
          have hj3 : j1 ≤ T.size := by omega
          have hj4 : j ≤ j1 := by omega
          obtain ⟨i1, hi1⟩ : ∃ i1, i + 1 = i1 := ⟨_, rfl⟩
          have hi2 : (i : Int) + 1 = i1 := by omega
          clear hno hend hone heq hTj hx hj1
          go_wp2_with fail
          go_quiet (fail)
          have hb2 := Lib.hid (below_step hb1.out (below_drewN _ nq))
          go_wp2
          refine bodyPost_ret (v := .tuple #[tokV 7 0 0 0 Y, .int .i64 (i1 : Nat), .int .i64 0]) (by simp [results, Try.results13, go_sem, z0, z1, z2, z3, z4]) rfl ?_
          replace hb2 := hb2.out
          exact retN_okx ho.out (by omega) (by go_grown)
        · have e1 : ((s[i].toNat : Int) == (T[j].toNat : Int)) = false := by
            rw [hTj, beq_eq_false_iff_ne]; intro h; exact heq (UInt8.toNat_inj.1 (by omega))
          have hno2 := Lib.hid (show ∀ m, m < j + 1 → ones[m]? ≠ some s[i] from fun m hm => by
            by_cases hmj : m = j
            · subst hmj; rw [List.getElem?_eq_getElem hl]; simpa using fun e => heq e.symm
            · exact hno m (by omega))
          clear hno hend hone heq hTj
          go_wp2_with fail
          go_quiet (fail)
          have hb2 := Lib.hid (below_step hbW.out (below_drewN _ nq))
          go_wp2
          go_roundw
          case rel => exact ⟨j + 1, hl, by go_num, hno2.out, hb2.out⟩
          case measure => simp [intOf]; omega
    have hcell := cell_carry hcw (hc0.out j hl)
    clear hcw
    have h2i : (i : Int) + 2 ≤ s.size := by omega
    obtain ⟨i2, hi2⟩ : ∃ i2, i + 2 = i2 := ⟨_, rfl⟩
    rw [hi2] at hX h2
    have hi3 : (i : Int) + 2 = i2 := by omega
    have hi4 : i ≤ i2 := by omega
    have hi5 : (i2 : Int) ≤ s.size := by omega
    by_cases heq : (s.data.toList.drop i).take 2 = twos[j]'hl
    · have e1 : (X.toList == (bs (twos[j]'hl)).toList) = true := by rw [ByteArray.toList_eq, ByteArray.toList_eq, bs_list, hXl, heq]; simp
      have ho := Lib.hid (show o = ⟨0, 2, 7, 0, (bs (twos[j]'hl)).data.toList⟩ by rw [htwo (by rw [heq]; exact List.getElem_mem _), heq, bs_list])
      generalize bs (twos[j]'hl) = x at hcell e1 ho
      clear hno hend hone heq htwo hXl h2i
      go_wp2_with fail
      go_quiet (fail)
      have hb2 := Lib.hid (below_step hb1.out (below_drewN _ nq))
      go_wp2
      refine bodyPost_ret (v := .tuple #[tokV 7 0 0 0 x, .int .i64 (i2 : Nat), .int .i64 0]) (by simp [results, Try.results13, go_sem, z0, z1, z2, z3, z4]) rfl ?_
      replace hb2 := hb2.out
      exact retN_okx ho.out (by omega) (by go_grown)
    · have e1 : (X.toList == (bs (twos[j]'hl)).toList) = false := by rw [ByteArray.toList_eq, ByteArray.toList_eq, bs_list, hXl]; simpa using heq
      have hno2 := Lib.hid (show ∀ m, m < j + 1 → twos[m]? ≠ some ((s.data.toList.drop i).take 2) from fun m hm => by
        by_cases hmj : m = j
        · subst hmj; rw [List.getElem?_eq_getElem hl]; simpa using fun e => heq e.symm
        · exact hno m (by omega))
      generalize bs (twos[j]'hl) = x at hcell e1
      clear hno hend hone heq htwo hXl h2i
      go_wp2_with fail
      go_quiet (fail)
      have hb2 := Lib.hid (below_step hbW.out (below_drewN _ nq))
      go_wp2
      go_roundw
      case rel => exact ⟨j + 1, hl, by go_num, hno2.out, hb2.out⟩
      case measure => simp [intOf]; omega

set_option maxHeartbeats 4000000 in
set_option maxRecDepth 100000 in
theorem rone_sign_n (s : ByteArray) (w : World) (hs : s.size ≤ 100000) (i : Nat) (hi : i < s.size) (o : One) (h2 : ¬ i + 2 ≤ s.size)
    (e34 : ((s[i].toNat : Int) == 34) = false) (H21 : Hid (Kind1 s[i] 0))
    (hone : s[i] ∈ ones → o = ⟨0, 1, 7, 0, [s[i]]⟩) (hend : ¬ s[i] ∈ ones → o = bad 4) :
    Calls Try.prog 13 #[.string s, .int .i64 (i : Nat)] w (RetN i o w) := by
  have hb0 := Lib.hid ((below_alloc w zTok).trans ((below_alloc (w.alloc zTok) (Obj.cells #[Value.string { data := #[38, 38] }, Value.string { data := #[124, 124] }, Value.string { data := #[61, 61] }, Value.string { data := #[33, 61] }, Value.string { data := #[60, 61] }, Value.string { data := #[62, 61] }] 9)).mono (by simp)))
  have hc0 := Lib.hid (scells (w.alloc zTok))
  have hz0 := tokz (w := w) (W := (w.alloc zTok).alloc (Obj.cells #[Value.string { data := #[38, 38] }, Value.string { data := #[124, 124] }, Value.string { data := #[61, 61] }, Value.string { data := #[33, 61] }, Value.string { data := #[60, 61] }, Value.string { data := #[62, 61] }] 9)) ((below_alloc (w.alloc zTok) (Obj.cells #[Value.string { data := #[38, 38] }, Value.string { data := #[124, 124] }, Value.string { data := #[61, 61] }, Value.string { data := #[33, 61] }, Value.string { data := #[60, 61] }, Value.string { data := #[62, 61] }] 9)).mono (by simp)) (Below.refl _ _)
  have hsz : ((w.alloc zTok).alloc (Obj.cells #[Value.string { data := #[38, 38] }, Value.string { data := #[124, 124] }, Value.string { data := #[61, 61] }, Value.string { data := #[33, 61] }, Value.string { data := #[60, 61] }, Value.string { data := #[62, 61] }] 9)).heap.size = w.heap.size + 1 + 1 := by simp
  go_enter Try.func13, Try.ntmps13
  go_wp2_with fail
  refine (H21.out _).mono ?_
  rintro _ w' ⟨rfl, rfl⟩
  go_wp2
  obtain ⟨W, hW⟩ : ∃ W, W = (w.alloc zTok).alloc (Obj.cells #[Value.string { data := #[38, 38] }, Value.string { data := #[124, 124] }, Value.string { data := #[61, 61] }, Value.string { data := #[33, 61] }, Value.string { data := #[60, 61] }, Value.string { data := #[62, 61] }] 9) := ⟨_, rfl⟩
  rw [← hW]
  rw [← hW] at hb0 hc0 hz0 hsz
  rw [show (w.alloc zTok).heap.size = w.heap.size + 1 by simp] at hc0
  have hzW := Lib.hid (hzz W hz0)
  clear hW hz0
  go_loopw [74] (fun v wq => ∃ j : Nat, j ≤ 6 ∧ v = .int .i64 (j : Nat) ∧ (∀ m, m < j → twos[m]? ≠ some ((s.data.toList.drop i).take 2)) ∧ Below W.heap.size W wq) (fun v _ => 6 - (intOf v).toNat)
  case atStart => exact ⟨0, Nat.zero_le _, rfl, by simp, Below.refl _ _⟩
  case round =>
    obtain ⟨j, hj, rfl, hno, hbW⟩ := hrel
    obtain ⟨z0, z1, z2, z3, z4, z5⟩ := hzW.out _ hbW
    have hb1 := Lib.hid (below_step hb0.out hbW)
    have hcw := hbW
    replace hbW := Lib.hid hbW
    by_cases hl : j < 6
    case neg =>
      have hl2 : ¬ (j : Int) < 6 := by omega
      clear hno hb1 hcw
      go_wp2
      obtain ⟨T, hT⟩ : ∃ T : ByteArray, T = { data := #[43, 45, 42, 47, 37, 60, 62, 33, 61, 40, 41, 123, 125, 91, 93, 44, 59, 58, 46] } := ⟨_, rfl⟩
      have hT1 : T.size = 19 := by rw [hT]; rfl
      have hT2 := Lib.hid (show ∀ k (h : k < T.size), T[k] = ones[k]'(by rw [hT1] at h; exact h) from by subst hT; exact fun k h => bads k h)
      rw [← hT]
      clear hT
      go_loopw [15] (fun v wq => ∃ j : Nat, j ≤ 19 ∧ v = .int .i64 (j : Nat) ∧ (∀ m, m < j → ones[m]? ≠ some s[i]) ∧ Below W.heap.size W wq) (fun v _ => 19 - (intOf v).toNat)
      case atStart => exact ⟨0, Nat.zero_le _, rfl, by simp, hbW.out⟩
      case round =>
        clear hbW z0 z1 z2 z3 z4 z5
        obtain ⟨j, hj, rfl, hno, hbW⟩ := hrel
        obtain ⟨z0, z1, z2, z3, z4, z5⟩ := hzW.out _ hbW
        have hb1 := Lib.hid (below_step hb0.out hbW)
        replace hbW := Lib.hid hbW
        by_cases hl : j < 19
        case neg =>
          have ho := Lib.hid (hend (fun hm => by
            obtain ⟨m, hm1, hm2⟩ := List.getElem_of_mem hm
            have hm3 : m < 19 := hm1
            exact hno m (by omega) (by rw [List.getElem?_eq_getElem hm1, hm2])))
          have hl2 : ¬ (j : Int) < T.size := by omega
          clear hno hend hone
          go_wp2
          refine bodyPost_ret (v := badV 4) (by simp [results, Try.results13, go_sem, z0, z1, z2, z3, z4]) rfl ?_
          replace hb1 := hb1.out
          exact retN_bad ho.out (by decide) (by go_grown)
        have hl2 : (j : Int) < T.size := by omega
        have hl3 : j < T.size := by omega
        have hTj := hT2.out j hl3
        by_cases heq : s[i] = ones[j]'hl
        · have e1 : ((s[i].toNat : Int) == (T[j].toNat : Int)) = true := by rw [hTj, heq]; simp
          have hx : T.extract j (j + 1) = bs [s[i]] := by
            apply bytes_eq
            rw [ext_list, bs_list, drop_cons T j hl3, hTj, heq]; simp
          obtain ⟨Y, hY⟩ : ∃ Y, T.extract j (j + 1) = Y := ⟨_, rfl⟩
          have ho := Lib.hid (show o = ⟨0, 1, 7, 0, Y.data.toList⟩ by rw [hone (by rw [heq]; exact List.getElem_mem _), ← hY, hx, bs_list])
          obtain ⟨j1, hj1⟩ : ∃ j1, j + 1 = j1 := ⟨_, rfl⟩
          rw [hj1] at hY
          have hj2 : (j : Int) + 1 = j1 := by omega
          have hj3 : j1 ≤ T.size := by omega
          have hj4 : j ≤ j1 := by omega
          obtain ⟨i1, hi1⟩ : ∃ i1, i + 1 = i1 := ⟨_, rfl⟩
          have hi2 : (i : Int) + 1 = i1 := by omega
          clear hno hend hone heq hTj hx hj1
          go_wp2_with fail
          go_quiet (fail)
          have hb2 := Lib.hid (below_step hb1.out (below_drewN _ nq))
          go_wp2
          refine bodyPost_ret (v := .tuple #[tokV 7 0 0 0 Y, .int .i64 (i1 : Nat), .int .i64 0]) (by simp [results, Try.results13, go_sem, z0, z1, z2, z3, z4]) rfl ?_
          replace hb2 := hb2.out
          exact retN_okx ho.out (by omega) (by go_grown)
        · have e1 : ((s[i].toNat : Int) == (T[j].toNat : Int)) = false := by
            rw [hTj, beq_eq_false_iff_ne]; intro h; exact heq (UInt8.toNat_inj.1 (by omega))
          have hno2 := Lib.hid (show ∀ m, m < j + 1 → ones[m]? ≠ some s[i] from fun m hm => by
            by_cases hmj : m = j
            · subst hmj; rw [List.getElem?_eq_getElem hl]; simpa using fun e => heq e.symm
            · exact hno m (by omega))
          clear hno hend hone heq hTj
          go_wp2_with fail
          go_quiet (fail)
          have hb2 := Lib.hid (below_step hbW.out (below_drewN _ nq))
          go_wp2
          go_roundw
          case rel => exact ⟨j + 1, hl, by go_num, hno2.out, hb2.out⟩
          case measure => simp [intOf]; omega
    have hno2 := Lib.hid (show ∀ m, m < j + 1 → twos[m]? ≠ some ((s.data.toList.drop i).take 2) from fun m hm e => by
      have h6 : ∀ x ∈ twos, x.length = 2 := by decide
      have := h6 _ (List.mem_of_getElem? e)
      rw [List.length_take, List.length_drop, size_list] at this
      omega)
    have hg : decide ((i : Int) + 2 ≤ s.size) = false := by rw [decide_eq_false_iff_not]; omega
    clear hno hend hone hcw
    go_wp2_with fail
    go_quiet (fail)
    have hb2 := Lib.hid (below_step hbW.out (below_drewN _ nq))
    go_wp2
    go_roundw
    case rel => exact ⟨j + 1, hl, by go_num, hno2.out, hb2.out⟩
    case measure => simp [intOf]; omega

end Go.Proofs.Ytddeiidkmihkkaa
