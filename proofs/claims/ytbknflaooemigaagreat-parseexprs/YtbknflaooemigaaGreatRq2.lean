/-
 Contract of the document's number. Conditions: texts of at most 100000 bytes, a digit at the place. Contract of the document's number, for every text. Conditions: texts of at most 100000 bytes, a digit at the place.
-/
import Derived.Test.YtbknflaooemigaaGreatLxc
import Derived.Test.YtbknflaooemigaaGreatRfx
import Derived.Test.YtbknflaooemigaaGreatLxa
import Derived.Test.YtbknflaooemigaaGreatNmr
namespace Go.Proofs.YtbknflaooemigaaGreat
section
open Go.RowKit Go.Sort
set_option linter.unusedVariables false

/-- What the document answers of a token at a place. -/
def r_RetN (i : Nat) (o : One) (w : World) (e : Ending) (w' : World) : Prop :=
 ∃ k : Nat, e = .returned (.tuple #[tokV k 0 0 o.num (bs o.text), .int .i64 ((if o.err = 0 then i + o.size else 0 : Nat) : Nat), .int .i64 o.err]) ∧ (o.err = 0 → k = o.kind) ∧ Below w.heap.size w w'

theorem retN_ok {i k m : Nat} {n : Int} {t : List UInt8} {o : One} {w w' : World} (h : o = ⟨0, m, k, n, t⟩) {E : Nat} (hE : E = i + m) (hb : Below w.heap.size w w') : r_RetN i o w (.returned (.tuple #[tokV k 0 0 n (bs t), .int .i64 (E : Nat), .int .i64 0])) w' := by
 subst h hE
 exact ⟨k, rfl, fun _ => rfl, hb⟩
theorem retN_bad {i k : Nat} {e : Int} {o : One} {w w' : World} (h : o = bad e) (he : e ≠ 0) (hb : Below w.heap.size w w') : r_RetN i o w (.returned (.tuple #[tokV k 0 0 0 { data := #[] }, .int .i64 0, .int .i64 e])) w' := by
 subst h
 refine ⟨k, ?_, fun h => absurd h he, hb⟩
 have : (if (bad e).err = 0 then i + (bad e).size else 0) = 0 := if_neg he
 rw [this]; rfl

theorem kd3 (c : UInt8) : kdN c = 3 ↔ dgt c = true := by
 cases hd : dgt c with
 | true =>
  have h := hd
  unfold dgt at h
  rw [Bool.and_eq_true, decide_eq_true_eq, decide_eq_true_eq] at h
  have a3 : ¬ c = 95 := fun e => by rw [e] at h; exact absurd h.2 (by decide)
  have a1 : sml c = false := by simp [sml, a3]; omega
  have a2 : grt c = false := by simp [grt]; omega
  rw [kdN, a1, a2, hd]; simp
 | false =>
  unfold kdN
  rw [hd]
  cases sml c <;> cases grt c <;> simp

theorem drop_take_cons (s : ByteArray) (K j : Nat) (hj : j < K) (hK : K ≤ s.size) : (s.data.toList.take K).drop j = s[j] :: (s.data.toList.take K).drop (j + 1) := by
 rw [List.drop_take, List.drop_take, drop_cons s j (by omega), show K - j = (K - (j + 1)) + 1 by omega, List.take_succ_cons]

abbrev zTok : Obj := Obj.cells #[Value.int IntKind.u8 0, Value.int IntKind.i64 0, Value.int IntKind.i64 0, Value.int IntKind.i64 0, Value.string { data := #[] }] 38

theorem tokz {w W w1 : World} (hW : Below (w.heap.size + 1) (w.alloc zTok) W) (hb : Below W.heap.size W w1) : w1.cell? ⟨w.heap.size, 0, none⟩ = some (.int .u8 0) ∧ w1.cell? ⟨w.heap.size, 1, none⟩ = some (.int .i64 0) ∧ w1.cell? ⟨w.heap.size, 2, none⟩ = some (.int .i64 0) ∧
  w1.cell? ⟨w.heap.size, 3, none⟩ = some (.int .i64 0) ∧ w1.cell? ⟨w.heap.size, 4, none⟩ = some (.string { data := #[] }) ∧ ∀ o, w1.frozen? ⟨w.heap.size, o, none⟩ = false := by
 have hz : (w.alloc zTok).heap.size = w.heap.size + 1 := by simp
 have hs := hW.size
 have h : Below (w.alloc zTok).heap.size (w.alloc zTok) w1 := by rw [hz]; exact hW.trans (hb.mono (by omega))
 refine ⟨?_, ?_, ?_, ?_, ?_, fun o => ?_⟩
 ·rw [(bcell h).1 _ _ (by omega)]; simp [go_sem]
 ·rw [(bcell h).1 _ _ (by omega)]; simp [go_sem]
 ·rw [(bcell h).1 _ _ (by omega)]; simp [go_sem]
 ·rw [(bcell h).1 _ _ (by omega)]; simp [go_sem]
 ·rw [(bcell h).1 _ _ (by omega)]; simp [go_sem]
 ·rw [(bcell h).2 _ _ (by omega)]; simp [go_sem]

set_option maxHeartbeats 4000000 in
set_option maxRecDepth 100000 in
theorem rnum_c (s D : ByteArray) (w : World) (hs : s.size ≤ 100000) (i K E J : Nat) (n e : Int) (o : One) (hi : i < K) (hK : K ≤ s.size) (hKs : K < s.size) (e105 : ((s[K].toNat : Int) == 105) = true) (hE : (K : Int) + 1 = E)
  (hKr : Hid (i + runL dgt (s.data.toList.drop i) = K)) (HI : Hid (∀ w, Calls Tryz.prog 39 #[.string s, .int .i64 (K : Nat)] w fun e w' => e = .returned (.int .i64 (E : Nat)) ∧ w = w'))
  (hJ : Hid (i + runL nou ((s.data.toList.take K).drop i).dropLast = J)) (hD : Hid (s.extract J K = D))
  (HP : Hid (∀ w, Calls Tryz.prog 55 #[.string D] w fun x w' => x = .returned (.tuple #[.int .i64 n, .int .i64 e]) ∧ Below w.heap.size w w'))
  (hfin : ((e != 0) = true ∧ o = bad 14) ∨ ((e != 0) = false ∧ 8388607 < n ∧ o = bad 14) ∨ ((e != 0) = false ∧ ¬ 8388607 < n ∧ o = ⟨0, K + 1 - i, 4, n, []⟩)) :
  Calls Tryz.prog 41 #[.string s, .int .i64 (i : Nat)] w (r_RetN i o w) := by
 have hE2 : ((E : Int) == (E : Int)) = true := by simp
 go_enter Tryz.func41, Tryz.ntmps41
 go_wp2
 go_loop [7] (fun v => ∃ k : Nat, k ≤ s.size ∧ v = .int .i64 (k : Nat) ∧ k + runL dgt (s.data.toList.drop k) = K) (fun v => s.size - (intOf v).toNat)
 case atStart => exact ⟨i, by omega, rfl, hKr.out⟩
 case round =>
  clear hKr
  obtain ⟨k, hk, rfl, hk2⟩ := hrel
  by_cases hlt : k < s.size
  ·rw [drop_cons s k hlt] at hk2
   have HK := Lib.hid (fun w => rkind_any s[k] w)
   obtain ⟨m, hm⟩ : ∃ m, kdN s[k] = m := ⟨_, rfl⟩
   have h3 := kd3 s[k]
   rw [hm] at HK h3
   cases hp : dgt s[k] with
   | true =>
    have hm3 : ((m : Int) == 3) = true := by rw [beq_iff_eq]; have := h3.2 hp; omega
    rw [runL_cons hp] at hk2
    replace hk2 := Lib.hid hk2
    clear hp h3 hm hfin
    go_wp2_with fail
    refine (HK.out _).mono ?_
    rintro _ w' ⟨rfl, rfl⟩
    go_wp2
    go_round
    case rel => exact ⟨k + 1, hlt, by go_num, by have := hk2.out; omega⟩
    case measure => simp [intOf]; omega
   | false =>
    have hm3 : ((m : Int) == 3) = false := by rw [beq_eq_false_iff_ne]; intro h; have := h3.1 (by omega); rw [hp] at this; cases this
    rw [runL_none hp] at hk2
    obtain rfl : K = k := by simpa using hk2.symm
    clear hp h3 hm hk2
    go_wp2_with fail
    refine (HK.out _).mono ?_
    rintro _ w' ⟨rfl, rfl⟩
    go_wp2_with fail
    refine (HI.out _).mono ?_
    rintro _ w' ⟨rfl, rfl⟩
    go_wp2
    go_loop [1] (fun v => ∃ j : Nat, j < K ∧ v = .int .i64 (j : Nat) ∧ j + runL nou ((s.data.toList.take K).drop j).dropLast = J) (fun v => K - (intOf v).toNat)
    case atStart => exact ⟨i, hi, rfl, hJ.out⟩
    case round =>
     obtain ⟨j, hj, rfl, hJ2⟩ := hrel
     have hjs : j < s.size := by omega
     clear hJ
     rw [drop_take_cons s K j hj hK] at hJ2
     by_cases hl : j + 1 < K
     case neg =>
      rw [List.drop_of_length_le (by rw [List.length_take, size_list]; omega)] at hJ2
      obtain rfl : j = J := by simpa [runL] using hJ2
      have hl2 : ¬ (j : Int) < (K : Int) - 1 := by omega
      have hjK : j ≤ K := by omega
      have hD2 := hD.out
      clear hJ2 hl
      rcases hfin with ⟨he, ho⟩ | ⟨he, hn, ho⟩ | ⟨he, hn, ho⟩
      ·replace ho := Lib.hid ho
       go_wp2_with fail
       refine (HP.out _).mono ?_
       rintro _ w1 ⟨rfl, hb⟩
       obtain ⟨z0, z1, z2, z3, z4, z5⟩ := tokz (by go_grown) hb
       obtain ⟨hc, hf⟩ := bcell hb
       have hz := hb.size
       simp only [World.size_alloc] at hc hf hz
       go_wp2
       refine bodyPost_ret (v := .tuple #[tokV 4 0 0 0 { data := #[] }, .int .i64 0, .int .i64 14]) (by simp [results, Tryz.results41, go_sem, z0, z1, z2, z3, z4]) rfl ?_
       have hb' := (by go_grown : Below w.heap.size w _).trans (hb.mono (by simp; omega))
       exact retN_bad ho.out (by decide) (by go_grown)
      ·replace ho := Lib.hid ho
       go_wp2_with fail
       refine (HP.out _).mono ?_
       rintro _ w1 ⟨rfl, hb⟩
       obtain ⟨z0, z1, z2, z3, z4, z5⟩ := tokz (by go_grown) hb
       obtain ⟨hc, hf⟩ := bcell hb
       have hz := hb.size
       simp only [World.size_alloc] at hc hf hz
       go_wp2
       refine bodyPost_ret (v := .tuple #[tokV 4 0 0 0 { data := #[] }, .int .i64 0, .int .i64 14]) (by simp [results, Tryz.results41, go_sem, z0, z1, z2, z3, z4]) rfl ?_
       have hb' := (by go_grown : Below w.heap.size w _).trans (hb.mono (by simp; omega))
       exact retN_bad ho.out (by decide) (by go_grown)
      ·replace ho := Lib.hid ho
       go_wp2_with fail
       refine (HP.out _).mono ?_
       rintro _ w1 ⟨rfl, hb⟩
       obtain ⟨z0, z1, z2, z3, z4, z5⟩ := tokz (by go_grown) hb
       obtain ⟨hc, hf⟩ := bcell hb
       have hz := hb.size
       simp only [World.size_alloc] at hc hf hz
       go_wp2
       refine bodyPost_ret (v := .tuple #[tokV 4 0 0 n { data := #[] }, .int .i64 (E : Nat), .int .i64 0]) (by simp [results, Tryz.results41, go_sem, z0, z1, z2, z3, z4]) rfl ?_
       have hb' := (by go_grown : Below w.heap.size w _).trans (hb.mono (by simp; omega))
       exact retN_ok ho.out (by omega) (by go_grown)
     have hl2 : (j : Int) < (K : Int) - 1 := by omega
     rw [drop_take_cons s K (j + 1) hl hK, List.dropLast_cons_cons, ← drop_take_cons s K (j + 1) hl hK] at hJ2
     by_cases h48 : s[j] = 48
     ·rw [runL_cons (by rw [h48]; rfl)] at hJ2
      have e48 : ((s[j].toNat : Int) == 48) = true := by rw [h48]; rfl
      replace hJ2 := Lib.hid hJ2
      clear h48 hfin
      go_wp2
      go_round
      case rel => exact ⟨j + 1, hl, by go_num, by have := hJ2.out; omega⟩
      case measure => simp [intOf]; omega
     ·rw [runL_none (by simp [nou, h48])] at hJ2
      obtain rfl : j = J := by simpa using hJ2
      have e48 : ((s[j].toNat : Int) == 48) = false := byte_ne (n := 48) (by decide) h48
      have hjK : j ≤ K := by omega
      have hD2 := hD.out
      clear hJ2 h48
      rcases hfin with ⟨he, ho⟩ | ⟨he, hn, ho⟩ | ⟨he, hn, ho⟩
      ·replace ho := Lib.hid ho
       go_wp2_with fail
       refine (HP.out _).mono ?_
       rintro _ w1 ⟨rfl, hb⟩
       obtain ⟨z0, z1, z2, z3, z4, z5⟩ := tokz (by go_grown) hb
       obtain ⟨hc, hf⟩ := bcell hb
       have hz := hb.size
       simp only [World.size_alloc] at hc hf hz
       go_wp2
       refine bodyPost_ret (v := .tuple #[tokV 4 0 0 0 { data := #[] }, .int .i64 0, .int .i64 14]) (by simp [results, Tryz.results41, go_sem, z0, z1, z2, z3, z4]) rfl ?_
       have hb' := (by go_grown : Below w.heap.size w _).trans (hb.mono (by simp; omega))
       exact retN_bad ho.out (by decide) (by go_grown)
      ·replace ho := Lib.hid ho
       go_wp2_with fail
       refine (HP.out _).mono ?_
       rintro _ w1 ⟨rfl, hb⟩
       obtain ⟨z0, z1, z2, z3, z4, z5⟩ := tokz (by go_grown) hb
       obtain ⟨hc, hf⟩ := bcell hb
       have hz := hb.size
       simp only [World.size_alloc] at hc hf hz
       go_wp2
       refine bodyPost_ret (v := .tuple #[tokV 4 0 0 0 { data := #[] }, .int .i64 0, .int .i64 14]) (by simp [results, Tryz.results41, go_sem, z0, z1, z2, z3, z4]) rfl ?_
       have hb' := (by go_grown : Below w.heap.size w _).trans (hb.mono (by simp; omega))
       exact retN_bad ho.out (by decide) (by go_grown)
      ·replace ho := Lib.hid ho
       go_wp2_with fail
       refine (HP.out _).mono ?_
       rintro _ w1 ⟨rfl, hb⟩
       obtain ⟨z0, z1, z2, z3, z4, z5⟩ := tokz (by go_grown) hb
       obtain ⟨hc, hf⟩ := bcell hb
       have hz := hb.size
       simp only [World.size_alloc] at hc hf hz
       go_wp2
       refine bodyPost_ret (v := .tuple #[tokV 4 0 0 n { data := #[] }, .int .i64 (E : Nat), .int .i64 0]) (by simp [results, Tryz.results41, go_sem, z0, z1, z2, z3, z4]) rfl ?_
       have hb' := (by go_grown : Below w.heap.size w _).trans (hb.mono (by simp; omega))
       exact retN_ok ho.out (by omega) (by go_grown)
  ·rw [drop_end s k (by omega)] at hk2
   have hlt2 : ¬ (k : Int) < s.size := by omega
   obtain rfl : K = k := by simpa [runL] using hk2.symm
   exact absurd hKs hlt

set_option maxHeartbeats 4000000 in
set_option maxRecDepth 100000 in
theorem rnum_n (s D : ByteArray) (w : World) (hs : s.size ≤ 100000) (i K E J : Nat) (n e : Int) (o : One) (hi : i < K) (hK : K ≤ s.size) (hE : E = K)
  (hKr : Hid (i + runL dgt (s.data.toList.drop i) = K)) (HI : Hid (∀ w, Calls Tryz.prog 39 #[.string s, .int .i64 (K : Nat)] w fun e w' => e = .returned (.int .i64 (E : Nat)) ∧ w = w'))
  (hJ : Hid (i + runL nou ((s.data.toList.take K).drop i).dropLast = J)) (hD : Hid (s.extract J K = D))
  (HP : Hid (∀ w, Calls Tryz.prog 55 #[.string D] w fun x w' => x = .returned (.tuple #[.int .i64 n, .int .i64 e]) ∧ Below w.heap.size w w'))
  (hfin : ((e != 0) = true ∧ o = bad 14) ∨ ((e != 0) = false ∧ 9223372036854775807 < n ∧ o = bad 14) ∨ ((e != 0) = false ∧ ¬ 9223372036854775807 < n ∧ o = ⟨0, K - i, 3, n, []⟩)) :
  Calls Tryz.prog 41 #[.string s, .int .i64 (i : Nat)] w (r_RetN i o w) := by
 subst hE
 have hE2 : ((E : Int) == (E : Int) + 1) = false := by rw [beq_eq_false_iff_ne]; omega
 have hE3 : ((E : Int) != (E : Int)) = false := by simp
 go_enter Tryz.func41, Tryz.ntmps41
 go_wp2
 go_loop [7] (fun v => ∃ k : Nat, k ≤ s.size ∧ v = .int .i64 (k : Nat) ∧ k + runL dgt (s.data.toList.drop k) = E) (fun v => s.size - (intOf v).toNat)
 case atStart => exact ⟨i, by omega, rfl, hKr.out⟩
 case round =>
  clear hKr
  obtain ⟨k, hk, rfl, hk2⟩ := hrel
  by_cases hlt : k < s.size
  ·rw [drop_cons s k hlt] at hk2
   have HK := Lib.hid (fun w => rkind_any s[k] w)
   obtain ⟨m, hm⟩ : ∃ m, kdN s[k] = m := ⟨_, rfl⟩
   have h3 := kd3 s[k]
   rw [hm] at HK h3
   cases hp : dgt s[k] with
   | true =>
    have hm3 : ((m : Int) == 3) = true := by rw [beq_iff_eq]; have := h3.2 hp; omega
    rw [runL_cons hp] at hk2
    replace hk2 := Lib.hid hk2
    clear hp h3 hm hfin
    go_wp2_with fail
    refine (HK.out _).mono ?_
    rintro _ w' ⟨rfl, rfl⟩
    go_wp2
    go_round
    case rel => exact ⟨k + 1, hlt, by go_num, by have := hk2.out; omega⟩
    case measure => simp [intOf]; omega
   | false =>
    have hm3 : ((m : Int) == 3) = false := by rw [beq_eq_false_iff_ne]; intro h; have := h3.1 (by omega); rw [hp] at this; cases this
    rw [runL_none hp] at hk2
    obtain rfl : E = k := by simpa using hk2.symm
    clear hp h3 hm hk2
    go_wp2_with fail
    refine (HK.out _).mono ?_
    rintro _ w' ⟨rfl, rfl⟩
    go_wp2_with fail
    refine (HI.out _).mono ?_
    rintro _ w' ⟨rfl, rfl⟩
    go_wp2
    go_loop [1] (fun v => ∃ j : Nat, j < E ∧ v = .int .i64 (j : Nat) ∧ j + runL nou ((s.data.toList.take E).drop j).dropLast = J) (fun v => E - (intOf v).toNat)
    case atStart => exact ⟨i, hi, rfl, hJ.out⟩
    case round =>
     obtain ⟨j, hj, rfl, hJ2⟩ := hrel
     have hjs : j < s.size := by omega
     clear hJ
     rw [drop_take_cons s E j hj hK] at hJ2
     by_cases hl : j + 1 < E
     case neg =>
      rw [List.drop_of_length_le (by rw [List.length_take, size_list]; omega)] at hJ2
      obtain rfl : j = J := by simpa [runL] using hJ2
      have hl2 : ¬ (j : Int) < (E : Int) - 1 := by omega
      have hjK : j ≤ E := by omega
      have hD2 := hD.out
      clear hJ2 hl
      rcases hfin with ⟨he, ho⟩ | ⟨he, hn, ho⟩ | ⟨he, hn, ho⟩
      ·replace ho := Lib.hid ho
       go_wp2_with fail
       refine (HP.out _).mono ?_
       rintro _ w1 ⟨rfl, hb⟩
       obtain ⟨z0, z1, z2, z3, z4, z5⟩ := tokz (by go_grown) hb
       obtain ⟨hc, hf⟩ := bcell hb
       have hz := hb.size
       simp only [World.size_alloc] at hc hf hz
       go_wp2
       refine bodyPost_ret (v := .tuple #[tokV 3 0 0 0 { data := #[] }, .int .i64 0, .int .i64 14]) (by simp [results, Tryz.results41, go_sem, z0, z1, z2, z3, z4]) rfl ?_
       have hb' := (by go_grown : Below w.heap.size w _).trans (hb.mono (by simp; omega))
       exact retN_bad ho.out (by decide) (by go_grown)
      ·replace ho := Lib.hid ho
       go_wp2_with fail
       refine (HP.out _).mono ?_
       rintro _ w1 ⟨rfl, hb⟩
       obtain ⟨z0, z1, z2, z3, z4, z5⟩ := tokz (by go_grown) hb
       obtain ⟨hc, hf⟩ := bcell hb
       have hz := hb.size
       simp only [World.size_alloc] at hc hf hz
       go_wp2
       refine bodyPost_ret (v := .tuple #[tokV 3 0 0 0 { data := #[] }, .int .i64 0, .int .i64 14]) (by simp [results, Tryz.results41, go_sem, z0, z1, z2, z3, z4]) rfl ?_
       have hb' := (by go_grown : Below w.heap.size w _).trans (hb.mono (by simp; omega))
       exact retN_bad ho.out (by decide) (by go_grown)
      ·replace ho := Lib.hid ho
       go_wp2_with fail
       refine (HP.out _).mono ?_
       rintro _ w1 ⟨rfl, hb⟩
       obtain ⟨z0, z1, z2, z3, z4, z5⟩ := tokz (by go_grown) hb
       obtain ⟨hc, hf⟩ := bcell hb
       have hz := hb.size
       simp only [World.size_alloc] at hc hf hz
       go_wp2
       refine bodyPost_ret (v := .tuple #[tokV 3 0 0 n { data := #[] }, .int .i64 (E : Nat), .int .i64 0]) (by simp [results, Tryz.results41, go_sem, z0, z1, z2, z3, z4]) rfl ?_
       have hb' := (by go_grown : Below w.heap.size w _).trans (hb.mono (by simp; omega))
       exact retN_ok ho.out (by omega) (by go_grown)
     have hl2 : (j : Int) < (E : Int) - 1 := by omega
     rw [drop_take_cons s E (j + 1) hl hK, List.dropLast_cons_cons, ← drop_take_cons s E (j + 1) hl hK] at hJ2
     by_cases h48 : s[j] = 48
     ·rw [runL_cons (by rw [h48]; rfl)] at hJ2
      have e48 : ((s[j].toNat : Int) == 48) = true := by rw [h48]; rfl
      replace hJ2 := Lib.hid hJ2
      clear h48 hfin
      go_wp2
      go_round
      case rel => exact ⟨j + 1, hl, by go_num, by have := hJ2.out; omega⟩
      case measure => simp [intOf]; omega
     ·rw [runL_none (by simp [nou, h48])] at hJ2
      obtain rfl : j = J := by simpa using hJ2
      have e48 : ((s[j].toNat : Int) == 48) = false := byte_ne (n := 48) (by decide) h48
      have hjK : j ≤ E := by omega
      have hD2 := hD.out
      clear hJ2 h48
      rcases hfin with ⟨he, ho⟩ | ⟨he, hn, ho⟩ | ⟨he, hn, ho⟩
      ·replace ho := Lib.hid ho
       go_wp2_with fail
       refine (HP.out _).mono ?_
       rintro _ w1 ⟨rfl, hb⟩
       obtain ⟨z0, z1, z2, z3, z4, z5⟩ := tokz (by go_grown) hb
       obtain ⟨hc, hf⟩ := bcell hb
       have hz := hb.size
       simp only [World.size_alloc] at hc hf hz
       go_wp2
       refine bodyPost_ret (v := .tuple #[tokV 3 0 0 0 { data := #[] }, .int .i64 0, .int .i64 14]) (by simp [results, Tryz.results41, go_sem, z0, z1, z2, z3, z4]) rfl ?_
       have hb' := (by go_grown : Below w.heap.size w _).trans (hb.mono (by simp; omega))
       exact retN_bad ho.out (by decide) (by go_grown)
      ·replace ho := Lib.hid ho
       go_wp2_with fail
       refine (HP.out _).mono ?_
       rintro _ w1 ⟨rfl, hb⟩
       obtain ⟨z0, z1, z2, z3, z4, z5⟩ := tokz (by go_grown) hb
       obtain ⟨hc, hf⟩ := bcell hb
       have hz := hb.size
       simp only [World.size_alloc] at hc hf hz
       go_wp2
       refine bodyPost_ret (v := .tuple #[tokV 3 0 0 0 { data := #[] }, .int .i64 0, .int .i64 14]) (by simp [results, Tryz.results41, go_sem, z0, z1, z2, z3, z4]) rfl ?_
       have hb' := (by go_grown : Below w.heap.size w _).trans (hb.mono (by simp; omega))
       exact retN_bad ho.out (by decide) (by go_grown)
      ·replace ho := Lib.hid ho
       go_wp2_with fail
       refine (HP.out _).mono ?_
       rintro _ w1 ⟨rfl, hb⟩
       obtain ⟨z0, z1, z2, z3, z4, z5⟩ := tokz (by go_grown) hb
       obtain ⟨hc, hf⟩ := bcell hb
       have hz := hb.size
       simp only [World.size_alloc] at hc hf hz
       go_wp2
       refine bodyPost_ret (v := .tuple #[tokV 3 0 0 n { data := #[] }, .int .i64 (E : Nat), .int .i64 0]) (by simp [results, Tryz.results41, go_sem, z0, z1, z2, z3, z4]) rfl ?_
       have hb' := (by go_grown : Below w.heap.size w _).trans (hb.mono (by simp; omega))
       exact retN_ok ho.out (by omega) (by go_grown)
  ·rw [drop_end s k (by omega)] at hk2
   have hlt2 : ¬ (k : Int) < s.size := by omega
   obtain rfl : E = k := by simpa [runL] using hk2.symm
   clear hk2
   go_wp2_with fail
   refine (HI.out _).mono ?_
   rintro _ w' ⟨rfl, rfl⟩
   go_wp2
   go_loop [1] (fun v => ∃ j : Nat, j < E ∧ v = .int .i64 (j : Nat) ∧ j + runL nou ((s.data.toList.take E).drop j).dropLast = J) (fun v => E - (intOf v).toNat)
   case atStart => exact ⟨i, hi, rfl, hJ.out⟩
   case round =>
    obtain ⟨j, hj, rfl, hJ2⟩ := hrel
    have hjs : j < s.size := by omega
    clear hJ
    rw [drop_take_cons s E j hj hK] at hJ2
    by_cases hl : j + 1 < E
    case neg =>
     rw [List.drop_of_length_le (by rw [List.length_take, size_list]; omega)] at hJ2
     obtain rfl : j = J := by simpa [runL] using hJ2
     have hl2 : ¬ (j : Int) < (E : Int) - 1 := by omega
     have hjK : j ≤ E := by omega
     have hD2 := hD.out
     clear hJ2 hl
     rcases hfin with ⟨he, ho⟩ | ⟨he, hn, ho⟩ | ⟨he, hn, ho⟩
     ·replace ho := Lib.hid ho
      go_wp2_with fail
      refine (HP.out _).mono ?_
      rintro _ w1 ⟨rfl, hb⟩
      obtain ⟨z0, z1, z2, z3, z4, z5⟩ := tokz (by go_grown) hb
      obtain ⟨hc, hf⟩ := bcell hb
      have hz := hb.size
      simp only [World.size_alloc] at hc hf hz
      go_wp2
      refine bodyPost_ret (v := .tuple #[tokV 3 0 0 0 { data := #[] }, .int .i64 0, .int .i64 14]) (by simp [results, Tryz.results41, go_sem, z0, z1, z2, z3, z4]) rfl ?_
      have hb' := (by go_grown : Below w.heap.size w _).trans (hb.mono (by simp; omega))
      exact retN_bad ho.out (by decide) (by go_grown)
     ·replace ho := Lib.hid ho
      go_wp2_with fail
      refine (HP.out _).mono ?_
      rintro _ w1 ⟨rfl, hb⟩
      obtain ⟨z0, z1, z2, z3, z4, z5⟩ := tokz (by go_grown) hb
      obtain ⟨hc, hf⟩ := bcell hb
      have hz := hb.size
      simp only [World.size_alloc] at hc hf hz
      go_wp2
      refine bodyPost_ret (v := .tuple #[tokV 3 0 0 0 { data := #[] }, .int .i64 0, .int .i64 14]) (by simp [results, Tryz.results41, go_sem, z0, z1, z2, z3, z4]) rfl ?_
      have hb' := (by go_grown : Below w.heap.size w _).trans (hb.mono (by simp; omega))
      exact retN_bad ho.out (by decide) (by go_grown)
     ·replace ho := Lib.hid ho
      go_wp2_with fail
      refine (HP.out _).mono ?_
      rintro _ w1 ⟨rfl, hb⟩
      obtain ⟨z0, z1, z2, z3, z4, z5⟩ := tokz (by go_grown) hb
      obtain ⟨hc, hf⟩ := bcell hb
      have hz := hb.size
      simp only [World.size_alloc] at hc hf hz
      go_wp2
      refine bodyPost_ret (v := .tuple #[tokV 3 0 0 n { data := #[] }, .int .i64 (E : Nat), .int .i64 0]) (by simp [results, Tryz.results41, go_sem, z0, z1, z2, z3, z4]) rfl ?_
      have hb' := (by go_grown : Below w.heap.size w _).trans (hb.mono (by simp; omega))
      exact retN_ok ho.out (by omega) (by go_grown)
    have hl2 : (j : Int) < (E : Int) - 1 := by omega
    rw [drop_take_cons s E (j + 1) hl hK, List.dropLast_cons_cons, ← drop_take_cons s E (j + 1) hl hK] at hJ2
    by_cases h48 : s[j] = 48
    ·rw [runL_cons (by rw [h48]; rfl)] at hJ2
     have e48 : ((s[j].toNat : Int) == 48) = true := by rw [h48]; rfl
     replace hJ2 := Lib.hid hJ2
     clear h48 hfin
     go_wp2
     go_round
     case rel => exact ⟨j + 1, hl, by go_num, by have := hJ2.out; omega⟩
     case measure => simp [intOf]; omega
    ·rw [runL_none (by simp [nou, h48])] at hJ2
     obtain rfl : j = J := by simpa using hJ2
     have e48 : ((s[j].toNat : Int) == 48) = false := byte_ne (n := 48) (by decide) h48
     have hjK : j ≤ E := by omega
     have hD2 := hD.out
     clear hJ2 h48
     rcases hfin with ⟨he, ho⟩ | ⟨he, hn, ho⟩ | ⟨he, hn, ho⟩
     ·replace ho := Lib.hid ho
      go_wp2_with fail
      refine (HP.out _).mono ?_
      rintro _ w1 ⟨rfl, hb⟩
      obtain ⟨z0, z1, z2, z3, z4, z5⟩ := tokz (by go_grown) hb
      obtain ⟨hc, hf⟩ := bcell hb
      have hz := hb.size
      simp only [World.size_alloc] at hc hf hz
      go_wp2
      refine bodyPost_ret (v := .tuple #[tokV 3 0 0 0 { data := #[] }, .int .i64 0, .int .i64 14]) (by simp [results, Tryz.results41, go_sem, z0, z1, z2, z3, z4]) rfl ?_
      have hb' := (by go_grown : Below w.heap.size w _).trans (hb.mono (by simp; omega))
      exact retN_bad ho.out (by decide) (by go_grown)
     ·replace ho := Lib.hid ho
      go_wp2_with fail
      refine (HP.out _).mono ?_
      rintro _ w1 ⟨rfl, hb⟩
      obtain ⟨z0, z1, z2, z3, z4, z5⟩ := tokz (by go_grown) hb
      obtain ⟨hc, hf⟩ := bcell hb
      have hz := hb.size
      simp only [World.size_alloc] at hc hf hz
      go_wp2
      refine bodyPost_ret (v := .tuple #[tokV 3 0 0 0 { data := #[] }, .int .i64 0, .int .i64 14]) (by simp [results, Tryz.results41, go_sem, z0, z1, z2, z3, z4]) rfl ?_
      have hb' := (by go_grown : Below w.heap.size w _).trans (hb.mono (by simp; omega))
      exact retN_bad ho.out (by decide) (by go_grown)
     ·replace ho := Lib.hid ho
      go_wp2_with fail
      refine (HP.out _).mono ?_
      rintro _ w1 ⟨rfl, hb⟩
      obtain ⟨z0, z1, z2, z3, z4, z5⟩ := tokz (by go_grown) hb
      obtain ⟨hc, hf⟩ := bcell hb
      have hz := hb.size
      simp only [World.size_alloc] at hc hf hz
      go_wp2
      refine bodyPost_ret (v := .tuple #[tokV 3 0 0 n { data := #[] }, .int .i64 (E : Nat), .int .i64 0]) (by simp [results, Tryz.results41, go_sem, z0, z1, z2, z3, z4]) rfl ?_
      have hb' := (by go_grown : Below w.heap.size w _).trans (hb.mono (by simp; omega))
      exact retN_ok ho.out (by omega) (by go_grown)
end
end Go.Proofs.YtbknflaooemigaaGreat

namespace Go.Proofs.YtbknflaooemigaaGreat
section
open Go.RowKit Go.Sort
set_option linter.unusedVariables false

set_option maxHeartbeats 2000000 in
set_option maxRecDepth 100000 in
theorem rnum_bad (s : ByteArray) (w : World) (hs : s.size ≤ 100000) (i K E : Nat) (o : One) (hi : i < K) (hK : K < s.size) (b1 b2 : Bool) (hE : ((E : Int) == (K : Int) + 1) = b1) (hE3 : ((E : Int) != (K : Int)) = true)
  (e105 : ((s[K].toNat : Int) == 105) = b2) (hb : (b1 && b2) = false)
  (hKr : Hid (i + runL dgt (s.data.toList.drop i) = K)) (HI : Hid (∀ w, Calls Tryz.prog 39 #[.string s, .int .i64 (K : Nat)] w fun e w' => e = .returned (.int .i64 (E : Nat)) ∧ w = w')) (ho : Hid (o = bad 4)) :
  Calls Tryz.prog 41 #[.string s, .int .i64 (i : Nat)] w (r_RetN i o w) := by
 go_enter Tryz.func41, Tryz.ntmps41
 go_wp2
 go_loop [7] (fun v => ∃ k : Nat, k ≤ s.size ∧ v = .int .i64 (k : Nat) ∧ k + runL dgt (s.data.toList.drop k) = K) (fun v => s.size - (intOf v).toNat)
 case atStart => exact ⟨i, by omega, rfl, hKr.out⟩
 case round =>
  clear hKr
  obtain ⟨k, hk, rfl, hk2⟩ := hrel
  by_cases hlt : k < s.size
  ·rw [drop_cons s k hlt] at hk2
   have HK := Lib.hid (fun w => rkind_any s[k] w)
   obtain ⟨m, hm⟩ : ∃ m, kdN s[k] = m := ⟨_, rfl⟩
   have h3 := kd3 s[k]
   rw [hm] at HK h3
   cases hp : dgt s[k] with
   | true =>
    have hm3 : ((m : Int) == 3) = true := by rw [beq_iff_eq]; have := h3.2 hp; omega
    rw [runL_cons hp] at hk2
    replace hk2 := Lib.hid hk2
    clear hp h3 hm hb hE hE3 e105
    go_wp2_with fail
    refine (HK.out _).mono ?_
    rintro _ w' ⟨rfl, rfl⟩
    go_wp2
    go_round
    case rel => exact ⟨k + 1, hlt, by go_num, by have := hk2.out; omega⟩
    case measure => simp [intOf]; omega
   | false =>
    have hm3 : ((m : Int) == 3) = false := by rw [beq_eq_false_iff_ne]; intro h; have := h3.1 (by omega); rw [hp] at this; cases this
    rw [runL_none hp] at hk2
    obtain rfl : K = k := by simpa using hk2.symm
    clear hp h3 hm hk2
    cases b1 with
    | false =>
     clear hb e105
     go_wp2_with fail
     refine (HK.out _).mono ?_
     rintro _ w' ⟨rfl, rfl⟩
     go_wp2_with fail
     refine (HI.out _).mono ?_
     rintro _ w' ⟨rfl, rfl⟩
     go_wp2
     refine bodyPost_ret (v := .tuple #[tokV 3 0 0 0 { data := #[] }, .int .i64 0, .int .i64 4]) (by simp [results, Tryz.results41, go_sem]) rfl ?_
     exact retN_bad ho.out (by decide) (by go_grown)
    | true =>
     obtain rfl : b2 = false := by simpa using hb
     clear hb
     go_wp2_with fail
     refine (HK.out _).mono ?_
     rintro _ w' ⟨rfl, rfl⟩
     go_wp2_with fail
     refine (HI.out _).mono ?_
     rintro _ w' ⟨rfl, rfl⟩
     go_wp2
     refine bodyPost_ret (v := .tuple #[tokV 3 0 0 0 { data := #[] }, .int .i64 0, .int .i64 4]) (by simp [results, Tryz.results41, go_sem]) rfl ?_
     exact retN_bad ho.out (by decide) (by go_grown)
  ·rw [drop_end s k (by omega)] at hk2
   obtain rfl : K = k := by simpa [runL] using hk2.symm
   exact absurd hK hlt

theorem rnum_any (s : ByteArray) (w : World) (hs : s.size ≤ 100000) (i : Nat) (hi : i < s.size) (hd : dgt s[i] = true) :
  Calls Tryz.prog 41 #[.string s, .int .i64 (i : Nat)] w (r_RetN i (numOne (s.data.toList.drop i)) w) := by
 obtain ⟨K, hK⟩ : ∃ K, i + runL dgt (s.data.toList.drop i) = K := ⟨_, rfl⟩
 have hk : runL dgt (s.data.toList.drop i) = K - i := by omega
 have hK1 : i < K := by
  have := runL_pos (p := dgt) (l := s.data.toList.drop i) (by rw [drop_cons s i hi]; exact hd) (by rw [drop_cons s i hi]; simp)
  omega
 have hK2 : K ≤ s.size := by
  have := runL_le dgt (s.data.toList.drop i)
  rw [List.length_drop, size_list] at this; omega
 have hdk : (s.data.toList.drop i).drop (K - i) = s.data.toList.drop K := by rw [List.drop_drop]; congr 1; omega
 obtain ⟨E, hE⟩ : ∃ E, K + runL nam (s.data.toList.drop K) = E := ⟨_, rfl⟩
 have HI := Lib.hid (fun w => inner_any s K hK2 (by omega) E (Lib.hid hE) w)
 have htk : (s.data.toList.take K).drop i = (s.data.toList.drop i).take (K - i) := by rw [List.drop_take]
 obtain ⟨J, hJ⟩ : ∃ J, i + runL nou ((s.data.toList.take K).drop i).dropLast = J := ⟨_, rfl⟩
 obtain ⟨D, hD⟩ : ∃ D, s.extract J K = D := ⟨_, rfl⟩
 have hDl : D.data.toList = numD (s.data.toList.drop i) := by
  rw [← hD, ext_list, numD, hk, ← htk, trim, List.drop_drop, hJ, List.drop_take]
 have hDs : D.size ≤ 100000 := by rw [← size_list, ← hD, ext_list, List.length_take, List.length_drop, size_list]; omega
 have HP := Lib.hid (fun w => Nm.rparse_any D w hDs)
 rw [hDl] at HP
 obtain ⟨e, he⟩ : ∃ e, Nm.parseE (numD (s.data.toList.drop i)) = e := ⟨_, rfl⟩
 obtain ⟨n, hn⟩ : ∃ n, Nm.parseN (numD (s.data.toList.drop i)) = n := ⟨_, rfl⟩
 rw [he, hn] at HP
 have hC : isC (s.data.toList.drop i) = decide ((s.data.toList.drop K).head? = some 105) := by rw [isC, hk, hdk]
 unfold numOne
 rw [he, hn]
 have b1 : ¬ e = 0 → (e != 0) = true := fun h => by simpa using h
 have b2 : e = 0 → (e != 0) = false := fun h => by simpa using h
 cases hc : isC (s.data.toList.drop i) with
 | true =>
  have hc2 := hc
  rw [hC, decide_eq_true_eq] at hc2
  have hKs : K < s.size := by
   by_cases hlt : K < s.size
   ·exact hlt
   ·rw [drop_end s K (by omega)] at hc2; simp at hc2
  have hb : s[K] = 105 := by rw [head_drop s K hKs] at hc2; simpa using hc2
  have e105 : ((s[K].toNat : Int) == 105) = true := by rw [hb]; rfl
  have hnk : numK (s.data.toList.drop i) = K + 1 - i := by rw [numK, if_pos hc, hk]; omega
  have hdd : (s.data.toList.drop i).drop (K + 1 - i) = s.data.toList.drop (K + 1) := by rw [List.drop_drop]; congr 1; omega
  have hE2 : E = K + 1 + runL nam (s.data.toList.drop (K + 1)) := by
   rw [← hE, drop_cons s K hKs, runL_cons (by rw [hb]; rfl)]; omega
  have hM : numM (s.data.toList.drop i) = 8388607 := by rw [numM, if_pos hc]
  rw [hM, hnk, hdd, if_pos rfl]
  by_cases hr : 0 < runL nam (s.data.toList.drop (K + 1))
  ·rw [if_pos hr]
   exact rnum_bad s w hs i K E _ hK1 hKs false true (by rw [beq_eq_false_iff_ne]; omega) (by rw [bne_iff_ne]; omega) e105 rfl (Lib.hid hK) HI (Lib.hid rfl)
  ·rw [if_neg hr]
   refine rnum_c s D w hs i K E J n e _ hK1 hK2 hKs e105 (by omega) (Lib.hid hK) HI (Lib.hid hJ) (Lib.hid hD) HP ?_
   by_cases he0 : e = 0
   ·by_cases hno : 8388607 < n
    ·exact .inr (.inl ⟨b2 he0, hno, if_pos (.inr hno)⟩)
    ·exact .inr (.inr ⟨b2 he0, hno, if_neg (fun h => h.elim (fun h => h he0) hno)⟩)
   ·exact .inl ⟨b1 he0, if_pos (.inl he0)⟩
 | false =>
  have hc2 := hc
  rw [hC, decide_eq_false_iff_not] at hc2
  have hnk : numK (s.data.toList.drop i) = K - i := by rw [numK, hc, hk]; rfl
  have hM : numM (s.data.toList.drop i) = 9223372036854775807 := by rw [numM, hc]; rfl
  rw [hM, hnk, hdk, if_neg (show ¬ (false = true) by simp)]
  by_cases hr : 0 < runL nam (s.data.toList.drop K)
  ·rw [if_pos hr]
   have hKs : K < s.size := by
    by_cases hlt : K < s.size
    ·exact hlt
    ·rw [drop_end s K (by omega)] at hr; simp [runL] at hr
   have hb : s[K] ≠ 105 := fun h => hc2 (by rw [head_drop s K hKs, h])
   exact rnum_bad s w hs i K E _ hK1 hKs _ false rfl (by rw [bne_iff_ne]; omega) (byte_ne (n := 105) (by decide) hb) (by simp) (Lib.hid hK) HI (Lib.hid rfl)
  ·rw [if_neg hr]
   refine rnum_n s D w hs i K E J n e _ hK1 hK2 (by omega) (Lib.hid hK) HI (Lib.hid hJ) (Lib.hid hD) HP ?_
   by_cases he0 : e = 0
   ·by_cases hno : 9223372036854775807 < n
    ·exact .inr (.inl ⟨b2 he0, hno, if_pos (.inr hno)⟩)
    ·exact .inr (.inr ⟨b2 he0, hno, if_neg (fun h => h.elim (fun h => h he0) hno)⟩)
   ·exact .inl ⟨b1 he0, if_pos (.inl he0)⟩
end
end Go.Proofs.YtbknflaooemigaaGreat
