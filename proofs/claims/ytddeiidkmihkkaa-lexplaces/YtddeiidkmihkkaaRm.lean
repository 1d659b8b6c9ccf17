/-
  Contract of the document's number, for every text. Conditions: texts of at most 100000 bytes, a digit at the place.
-/
import Derived.Test.YtddeiidkmihkkaaRn
namespace Go.Proofs.Ytddeiidkmihkkaa
open Go.RowKit Go.Sort
set_option linter.unusedVariables false

set_option maxHeartbeats 2000000 in
set_option maxRecDepth 100000 in
theorem rnum_bad (s : ByteArray) (w : World) (hs : s.size ≤ 100000) (i K E : Nat) (o : One) (hi : i < K) (hK : K < s.size) (b1 b2 : Bool) (hE : ((E : Int) == (K : Int) + 1) = b1) (hE3 : ((E : Int) != (K : Int)) = true)
    (e105 : ((s[K].toNat : Int) == 105) = b2) (hb : (b1 && b2) = false)
    (hKr : Hid (i + runL dgt (s.data.toList.drop i) = K)) (HI : Hid (∀ w, Calls Try.prog 22 #[.string s, .int .i64 (K : Nat)] w fun e w' => e = .returned (.int .i64 (E : Nat)) ∧ w = w')) (ho : Hid (o = bad 4)) :
    Calls Try.prog 23 #[.string s, .int .i64 (i : Nat)] w (RetN i o w) := by
  go_enter Try.func23, Try.ntmps23
  go_wp2
  go_loop [7] (fun v => ∃ k : Nat, k ≤ s.size ∧ v = .int .i64 (k : Nat) ∧ k + runL dgt (s.data.toList.drop k) = K) (fun v => s.size - (intOf v).toNat)
  case atStart => exact ⟨i, by omega, rfl, hKr.out⟩
  case round =>
    clear hKr
    obtain ⟨k, hk, rfl, hk2⟩ := hrel
    by_cases hlt : k < s.size
    · rw [drop_cons s k hlt] at hk2
      have HK := Lib.hid (fun w => kind_any s[k] w)
      obtain ⟨m, hm⟩ : ∃ m, kdN s[k] = m := ⟨_, rfl⟩
      have h3 := kd3 s[k]
      rw [hm] at HK h3
      cases hp : dgt s[k] with
      | true =>
        have hm3 : ((m : Int) == 3) = true := by rw [beq_iff_eq]; have := h3.2 hp; omega
        rw [runL_cons hp] at hk2
        replace hk2 := Lib.hid hk2
        clear hp h3 hm hb hE hE3 e105
        go_wp2_with fail
        refine (HK.out _).mono ?_
        rintro _ w' ⟨rfl, rfl⟩
        go_wp2
        go_round
        case rel => exact ⟨k + 1, hlt, by go_num, by have := hk2.out; omega⟩
        case measure => simp [intOf]; omega
      | false =>
        have hm3 : ((m : Int) == 3) = false := by rw [beq_eq_false_iff_ne]; intro h; have := h3.1 (by omega); rw [hp] at this; cases this
        rw [runL_none hp] at hk2
        obtain rfl : K = k := by simpa using hk2.symm
        clear hp h3 hm hk2
        cases b1 with
        | false =>
          clear hb e105
          go_wp2_with fail
          refine (HK.out _).mono ?_
          rintro _ w' ⟨rfl, rfl⟩
          go_wp2_with fail
          refine (HI.out _).mono ?_
          rintro _ w' ⟨rfl, rfl⟩
          go_wp2
          refine bodyPost_ret (v := .tuple #[tokV 3 0 0 0 { data := #[] }, .int .i64 0, .int .i64 4]) (by simp [results, Try.results23, go_sem]) rfl ?_
          exact retN_bad ho.out (by decide) (by go_grown)
        | true =>
          obtain rfl : b2 = false := by simpa using hb
          clear hb
          go_wp2_with fail
          refine (HK.out _).mono ?_
          rintro _ w' ⟨rfl, rfl⟩
          go_wp2_with fail
          refine (HI.out _).mono ?_
          rintro _ w' ⟨rfl, rfl⟩
          go_wp2
          refine bodyPost_ret (v := .tuple #[tokV 3 0 0 0 { data := #[] }, .int .i64 0, .int .i64 4]) (by simp [results, Try.results23, go_sem]) rfl ?_
          exact retN_bad ho.out (by decide) (by go_grown)
    · rw [drop_end s k (by omega)] at hk2
      obtain rfl : K = k := by simpa [runL] using hk2.symm
      exact absurd hK hlt

theorem rnum_any (s : ByteArray) (w : World) (hs : s.size ≤ 100000) (i : Nat) (hi : i < s.size) (hd : dgt s[i] = true) :
    Calls Try.prog 23 #[.string s, .int .i64 (i : Nat)] w (RetN i (numOne (s.data.toList.drop i)) w) := by
  obtain ⟨K, hK⟩ : ∃ K, i + runL dgt (s.data.toList.drop i) = K := ⟨_, rfl⟩
  have hk : runL dgt (s.data.toList.drop i) = K - i := by omega
  have hK1 : i < K := by
    have := runL_pos (p := dgt) (l := s.data.toList.drop i) (by rw [drop_cons s i hi]; exact hd) (by rw [drop_cons s i hi]; simp)
    omega
  have hK2 : K ≤ s.size := by
    have := runL_le dgt (s.data.toList.drop i)
    rw [List.length_drop, size_list] at this; omega
  have hdk : (s.data.toList.drop i).drop (K - i) = s.data.toList.drop K := by rw [List.drop_drop]; congr 1; omega
  obtain ⟨E, hE⟩ : ∃ E, K + runL nam (s.data.toList.drop K) = E := ⟨_, rfl⟩
  have HI := Lib.hid (fun w => inner_any s K hK2 (by omega) E (Lib.hid hE) w)
  have htk : (s.data.toList.take K).drop i = (s.data.toList.drop i).take (K - i) := by rw [List.drop_take]
  obtain ⟨J, hJ⟩ : ∃ J, i + runL nou ((s.data.toList.take K).drop i).dropLast = J := ⟨_, rfl⟩
  obtain ⟨D, hD⟩ : ∃ D, s.extract J K = D := ⟨_, rfl⟩
  have hDl : D.data.toList = numD (s.data.toList.drop i) := by
    rw [← hD, ext_list, numD, hk, ← htk, trim, List.drop_drop, hJ, List.drop_take]
  have hDs : D.size ≤ 100000 := by rw [← size_list, ← hD, ext_list, List.length_take, List.length_drop, size_list]; omega
  have HP := Lib.hid (fun w => Nm.rparse_any D w hDs)
  rw [hDl] at HP
  obtain ⟨e, he⟩ : ∃ e, Nm.parseE (numD (s.data.toList.drop i)) = e := ⟨_, rfl⟩
  obtain ⟨n, hn⟩ : ∃ n, Nm.parseN (numD (s.data.toList.drop i)) = n := ⟨_, rfl⟩
  rw [he, hn] at HP
  have hC : isC (s.data.toList.drop i) = decide ((s.data.toList.drop K).head? = some 105) := by rw [isC, hk, hdk]
  unfold numOne
  rw [he, hn]
  have b1 : ¬ e = 0 → (e != 0) = true := fun h => by simpa using h
  have b2 : e = 0 → (e != 0) = false := fun h => by simpa using h
  cases hc : isC (s.data.toList.drop i) with
  | true =>
    have hc2 := hc
    rw [hC, decide_eq_true_eq] at hc2
    have hKs : K < s.size := by
      by_cases hlt : K < s.size
      · exact hlt
      · rw [drop_end s K (by omega)] at hc2; simp at hc2
    have hb : s[K] = 105 := by rw [head_drop s K hKs] at hc2; simpa using hc2
    have e105 : ((s[K].toNat : Int) == 105) = true := by rw [hb]; rfl
    have hnk : numK (s.data.toList.drop i) = K + 1 - i := by rw [numK, if_pos hc, hk]; omega
    have hdd : (s.data.toList.drop i).drop (K + 1 - i) = s.data.toList.drop (K + 1) := by rw [List.drop_drop]; congr 1; omega
    have hE2 : E = K + 1 + runL nam (s.data.toList.drop (K + 1)) := by
      rw [← hE, drop_cons s K hKs, runL_cons (by rw [hb]; rfl)]; omega
    have hM : numM (s.data.toList.drop i) = 8388607 := by rw [numM, if_pos hc]
    rw [hM, hnk, hdd, if_pos rfl]
    by_cases hr : 0 < runL nam (s.data.toList.drop (K + 1))
    · rw [if_pos hr]
      exact rnum_bad s w hs i K E _ hK1 hKs false true (by rw [beq_eq_false_iff_ne]; omega) (by rw [bne_iff_ne]; omega) e105 rfl (Lib.hid hK) HI (Lib.hid rfl)
    · rw [if_neg hr]
      refine rnum_c s D w hs i K E J n e _ hK1 hK2 hKs e105 (by omega) (Lib.hid hK) HI (Lib.hid hJ) (Lib.hid hD) HP ?_
      by_cases he0 : e = 0
      · by_cases hno : 8388607 < n
        · exact .inr (.inl ⟨b2 he0, hno, if_pos (.inr hno)⟩)
        · exact .inr (.inr ⟨b2 he0, hno, if_neg (fun h => h.elim (fun h => h he0) hno)⟩)
      · exact .inl ⟨b1 he0, if_pos (.inl he0)⟩
  | false =>
    have hc2 := hc
    rw [hC, decide_eq_false_iff_not] at hc2
    have hnk : numK (s.data.toList.drop i) = K - i := by rw [numK, hc, hk]; rfl
    have hM : numM (s.data.toList.drop i) = 9223372036854775807 := by rw [numM, hc]; rfl
    rw [hM, hnk, hdk, if_neg (show ¬ (false = true) by simp)]
    by_cases hr : 0 < runL nam (s.data.toList.drop K)
    · rw [if_pos hr]
      have hKs : K < s.size := by
        by_cases hlt : K < s.size
        · exact hlt
        · rw [drop_end s K (by omega)] at hr; simp [runL] at hr
      have hb : s[K] ≠ 105 := fun h => hc2 (by rw [head_drop s K hKs, h])
      exact rnum_bad s w hs i K E _ hK1 hKs _ false rfl (by rw [bne_iff_ne]; omega) (byte_ne (n := 105) (by decide) hb) (by simp) (Lib.hid hK) HI (Lib.hid rfl)
    · rw [if_neg hr]
      refine rnum_n s D w hs i K E J n e _ hK1 hK2 (by omega) (Lib.hid hK) HI (Lib.hid hJ) (Lib.hid hD) HP ?_
      by_cases he0 : e = 0
      · by_cases hno : 9223372036854775807 < n
        · exact .inr (.inl ⟨b2 he0, hno, if_pos (.inr hno)⟩)
        · exact .inr (.inr ⟨b2 he0, hno, if_neg (fun h => h.elim (fun h => h he0) hno)⟩)
      · exact .inl ⟨b1 he0, if_pos (.inl he0)⟩

end Go.Proofs.Ytddeiidkmihkkaa
