/-
  Contract of the document's Parse. Conditions: texts of at most 100000 bytes.
-/
import Derived.Test.YtddeiidkmihkkaaNParseD
import Derived.Test.YtddeiidkmihkkaaNDx
import Derived.Test.YtddeiidkmihkkaaNOver
namespace Go.Proofs.Ytddeiidkmihkkaa.Nm
open Go.RowKit

theorem valL_take_le (s : ByteArray) (k : Nat) : valL (s.data.toList.take k) ≤ valL s.data.toList := by
  have := valL_mono (s.data.toList.take k) (s.data.toList.drop k)
  rwa [List.take_append_drop] at this

set_option maxRecDepth 100000 in
set_option maxHeartbeats 1000000 in
theorem rparse_minus (s d : ByteArray) (w : World) (hs : s.size ≤ 100000) (h0 : 0 < s.size) (hm : ((s[0].toNat : Int) == 45) = true) (hd : s.extract 1 s.size = d) (hds : d.size < s.size) (h0d : 0 < d.size) (hz : ((d[0].toNat : Int) == 48) = false)
    (hh : Hid (d.data.toList.headD 0 ≠ 48 ∨ d.data.toList.length ≤ 1))
    (n e : Int) (hn : Hid (n = if d.data.toList.all digB then (if 9223372036854775808 < valL d.data.toList then 0 else -(valL d.data.toList : Int)) else 0))
    (he : Hid (e = if d.data.toList.all digB then (if 9223372036854775808 < valL d.data.toList then 14 else 0) else 2)) :
    Calls Try.prog 34 #[.string s] w fun x w' => x = .returned (.tuple #[.int .i64 n, .int .i64 e]) ∧ Below w.heap.size w w' := by
  have h0' : (0 : Int) < s.size := by omega
  have g1 : ((d.size : Int) == 0) = false := by rw [beq_eq_false_iff_ne]; omega
  have g2 : (0 : Int) < d.size := by omega
  have g3 : (d.size : Int) < s.size := by omega
  go_enter Try.func34, Try.ntmps34
  go_wp2
  go_loop [5] (fun i => ∃ k : Nat, k ≤ d.size ∧ i = .int .i64 k ∧ (d.data.toList.take k).all digB = true) (fun i => d.size - (intOf i).toNat)
  case atStart => exact ⟨0, by omega, rfl, rfl⟩
  case round =>
    obtain ⟨k, hk, rfl, hall⟩ := hrel
    have HA := Lib.hid hall
    clear hall
    by_cases hlt : k < d.size
    · by_cases hbad : d[k].toNat < 48 ∨ 57 < d[k].toNat
      · have hdd : digB d[k] = false := by unfold digB; simp; omega
        have hf := all_split d k hlt hdd
        have hn2 := hn.out
        have he2 := he.out
        rw [hf] at hn2 he2
        simp only [Bool.false_eq_true, if_false] at hn2 he2
        subst hn2; subst he2
        clear hn he hdd hf
        rcases hbad with hlo | hhi
        · have hlo' : (d[k].toNat : Int) < 48 := by omega
          go_wp2
          go_ret2
          exact ⟨rfl, Below.refl _ _⟩
        · have hlo' : ¬ (d[k].toNat : Int) < 48 := by omega
          have hhi' : 57 < (d[k].toNat : Int) := by omega
          go_wp2
          go_ret2
          exact ⟨rfl, Below.refl _ _⟩
      · have hdd : digB d[k] = true := by unfold digB; simp; omega
        have HS := Lib.hid (show (d.data.toList.take (k + 1)).all digB = true by rw [take_snoc d k hlt, List.all_append, HA.out]; simp [hdd])
        clear hdd
        have hlo' : ¬ (d[k].toNat : Int) < 48 := by omega
        have hhi' : ¬ 57 < (d[k].toNat : Int) := by omega
        clear hbad
        go_wp2
        go_round
        case rel => exact ⟨k + 1, by omega, by go_num, HS.out⟩
        case measure => simp [intOf]; omega
    · obtain rfl : k = d.size := by omega
      have hall : d.data.toList.all digB = true := by
        have ha := HA.out
        rwa [List.take_of_length_le (by rw [size_list]; omega)] at ha
      have hov := over19 d.data.toList [57, 50, 50, 51, 51, 55, 50, 48, 51, 54, 56, 53, 52, 55, 55, 53, 56, 48, 56] hall (by decide) rfl hh.out (by decide) (by decide)
      have hval : valL [57, 50, 50, 51, 51, 55, 50, 48, 51, 54, 56, 53, 52, 55, 55, 53, 56, 48, 56] = 9223372036854775808 := by decide
      rw [hval, size_list] at hov
      have hn2 := hn.out
      have he2 := he.out
      rw [hall] at hn2 he2
      simp only [if_true] at hn2 he2
      have HALL := Lib.hid hall
      clear hn he HA hall hval
      by_cases ho : 9223372036854775808 < valL d.data.toList
      · rw [if_pos ho] at hn2 he2
        subst hn2; subst he2
        rw [decide_eq_true ho] at hov
        clear ho
        by_cases c1 : 19 < d.size
        · have c1' : (19 : Int) < d.size := by omega
          clear hov
          go_wp2
          go_ret2
          exact ⟨rfl, Below.refl _ _⟩
        · have c2 : d.size = 19 := by
            by_cases q : d.size = 19
            · exact q
            · rw [decide_eq_false c1, decide_eq_false q] at hov; simp at hov
          rw [decide_eq_false c1, decide_eq_true c2] at hov
          simp only [Bool.false_or, Bool.true_and, Bool.and_eq_true, Bool.not_eq_true'] at hov
          obtain ⟨q1, q2⟩ := hov
          rw [← ByteArray.toList_eq] at q1 q2
          have c1' : ¬ (19 : Int) < d.size := by omega
          have c2' : ((d.size : Int) == 19) = true := by rw [beq_iff_eq]; omega
          have c3' : ¬ d.toList = [57, 50, 50, 51, 51, 55, 50, 48, 51, 54, 56, 53, 52, 55, 55, 53, 56, 48, 56] := by simpa using q2
          clear c2 c1
          go_wp2
          go_ret2
          exact ⟨rfl, Below.refl _ _⟩
      · rw [if_neg ho] at hn2 he2
        subst he2
        rw [decide_eq_false ho] at hov
        have HL := Lib.hid (show valL d.data.toList ≤ 9223372036854775808 by omega)
        have HN := Lib.hid hn2.symm
        clear hn2 ho
        by_cases c2 : d.size = 19
        · rw [decide_eq_true c2, decide_eq_false (show ¬ 19 < d.size by omega)] at hov
          rw [← ByteArray.toList_eq] at hov
          have c1' : ¬ (19 : Int) < d.size := by omega
          have c2' : ((d.size : Int) == 19) = true := by rw [beq_iff_eq]; omega
          simp only [Bool.false_or, Bool.true_and] at hov
          have hcase : Op.bytesLess d.toList [57, 50, 50, 51, 51, 55, 50, 48, 51, 54, 56, 53, 52, 55, 55, 53, 56, 48, 56] = true ∨ (Op.bytesLess d.toList [57, 50, 50, 51, 51, 55, 50, 48, 51, 54, 56, 53, 52, 55, 55, 53, 56, 48, 56] = false ∧ d.toList = [57, 50, 50, 51, 51, 55, 50, 48, 51, 54, 56, 53, 52, 55, 55, 53, 56, 48, 56]) := by
            cases hq : Op.bytesLess d.toList [57, 50, 50, 51, 51, 55, 50, 48, 51, 54, 56, 53, 52, 55, 55, 53, 56, 48, 56]
            · right; rw [hq] at hov; refine ⟨rfl, ?_⟩; simpa using hov
            · left; rfl
          clear hov c2
          rcases hcase with q1 | ⟨q1, q2⟩
          · have q3 : ¬ d.toList = [57, 50, 50, 51, 51, 55, 50, 48, 51, 54, 56, 53, 52, 55, 55, 53, 56, 48, 56] := by intro e; rw [e] at q1; exact absurd q1 (by decide)
            go_wp2
            go_loop [7, 8] (fun q i => ∃ (k : Nat) (vi : Int), k ≤ d.size ∧ i = .int .i64 k ∧ q = .int .u64 vi ∧ vi = (valL (d.data.toList.take k) : Nat)) (fun _ i => d.size - (intOf i).toNat)
            case atStart => exact ⟨0, 0, by omega, rfl, rfl, rfl⟩
            case round =>
              obtain ⟨k, vi, hk, rfl, rfl, hv⟩ := hrel
              have hv0 : 0 ≤ vi := by omega
              have hvM : vi ≤ 9223372036854775808 := by have := valL_take_le d k; have := HL.out; omega
              have HV := Lib.hid hv
              clear hv
              by_cases hlt : k < d.size
              · have hc := all_at d HALL.out k hlt
                have hS2 : ((valL (d.data.toList.take (k + 1)) : Nat) : Int) = vi * 10 + ((d[k].toNat : Int)) - 48 := by
                  rw [take_snoc d k hlt, valL_snoc, HV.out]; omega
                have hvn : vi * 10 + (d[k].toNat : Int) - 48 ≤ 9223372036854775808 := by have := valL_take_le d (k + 1); have := HL.out; omega
                have HS := Lib.hid hS2
                clear hS2
                obtain ⟨c1, c2⟩ := hc
                have c1' : 48 ≤ (d[k].toNat : Int) := by omega
                have c2' : (d[k].toNat : Int) ≤ 57 := by omega
                clear c1 c2
                go_wp2
                go_round
                case rel => exact ⟨k + 1, _, by omega, by go_num, rfl, HS.out.symm⟩
                case measure => simp [intOf]; omega
              · have hvv : vi = (valL d.data.toList : Nat) := by
                  have hv := HV.out
                  rwa [List.take_of_length_le (by rw [size_list]; omega)] at hv
                have G1 := Lib.hid (fun w => of_dx (wrap64 vi) vi w (by rw [hvv]; exact back64 _ HL.out))
                have G2 := Lib.hid (fun w => minus_dx vi _ w (by rw [hvv]; exact in64 _ HL.out) rfl)
                have G3 := Lib.hid (fun w => number_dx _ n w (in64m (18446744073709551616 - vi)) (by rw [← HN.out, ← hvv]; unfold wrap64; omega))
                generalize (18446744073709551616 - vi) % 18446744073709551616 = z at *
                clear hvv
                go_wp2_with fail
                refine (G1.out _).mono ?_
                rintro e w1 ⟨rfl, hb1⟩
                go_wp2_with fail
                refine (G2.out _).mono ?_
                rintro e w2 ⟨rfl, hb2⟩
                go_wp2_with fail
                refine (G3.out _).mono ?_
                rintro e w3 ⟨rfl, hb3⟩
                go_wp2
                go_ret2
                exact ⟨rfl, below_step (below_step hb1 hb2) hb3⟩
          · have q4 : (d.toList == [57, 50, 50, 51, 51, 55, 50, 48, 51, 54, 56, 53, 52, 55, 55, 53, 56, 48, 56]) = true := by simpa using q2
            go_wp2
            go_loop [7, 8] (fun q i => ∃ (k : Nat) (vi : Int), k ≤ d.size ∧ i = .int .i64 k ∧ q = .int .u64 vi ∧ vi = (valL (d.data.toList.take k) : Nat)) (fun _ i => d.size - (intOf i).toNat)
            case atStart => exact ⟨0, 0, by omega, rfl, rfl, rfl⟩
            case round =>
              obtain ⟨k, vi, hk, rfl, rfl, hv⟩ := hrel
              have hv0 : 0 ≤ vi := by omega
              have hvM : vi ≤ 9223372036854775808 := by have := valL_take_le d k; have := HL.out; omega
              have HV := Lib.hid hv
              clear hv
              by_cases hlt : k < d.size
              · have hc := all_at d HALL.out k hlt
                have hS2 : ((valL (d.data.toList.take (k + 1)) : Nat) : Int) = vi * 10 + ((d[k].toNat : Int)) - 48 := by
                  rw [take_snoc d k hlt, valL_snoc, HV.out]; omega
                have hvn : vi * 10 + (d[k].toNat : Int) - 48 ≤ 9223372036854775808 := by have := valL_take_le d (k + 1); have := HL.out; omega
                have HS := Lib.hid hS2
                clear hS2
                obtain ⟨c1, c2⟩ := hc
                have c1' : 48 ≤ (d[k].toNat : Int) := by omega
                have c2' : (d[k].toNat : Int) ≤ 57 := by omega
                clear c1 c2
                go_wp2
                go_round
                case rel => exact ⟨k + 1, _, by omega, by go_num, rfl, HS.out.symm⟩
                case measure => simp [intOf]; omega
              · have hvv : vi = (valL d.data.toList : Nat) := by
                  have hv := HV.out
                  rwa [List.take_of_length_le (by rw [size_list]; omega)] at hv
                have G1 := Lib.hid (fun w => of_dx (wrap64 vi) vi w (by rw [hvv]; exact back64 _ HL.out))
                have G2 := Lib.hid (fun w => minus_dx vi _ w (by rw [hvv]; exact in64 _ HL.out) rfl)
                have G3 := Lib.hid (fun w => number_dx _ n w (in64m (18446744073709551616 - vi)) (by rw [← HN.out, ← hvv]; unfold wrap64; omega))
                generalize (18446744073709551616 - vi) % 18446744073709551616 = z at *
                clear hvv
                go_wp2_with fail
                refine (G1.out _).mono ?_
                rintro e w1 ⟨rfl, hb1⟩
                go_wp2_with fail
                refine (G2.out _).mono ?_
                rintro e w2 ⟨rfl, hb2⟩
                go_wp2_with fail
                refine (G3.out _).mono ?_
                rintro e w3 ⟨rfl, hb3⟩
                go_wp2
                go_ret2
                exact ⟨rfl, below_step (below_step hb1 hb2) hb3⟩
        · have c1' : ¬ (19 : Int) < d.size := by
            intro c; have c' : 19 < d.size := by omega
            rw [decide_eq_true c'] at hov; simp at hov
          have c2' : ((d.size : Int) == 19) = false := by rw [beq_eq_false_iff_ne]; omega
          clear hov c2
          go_wp2
          go_loop [7, 8] (fun q i => ∃ (k : Nat) (vi : Int), k ≤ d.size ∧ i = .int .i64 k ∧ q = .int .u64 vi ∧ vi = (valL (d.data.toList.take k) : Nat)) (fun _ i => d.size - (intOf i).toNat)
          case atStart => exact ⟨0, 0, by omega, rfl, rfl, rfl⟩
          case round =>
            obtain ⟨k, vi, hk, rfl, rfl, hv⟩ := hrel
            have hv0 : 0 ≤ vi := by omega
            have hvM : vi ≤ 9223372036854775808 := by have := valL_take_le d k; have := HL.out; omega
            have HV := Lib.hid hv
            clear hv
            by_cases hlt : k < d.size
            · have hc := all_at d HALL.out k hlt
              have hS2 : ((valL (d.data.toList.take (k + 1)) : Nat) : Int) = vi * 10 + ((d[k].toNat : Int)) - 48 := by
                rw [take_snoc d k hlt, valL_snoc, HV.out]; omega
              have hvn : vi * 10 + (d[k].toNat : Int) - 48 ≤ 9223372036854775808 := by have := valL_take_le d (k + 1); have := HL.out; omega
              have HS := Lib.hid hS2
              clear hS2
              obtain ⟨c1, c2⟩ := hc
              have c1' : 48 ≤ (d[k].toNat : Int) := by omega
              have c2' : (d[k].toNat : Int) ≤ 57 := by omega
              clear c1 c2
              go_wp2
              go_round
              case rel => exact ⟨k + 1, _, by omega, by go_num, rfl, HS.out.symm⟩
              case measure => simp [intOf]; omega
            · have hvv : vi = (valL d.data.toList : Nat) := by
                have hv := HV.out
                rwa [List.take_of_length_le (by rw [size_list]; omega)] at hv
              have G1 := Lib.hid (fun w => of_dx (wrap64 vi) vi w (by rw [hvv]; exact back64 _ HL.out))
              have G2 := Lib.hid (fun w => minus_dx vi _ w (by rw [hvv]; exact in64 _ HL.out) rfl)
              have G3 := Lib.hid (fun w => number_dx _ n w (in64m (18446744073709551616 - vi)) (by rw [← HN.out, ← hvv]; unfold wrap64; omega))
              generalize (18446744073709551616 - vi) % 18446744073709551616 = z at *
              clear hvv
              go_wp2_with fail
              refine (G1.out _).mono ?_
              rintro e w1 ⟨rfl, hb1⟩
              go_wp2_with fail
              refine (G2.out _).mono ?_
              rintro e w2 ⟨rfl, hb2⟩
              go_wp2_with fail
              refine (G3.out _).mono ?_
              rintro e w3 ⟨rfl, hb3⟩
              go_wp2
              go_ret2
              exact ⟨rfl, below_step (below_step hb1 hb2) hb3⟩

set_option maxRecDepth 100000 in
set_option maxHeartbeats 1000000 in
theorem rparse_plainA (s : ByteArray) (w : World) (hs : s.size ≤ 100000) (h0 : 0 < s.size) (hm : ((s[0].toNat : Int) == 45) = false) (hz : ((s[0].toNat : Int) == 48) = false)
    (hh : Hid (s.data.toList.headD 0 ≠ 48 ∨ s.data.toList.length ≤ 1))
    (n e : Int) (hn : Hid (n = if s.data.toList.all digB then (if 9223372036854775807 < valL s.data.toList then 0 else (valL s.data.toList : Int)) else 0))
    (he : Hid (e = if s.data.toList.all digB then (if 9223372036854775807 < valL s.data.toList then 14 else 0) else 2)) :
    Calls Try.prog 34 #[.string s] w fun x w' => x = .returned (.tuple #[.int .i64 n, .int .i64 e]) ∧ Below w.heap.size w w' := by
  have h0' : (0 : Int) < s.size := by omega
  have g1 : ((s.size : Int) == 0) = false := by rw [beq_eq_false_iff_ne]; omega
  go_enter Try.func34, Try.ntmps34
  go_wp2
  go_loop [5] (fun i => ∃ k : Nat, k ≤ s.size ∧ i = .int .i64 k ∧ (s.data.toList.take k).all digB = true) (fun i => s.size - (intOf i).toNat)
  case atStart => exact ⟨0, by omega, rfl, rfl⟩
  case round =>
    obtain ⟨k, hk, rfl, hall⟩ := hrel
    have HA := Lib.hid hall
    clear hall
    by_cases hlt : k < s.size
    · by_cases hbad : s[k].toNat < 48 ∨ 57 < s[k].toNat
      · have hdd : digB s[k] = false := by unfold digB; simp; omega
        have hf := all_split s k hlt hdd
        have hn2 := hn.out
        have he2 := he.out
        rw [hf] at hn2 he2
        simp only [Bool.false_eq_true, if_false] at hn2 he2
        subst hn2; subst he2
        clear hn he hdd hf
        rcases hbad with hlo | hhi
        · have hlo' : (s[k].toNat : Int) < 48 := by omega
          go_wp2
          go_ret2
          exact ⟨rfl, Below.refl _ _⟩
        · have hlo' : ¬ (s[k].toNat : Int) < 48 := by omega
          have hhi' : 57 < (s[k].toNat : Int) := by omega
          go_wp2
          go_ret2
          exact ⟨rfl, Below.refl _ _⟩
      · have hdd : digB s[k] = true := by unfold digB; simp; omega
        have HS := Lib.hid (show (s.data.toList.take (k + 1)).all digB = true by rw [take_snoc s k hlt, List.all_append, HA.out]; simp [hdd])
        clear hdd
        have hlo' : ¬ (s[k].toNat : Int) < 48 := by omega
        have hhi' : ¬ 57 < (s[k].toNat : Int) := by omega
        clear hbad
        go_wp2
        go_round
        case rel => exact ⟨k + 1, by omega, by go_num, HS.out⟩
        case measure => simp [intOf]; omega
    · obtain rfl : k = s.size := by omega
      have hall : s.data.toList.all digB = true := by
        have ha := HA.out
        rwa [List.take_of_length_le (by rw [size_list]; omega)] at ha
      have hov := over19 s.data.toList [57, 50, 50, 51, 51, 55, 50, 48, 51, 54, 56, 53, 52, 55, 55, 53, 56, 48, 55] hall (by decide) rfl hh.out (by decide) (by decide)
      have hval : valL [57, 50, 50, 51, 51, 55, 50, 48, 51, 54, 56, 53, 52, 55, 55, 53, 56, 48, 55] = 9223372036854775807 := by decide
      rw [hval, size_list] at hov
      have hn2 := hn.out
      have he2 := he.out
      rw [hall] at hn2 he2
      simp only [if_true] at hn2 he2
      have HALL := Lib.hid hall
      clear hn he HA hall hval
      by_cases ho : 9223372036854775807 < valL s.data.toList
      · rw [if_pos ho] at hn2 he2
        subst hn2; subst he2
        rw [decide_eq_true ho] at hov
        clear ho
        by_cases c1 : 19 < s.size
        · have c1' : (19 : Int) < s.size := by omega
          clear hov
          go_wp2
          go_ret2
          exact ⟨rfl, Below.refl _ _⟩
        · have c2 : s.size = 19 := by
            by_cases q : s.size = 19
            · exact q
            · rw [decide_eq_false c1, decide_eq_false q] at hov; simp at hov
          rw [decide_eq_false c1, decide_eq_true c2] at hov
          simp only [Bool.false_or, Bool.true_and, Bool.and_eq_true, Bool.not_eq_true'] at hov
          obtain ⟨q1, q2⟩ := hov
          rw [← ByteArray.toList_eq] at q1 q2
          have c1' : ¬ (19 : Int) < s.size := by omega
          have c2' : ((s.size : Int) == 19) = true := by rw [beq_iff_eq]; omega
          have c3' : ¬ s.toList = [57, 50, 50, 51, 51, 55, 50, 48, 51, 54, 56, 53, 52, 55, 55, 53, 56, 48, 55] := by simpa using q2
          clear c2 c1
          go_wp2
          go_ret2
          exact ⟨rfl, Below.refl _ _⟩
      · rw [if_neg ho] at hn2 he2
        subst he2
        rw [decide_eq_false ho] at hov
        have HL := Lib.hid (show valL s.data.toList ≤ 9223372036854775807 by omega)
        have HN := Lib.hid hn2.symm
        clear hn2 ho
        by_cases c2 : s.size = 19
        · rw [decide_eq_true c2, decide_eq_false (show ¬ 19 < s.size by omega)] at hov
          rw [← ByteArray.toList_eq] at hov
          have c1' : ¬ (19 : Int) < s.size := by omega
          have c2' : ((s.size : Int) == 19) = true := by rw [beq_iff_eq]; omega
          simp only [Bool.false_or, Bool.true_and] at hov
          have hcase : Op.bytesLess s.toList [57, 50, 50, 51, 51, 55, 50, 48, 51, 54, 56, 53, 52, 55, 55, 53, 56, 48, 55] = true ∨ (Op.bytesLess s.toList [57, 50, 50, 51, 51, 55, 50, 48, 51, 54, 56, 53, 52, 55, 55, 53, 56, 48, 55] = false ∧ s.toList = [57, 50, 50, 51, 51, 55, 50, 48, 51, 54, 56, 53, 52, 55, 55, 53, 56, 48, 55]) := by
            cases hq : Op.bytesLess s.toList [57, 50, 50, 51, 51, 55, 50, 48, 51, 54, 56, 53, 52, 55, 55, 53, 56, 48, 55]
            · right; rw [hq] at hov; refine ⟨rfl, ?_⟩; simpa using hov
            · left; rfl
          clear hov c2
          rcases hcase with q1 | ⟨q1, q2⟩
          · have q3 : ¬ s.toList = [57, 50, 50, 51, 51, 55, 50, 48, 51, 54, 56, 53, 52, 55, 55, 53, 56, 48, 55] := by intro e; rw [e] at q1; exact absurd q1 (by decide)
            go_wp2
            go_loop [7, 8] (fun q i => ∃ (k : Nat) (vi : Int), k ≤ s.size ∧ i = .int .i64 k ∧ q = .int .u64 vi ∧ vi = (valL (s.data.toList.take k) : Nat)) (fun _ i => s.size - (intOf i).toNat)
            case atStart => exact ⟨0, 0, by omega, rfl, rfl, rfl⟩
            case round =>
              obtain ⟨k, vi, hk, rfl, rfl, hv⟩ := hrel
              have hv0 : 0 ≤ vi := by omega
              have hvM : vi ≤ 9223372036854775807 := by have := valL_take_le s k; have := HL.out; omega
              have HV := Lib.hid hv
              clear hv
              by_cases hlt : k < s.size
              · have hc := all_at s HALL.out k hlt
                have hS2 : ((valL (s.data.toList.take (k + 1)) : Nat) : Int) = vi * 10 + ((s[k].toNat : Int)) - 48 := by
                  rw [take_snoc s k hlt, valL_snoc, HV.out]; omega
                have hvn : vi * 10 + (s[k].toNat : Int) - 48 ≤ 9223372036854775807 := by have := valL_take_le s (k + 1); have := HL.out; omega
                have HS := Lib.hid hS2
                clear hS2
                obtain ⟨c1, c2⟩ := hc
                have c1' : 48 ≤ (s[k].toNat : Int) := by omega
                have c2' : (s[k].toNat : Int) ≤ 57 := by omega
                clear c1 c2
                go_wp2
                go_round
                case rel => exact ⟨k + 1, _, by omega, by go_num, rfl, HS.out.symm⟩
                case measure => simp [intOf]; omega
              · obtain rfl : vi = n := by
                  have hv := HV.out
                  rw [List.take_of_length_le (by rw [size_list]; omega)] at hv
                  rw [hv]; exact HN.out
                go_wp2
                go_ret2
                exact ⟨rfl, Below.refl _ _⟩
          · have q4 : (s.toList == [57, 50, 50, 51, 51, 55, 50, 48, 51, 54, 56, 53, 52, 55, 55, 53, 56, 48, 55]) = true := by simpa using q2
            go_wp2
            go_loop [7, 8] (fun q i => ∃ (k : Nat) (vi : Int), k ≤ s.size ∧ i = .int .i64 k ∧ q = .int .u64 vi ∧ vi = (valL (s.data.toList.take k) : Nat)) (fun _ i => s.size - (intOf i).toNat)
            case atStart => exact ⟨0, 0, by omega, rfl, rfl, rfl⟩
            case round =>
              obtain ⟨k, vi, hk, rfl, rfl, hv⟩ := hrel
              have hv0 : 0 ≤ vi := by omega
              have hvM : vi ≤ 9223372036854775807 := by have := valL_take_le s k; have := HL.out; omega
              have HV := Lib.hid hv
              clear hv
              by_cases hlt : k < s.size
              · have hc := all_at s HALL.out k hlt
                have hS2 : ((valL (s.data.toList.take (k + 1)) : Nat) : Int) = vi * 10 + ((s[k].toNat : Int)) - 48 := by
                  rw [take_snoc s k hlt, valL_snoc, HV.out]; omega
                have hvn : vi * 10 + (s[k].toNat : Int) - 48 ≤ 9223372036854775807 := by have := valL_take_le s (k + 1); have := HL.out; omega
                have HS := Lib.hid hS2
                clear hS2
                obtain ⟨c1, c2⟩ := hc
                have c1' : 48 ≤ (s[k].toNat : Int) := by omega
                have c2' : (s[k].toNat : Int) ≤ 57 := by omega
                clear c1 c2
                go_wp2
                go_round
                case rel => exact ⟨k + 1, _, by omega, by go_num, rfl, HS.out.symm⟩
                case measure => simp [intOf]; omega
              · obtain rfl : vi = n := by
                  have hv := HV.out
                  rw [List.take_of_length_le (by rw [size_list]; omega)] at hv
                  rw [hv]; exact HN.out
                go_wp2
                go_ret2
                exact ⟨rfl, Below.refl _ _⟩
        · have c1' : ¬ (19 : Int) < s.size := by
            intro c; have c' : 19 < s.size := by omega
            rw [decide_eq_true c'] at hov; simp at hov
          have c2' : ((s.size : Int) == 19) = false := by rw [beq_eq_false_iff_ne]; omega
          clear hov c2
          go_wp2
          go_loop [7, 8] (fun q i => ∃ (k : Nat) (vi : Int), k ≤ s.size ∧ i = .int .i64 k ∧ q = .int .u64 vi ∧ vi = (valL (s.data.toList.take k) : Nat)) (fun _ i => s.size - (intOf i).toNat)
          case atStart => exact ⟨0, 0, by omega, rfl, rfl, rfl⟩
          case round =>
            obtain ⟨k, vi, hk, rfl, rfl, hv⟩ := hrel
            have hv0 : 0 ≤ vi := by omega
            have hvM : vi ≤ 9223372036854775807 := by have := valL_take_le s k; have := HL.out; omega
            have HV := Lib.hid hv
            clear hv
            by_cases hlt : k < s.size
            · have hc := all_at s HALL.out k hlt
              have hS2 : ((valL (s.data.toList.take (k + 1)) : Nat) : Int) = vi * 10 + ((s[k].toNat : Int)) - 48 := by
                rw [take_snoc s k hlt, valL_snoc, HV.out]; omega
              have hvn : vi * 10 + (s[k].toNat : Int) - 48 ≤ 9223372036854775807 := by have := valL_take_le s (k + 1); have := HL.out; omega
              have HS := Lib.hid hS2
              clear hS2
              obtain ⟨c1, c2⟩ := hc
              have c1' : 48 ≤ (s[k].toNat : Int) := by omega
              have c2' : (s[k].toNat : Int) ≤ 57 := by omega
              clear c1 c2
              go_wp2
              go_round
              case rel => exact ⟨k + 1, _, by omega, by go_num, rfl, HS.out.symm⟩
              case measure => simp [intOf]; omega
            · obtain rfl : vi = n := by
                have hv := HV.out
                rw [List.take_of_length_le (by rw [size_list]; omega)] at hv
                rw [hv]; exact HN.out
              go_wp2
              go_ret2
              exact ⟨rfl, Below.refl _ _⟩

set_option maxRecDepth 100000 in
set_option maxHeartbeats 1000000 in
theorem rparse_plainB (s : ByteArray) (w : World) (hs : s.size ≤ 100000) (h0 : 0 < s.size) (hm : ((s[0].toNat : Int) == 45) = false) (hz : ((s[0].toNat : Int) == 48) = true) (hone : ¬ 1 < s.size)
    (hh : Hid (s.data.toList.headD 0 ≠ 48 ∨ s.data.toList.length ≤ 1))
    (n e : Int) (hn : Hid (n = if s.data.toList.all digB then (if 9223372036854775807 < valL s.data.toList then 0 else (valL s.data.toList : Int)) else 0))
    (he : Hid (e = if s.data.toList.all digB then (if 9223372036854775807 < valL s.data.toList then 14 else 0) else 2)) :
    Calls Try.prog 34 #[.string s] w fun x w' => x = .returned (.tuple #[.int .i64 n, .int .i64 e]) ∧ Below w.heap.size w w' := by
  have h0' : (0 : Int) < s.size := by omega
  have g1 : ((s.size : Int) == 0) = false := by rw [beq_eq_false_iff_ne]; omega
  have g4 : ¬ (1 : Int) < s.size := by omega
  go_enter Try.func34, Try.ntmps34
  go_wp2
  go_loop [5] (fun i => ∃ k : Nat, k ≤ s.size ∧ i = .int .i64 k ∧ (s.data.toList.take k).all digB = true) (fun i => s.size - (intOf i).toNat)
  case atStart => exact ⟨0, by omega, rfl, rfl⟩
  case round =>
    obtain ⟨k, hk, rfl, hall⟩ := hrel
    have HA := Lib.hid hall
    clear hall
    by_cases hlt : k < s.size
    · by_cases hbad : s[k].toNat < 48 ∨ 57 < s[k].toNat
      · have hdd : digB s[k] = false := by unfold digB; simp; omega
        have hf := all_split s k hlt hdd
        have hn2 := hn.out
        have he2 := he.out
        rw [hf] at hn2 he2
        simp only [Bool.false_eq_true, if_false] at hn2 he2
        subst hn2; subst he2
        clear hn he hdd hf
        rcases hbad with hlo | hhi
        · have hlo' : (s[k].toNat : Int) < 48 := by omega
          go_wp2
          go_ret2
          exact ⟨rfl, Below.refl _ _⟩
        · have hlo' : ¬ (s[k].toNat : Int) < 48 := by omega
          have hhi' : 57 < (s[k].toNat : Int) := by omega
          go_wp2
          go_ret2
          exact ⟨rfl, Below.refl _ _⟩
      · have hdd : digB s[k] = true := by unfold digB; simp; omega
        have HS := Lib.hid (show (s.data.toList.take (k + 1)).all digB = true by rw [take_snoc s k hlt, List.all_append, HA.out]; simp [hdd])
        clear hdd
        have hlo' : ¬ (s[k].toNat : Int) < 48 := by omega
        have hhi' : ¬ 57 < (s[k].toNat : Int) := by omega
        clear hbad
        go_wp2
        go_round
        case rel => exact ⟨k + 1, by omega, by go_num, HS.out⟩
        case measure => simp [intOf]; omega
    · obtain rfl : k = s.size := by omega
      have hall : s.data.toList.all digB = true := by
        have ha := HA.out
        rwa [List.take_of_length_le (by rw [size_list]; omega)] at ha
      have hov := over19 s.data.toList [57, 50, 50, 51, 51, 55, 50, 48, 51, 54, 56, 53, 52, 55, 55, 53, 56, 48, 55] hall (by decide) rfl hh.out (by decide) (by decide)
      have hval : valL [57, 50, 50, 51, 51, 55, 50, 48, 51, 54, 56, 53, 52, 55, 55, 53, 56, 48, 55] = 9223372036854775807 := by decide
      rw [hval, size_list] at hov
      have hn2 := hn.out
      have he2 := he.out
      rw [hall] at hn2 he2
      simp only [if_true] at hn2 he2
      have HALL := Lib.hid hall
      clear hn he HA hall hval
      by_cases ho : 9223372036854775807 < valL s.data.toList
      · rw [if_pos ho] at hn2 he2
        subst hn2; subst he2
        rw [decide_eq_true ho] at hov
        clear ho
        by_cases c1 : 19 < s.size
        · have c1' : (19 : Int) < s.size := by omega
          clear hov
          go_wp2
          go_ret2
          exact ⟨rfl, Below.refl _ _⟩
        · have c2 : s.size = 19 := by
            by_cases q : s.size = 19
            · exact q
            · rw [decide_eq_false c1, decide_eq_false q] at hov; simp at hov
          rw [decide_eq_false c1, decide_eq_true c2] at hov
          simp only [Bool.false_or, Bool.true_and, Bool.and_eq_true, Bool.not_eq_true'] at hov
          obtain ⟨q1, q2⟩ := hov
          rw [← ByteArray.toList_eq] at q1 q2
          have c1' : ¬ (19 : Int) < s.size := by omega
          have c2' : ((s.size : Int) == 19) = true := by rw [beq_iff_eq]; omega
          have c3' : ¬ s.toList = [57, 50, 50, 51, 51, 55, 50, 48, 51, 54, 56, 53, 52, 55, 55, 53, 56, 48, 55] := by simpa using q2
          clear c2 c1
          go_wp2
          go_ret2
          exact ⟨rfl, Below.refl _ _⟩
      · rw [if_neg ho] at hn2 he2
        subst he2
        rw [decide_eq_false ho] at hov
        have HL := Lib.hid (show valL s.data.toList ≤ 9223372036854775807 by omega)
        have HN := Lib.hid hn2.symm
        clear hn2 ho
        by_cases c2 : s.size = 19
        · rw [decide_eq_true c2, decide_eq_false (show ¬ 19 < s.size by omega)] at hov
          rw [← ByteArray.toList_eq] at hov
          have c1' : ¬ (19 : Int) < s.size := by omega
          have c2' : ((s.size : Int) == 19) = true := by rw [beq_iff_eq]; omega
          simp only [Bool.false_or, Bool.true_and] at hov
          have hcase : Op.bytesLess s.toList [57, 50, 50, 51, 51, 55, 50, 48, 51, 54, 56, 53, 52, 55, 55, 53, 56, 48, 55] = true ∨ (Op.bytesLess s.toList [57, 50, 50, 51, 51, 55, 50, 48, 51, 54, 56, 53, 52, 55, 55, 53, 56, 48, 55] = false ∧ s.toList = [57, 50, 50, 51, 51, 55, 50, 48, 51, 54, 56, 53, 52, 55, 55, 53, 56, 48, 55]) := by
            cases hq : Op.bytesLess s.toList [57, 50, 50, 51, 51, 55, 50, 48, 51, 54, 56, 53, 52, 55, 55, 53, 56, 48, 55]
            · right; rw [hq] at hov; refine ⟨rfl, ?_⟩; simpa using hov
            · left; rfl
          clear hov c2
          rcases hcase with q1 | ⟨q1, q2⟩
          · have q3 : ¬ s.toList = [57, 50, 50, 51, 51, 55, 50, 48, 51, 54, 56, 53, 52, 55, 55, 53, 56, 48, 55] := by intro e; rw [e] at q1; exact absurd q1 (by decide)
            go_wp2
            go_loop [7, 8] (fun q i => ∃ (k : Nat) (vi : Int), k ≤ s.size ∧ i = .int .i64 k ∧ q = .int .u64 vi ∧ vi = (valL (s.data.toList.take k) : Nat)) (fun _ i => s.size - (intOf i).toNat)
            case atStart => exact ⟨0, 0, by omega, rfl, rfl, rfl⟩
            case round =>
              obtain ⟨k, vi, hk, rfl, rfl, hv⟩ := hrel
              have hv0 : 0 ≤ vi := by omega
              have hvM : vi ≤ 9223372036854775807 := by have := valL_take_le s k; have := HL.out; omega
              have HV := Lib.hid hv
              clear hv
              by_cases hlt : k < s.size
              · have hc := all_at s HALL.out k hlt
                have hS2 : ((valL (s.data.toList.take (k + 1)) : Nat) : Int) = vi * 10 + ((s[k].toNat : Int)) - 48 := by
                  rw [take_snoc s k hlt, valL_snoc, HV.out]; omega
                have hvn : vi * 10 + (s[k].toNat : Int) - 48 ≤ 9223372036854775807 := by have := valL_take_le s (k + 1); have := HL.out; omega
                have HS := Lib.hid hS2
                clear hS2
                obtain ⟨c1, c2⟩ := hc
                have c1' : 48 ≤ (s[k].toNat : Int) := by omega
                have c2' : (s[k].toNat : Int) ≤ 57 := by omega
                clear c1 c2
                go_wp2
                go_round
                case rel => exact ⟨k + 1, _, by omega, by go_num, rfl, HS.out.symm⟩
                case measure => simp [intOf]; omega
              · obtain rfl : vi = n := by
                  have hv := HV.out
                  rw [List.take_of_length_le (by rw [size_list]; omega)] at hv
                  rw [hv]; exact HN.out
                go_wp2
                go_ret2
                exact ⟨rfl, Below.refl _ _⟩
          · have q4 : (s.toList == [57, 50, 50, 51, 51, 55, 50, 48, 51, 54, 56, 53, 52, 55, 55, 53, 56, 48, 55]) = true := by simpa using q2
            go_wp2
            go_loop [7, 8] (fun q i => ∃ (k : Nat) (vi : Int), k ≤ s.size ∧ i = .int .i64 k ∧ q = .int .u64 vi ∧ vi = (valL (s.data.toList.take k) : Nat)) (fun _ i => s.size - (intOf i).toNat)
            case atStart => exact ⟨0, 0, by omega, rfl, rfl, rfl⟩
            case round =>
              obtain ⟨k, vi, hk, rfl, rfl, hv⟩ := hrel
              have hv0 : 0 ≤ vi := by omega
              have hvM : vi ≤ 9223372036854775807 := by have := valL_take_le s k; have := HL.out; omega
              have HV := Lib.hid hv
              clear hv
              by_cases hlt : k < s.size
              · have hc := all_at s HALL.out k hlt
                have hS2 : ((valL (s.data.toList.take (k + 1)) : Nat) : Int) = vi * 10 + ((s[k].toNat : Int)) - 48 := by
                  rw [take_snoc s k hlt, valL_snoc, HV.out]; omega
                have hvn : vi * 10 + (s[k].toNat : Int) - 48 ≤ 9223372036854775807 := by have := valL_take_le s (k + 1); have := HL.out; omega
                have HS := Lib.hid hS2
                clear hS2
                obtain ⟨c1, c2⟩ := hc
                have c1' : 48 ≤ (s[k].toNat : Int) := by omega
                have c2' : (s[k].toNat : Int) ≤ 57 := by omega
                clear c1 c2
                go_wp2
                go_round
                case rel => exact ⟨k + 1, _, by omega, by go_num, rfl, HS.out.symm⟩
                case measure => simp [intOf]; omega
              · obtain rfl : vi = n := by
                  have hv := HV.out
                  rw [List.take_of_length_le (by rw [size_list]; omega)] at hv
                  rw [hv]; exact HN.out
                go_wp2
                go_ret2
                exact ⟨rfl, Below.refl _ _⟩
        · have c1' : ¬ (19 : Int) < s.size := by
            intro c; have c' : 19 < s.size := by omega
            rw [decide_eq_true c'] at hov; simp at hov
          have c2' : ((s.size : Int) == 19) = false := by rw [beq_eq_false_iff_ne]; omega
          clear hov c2
          go_wp2
          go_loop [7, 8] (fun q i => ∃ (k : Nat) (vi : Int), k ≤ s.size ∧ i = .int .i64 k ∧ q = .int .u64 vi ∧ vi = (valL (s.data.toList.take k) : Nat)) (fun _ i => s.size - (intOf i).toNat)
          case atStart => exact ⟨0, 0, by omega, rfl, rfl, rfl⟩
          case round =>
            obtain ⟨k, vi, hk, rfl, rfl, hv⟩ := hrel
            have hv0 : 0 ≤ vi := by omega
            have hvM : vi ≤ 9223372036854775807 := by have := valL_take_le s k; have := HL.out; omega
            have HV := Lib.hid hv
            clear hv
            by_cases hlt : k < s.size
            · have hc := all_at s HALL.out k hlt
              have hS2 : ((valL (s.data.toList.take (k + 1)) : Nat) : Int) = vi * 10 + ((s[k].toNat : Int)) - 48 := by
                rw [take_snoc s k hlt, valL_snoc, HV.out]; omega
              have hvn : vi * 10 + (s[k].toNat : Int) - 48 ≤ 9223372036854775807 := by have := valL_take_le s (k + 1); have := HL.out; omega
              have HS := Lib.hid hS2
              clear hS2
              obtain ⟨c1, c2⟩ := hc
              have c1' : 48 ≤ (s[k].toNat : Int) := by omega
              have c2' : (s[k].toNat : Int) ≤ 57 := by omega
              clear c1 c2
              go_wp2
              go_round
              case rel => exact ⟨k + 1, _, by omega, by go_num, rfl, HS.out.symm⟩
              case measure => simp [intOf]; omega
            · obtain rfl : vi = n := by
                have hv := HV.out
                rw [List.take_of_length_le (by rw [size_list]; omega)] at hv
                rw [hv]; exact HN.out
              go_wp2
              go_ret2
              exact ⟨rfl, Below.refl _ _⟩

set_option maxHeartbeats 400000 in
theorem rparse_empty (w : World) :
    Calls Try.prog 34 #[.string { data := #[] }] w fun e w' => e = .returned (.tuple #[.int .i64 0, .int .i64 2]) ∧ Below w.heap.size w w' := by
  go_enter Try.func34, Try.ntmps34
  go_wp2
  go_ret2
  exact ⟨rfl, Below.refl _ _⟩

set_option maxHeartbeats 400000 in
theorem rparse_bare (s d : ByteArray) (w : World) (h0 : 0 < s.size) (hm : ((s[0].toNat : Int) == 45) = true) (hd : s.extract 1 s.size = d) (hds : d.size = 0) :
    Calls Try.prog 34 #[.string s] w fun e w' => e = .returned (.tuple #[.int .i64 0, .int .i64 2]) ∧ Below w.heap.size w w' := by
  have h0' : (0 : Int) < s.size := by omega
  have g1 : ((d.size : Int) == 0) = true := by rw [beq_iff_eq]; omega
  go_enter Try.func34, Try.ntmps34
  go_wp2
  go_ret2
  exact ⟨rfl, Below.refl _ _⟩

set_option maxHeartbeats 400000 in
theorem rparse_nought (s d : ByteArray) (w : World) (h0 : 0 < s.size) (hm : ((s[0].toNat : Int) == 45) = true) (hd : s.extract 1 s.size = d) (h1 : 1 < s.size) (h0d : 0 < d.size) (hz : ((d[0].toNat : Int) == 48) = true) :
    Calls Try.prog 34 #[.string s] w fun e w' => e = .returned (.tuple #[.int .i64 0, .int .i64 2]) ∧ Below w.heap.size w w' := by
  have h0' : (0 : Int) < s.size := by omega
  have h1' : (1 : Int) < s.size := by omega
  have g1 : ((d.size : Int) == 0) = false := by rw [beq_eq_false_iff_ne]; omega
  have g2 : (0 : Int) < d.size := by omega
  go_enter Try.func34, Try.ntmps34
  go_wp2
  go_ret2
  exact ⟨rfl, Below.refl _ _⟩

set_option maxHeartbeats 400000 in
theorem rparse_noughts (s : ByteArray) (w : World) (h0 : 0 < s.size) (hm : ((s[0].toNat : Int) == 45) = false) (h1 : 1 < s.size) (hz : ((s[0].toNat : Int) == 48) = true) :
    Calls Try.prog 34 #[.string s] w fun e w' => e = .returned (.tuple #[.int .i64 0, .int .i64 2]) ∧ Below w.heap.size w w' := by
  have h0' : (0 : Int) < s.size := by omega
  have h1' : (1 : Int) < s.size := by omega
  have g1 : ((s.size : Int) == 0) = false := by rw [beq_eq_false_iff_ne]; omega
  go_enter Try.func34, Try.ntmps34
  go_wp2
  go_ret2
  exact ⟨rfl, Below.refl _ _⟩

theorem head48 (s : ByteArray) (h0 : 0 < s.size) : (s.data.toList.headD 0 == 48) = ((s[0].toNat : Int) == 48) := by
  rw [head_list s h0, Bool.eq_iff_iff]
  simp only [beq_iff_eq]
  constructor
  · intro e; rw [e]; rfl
  · intro e; exact UInt8.toNat_inj.1 (by have : (48 : UInt8).toNat = 48 := rfl; omega)

theorem rparse_any (s : ByteArray) (w : World) (hs : s.size ≤ 100000) :
    Calls Try.prog 34 #[.string s] w fun x w' => x = .returned (.tuple #[.int .i64 (parseN s.data.toList), .int .i64 (parseE s.data.toList)]) ∧ Below w.heap.size w w' := by
  by_cases h0 : 0 < s.size
  · by_cases hm : ((s[0].toNat : Int) == 45) = true
    · have hn := neg_true s h0 hm
      have hsz := extract_size s
      have hls := extract_list s
      have hb : body s.data.toList = (s.extract 1 s.size).data.toList := by unfold body; rw [hn, hls]; rfl
      have hgood : good s.data.toList = (isDec (s.extract 1 s.size).data.toList && !((s.extract 1 s.size).data.toList == [48])) := by
        unfold good; rw [hn, hb]; rfl
      have hM : mostOf (negB s.data.toList) = 9223372036854775808 := by rw [hn]; rfl
      obtain ⟨d, hd⟩ : ∃ d, s.extract 1 s.size = d := ⟨_, rfl⟩
      rw [hd] at hsz hls hb hgood
      by_cases hd0 : d.size = 0
      · have e : d = { data := #[] } := empty_of d (by omega)
        have hg : good s.data.toList = false := by rw [hgood, e]; rfl
        unfold parseN parseE
        rw [hg]
        exact rparse_bare s d w h0 hm hd hd0
      · have h0d : 0 < d.size := by omega
        by_cases hz : ((d[0].toNat : Int) == 48) = true
        · have hg : good s.data.toList = false := by
            rw [hgood]
            have h48 := head48 d h0d
            rw [hz] at h48
            by_cases h1 : 1 < d.size
            · unfold isDec; rw [h48, size_list, decide_eq_true h1]; simp
            · have : d.data.toList = [48] := by
                have hl : d.data.toList.length = 1 := by rw [size_list]; omega
                cases hx : d.data.toList with
                | nil => rw [hx] at hl; simp at hl
                | cons c x =>
                  rw [hx] at hl h48
                  have hx0 : x = [] := List.length_eq_zero_iff.1 (by simpa using hl)
                  subst hx0
                  have : c = 48 := by simpa using h48
                  rw [this]
              rw [this]; simp
          unfold parseN parseE
          rw [hg]
          exact rparse_nought s d w h0 hm hd (by omega) h0d hz
        · have hz2 : ((d[0].toNat : Int) == 48) = false := by simpa using hz
          have h48 := head48 d h0d
          rw [hz2] at h48
          have hdec : isDec d.data.toList = d.data.toList.all digB := by unfold isDec; rw [h48, empty_list d h0d]; simp
          have hne : (d.data.toList == [48]) = false := by
            rw [beq_eq_false_iff_ne]; intro e; rw [e] at h48; exact absurd h48 (by decide)
          have hg : good s.data.toList = d.data.toList.all digB := by rw [hgood, hdec, hne]; simp
          refine rparse_minus s d w hs h0 hm hd (by omega) h0d hz2 (Or.inl (by simpa using h48)) _ _ ?_ ?_
          · show _ = _
            unfold parseN; rw [hg, hM, hn, hb]; rfl
          · show _ = _
            unfold parseE; rw [hg, hM, hb]
    · have hm2 : ((s[0].toNat : Int) == 45) = false := by simpa using hm
      have hn := neg_false s h0 hm2
      have hb : body s.data.toList = s.data.toList := by unfold body; rw [hn]; rfl
      have hgood : good s.data.toList = isDec s.data.toList := by unfold good; rw [hn, hb]; simp
      have hM : mostOf (negB s.data.toList) = 9223372036854775807 := by rw [hn]; rfl
      have h48 := head48 s h0
      by_cases hz : ((s[0].toNat : Int) == 48) = true
      · rw [hz] at h48
        by_cases h1 : 1 < s.size
        · have hg : good s.data.toList = false := by
            rw [hgood]; unfold isDec; rw [h48, size_list, decide_eq_true h1]; simp
          unfold parseN parseE
          rw [hg]
          exact rparse_noughts s w h0 hm2 h1 hz
        · have hdec : isDec s.data.toList = s.data.toList.all digB := by unfold isDec; rw [size_list, decide_eq_false h1, empty_list s h0]; simp
          refine rparse_plainB s w hs h0 hm2 hz h1 (Or.inr (by rw [size_list]; omega)) _ _ ?_ ?_
          · show _ = _
            unfold parseN; rw [hgood, hdec, hM, hn, hb]; rfl
          · show _ = _
            unfold parseE; rw [hgood, hdec, hM, hb]
      · have hz2 : ((s[0].toNat : Int) == 48) = false := by simpa using hz
        rw [hz2] at h48
        have hdec : isDec s.data.toList = s.data.toList.all digB := by unfold isDec; rw [h48, empty_list s h0]; simp
        refine rparse_plainA s w hs h0 hm2 hz2 (Or.inl (by simpa using h48)) _ _ ?_ ?_
        · show _ = _
          unfold parseN; rw [hgood, hdec, hM, hn, hb]; rfl
        · show _ = _
          unfold parseE; rw [hgood, hdec, hM, hb]
  · have e := empty_of s h0
    subst e
    exact rparse_empty w

end Go.Proofs.Ytddeiidkmihkkaa.Nm
