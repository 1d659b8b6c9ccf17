/-
  The walk of LexPlaces out of its callees' contracts. Conditions: those contracts.
-/
import Derived.Test.YtddeiidkmihkkaaLw0
import Derived.Test.YtddeiidkmihkkaaLoc
namespace Go.Proofs.Ytddeiidkmihkkaa
open Go.RowKit Go.Sort
set_option linter.unusedVariables false

theorem rone_ok (s : ByteArray) (hs : s.size ≤ 100000) (i : Nat) (hi : i < s.size) (o : One) (ho : one (s.data.toList.drop i) = o) (he : o.err = 0) (w : World) :
    Calls Try.prog 13 #[.string s, .int .i64 (i : Nat)] w fun e w' => e = .returned (.tuple #[tokV o.kind 0 0 o.num (bs o.text), .int .i64 ((i + o.size : Nat) : Nat), .int .i64 0]) ∧ Below w.heap.size w w' := by
  refine (rone_any s w hs i hi).mono ?_
  rw [ho]
  rintro e w' ⟨k, rfl, hk, hb⟩
  rw [hk he, if_pos he, he]
  exact ⟨rfl, hb⟩

set_option maxHeartbeats 400000 in
theorem places_long (s : ByteArray) (w : World) (h : (2000 : Int) < s.size) (H0 : Hid AwakeC) : Calls Try.prog 6 #[.string s] w fun e w' => e = .returned (.bool true) ∧ Below w.heap.size w w' := by
  go_enter Try.func6, Try.ntmps6
  go_wp2_with fail
  refine (H0.out _).mono ?_
  rintro e w1 ⟨rfl, hb⟩
  go_wp2
  go_ret
  exact ⟨rfl, hb⟩

set_option maxHeartbeats 1000000 in
set_option maxRecDepth 100000 in
theorem places_bad (s : ByteArray) (w : World) (h : ¬ (2000 : Int) < s.size) (a b c : Int) (ha : (a != 0) = true) (H0 : Hid AwakeC)
    (H9 : Hid (∀ w, Calls Try.prog 9 #[.string s] w (RetP w [] a b c))) : Calls Try.prog 6 #[.string s] w fun e w' => e = .returned (.bool true) ∧ Below w.heap.size w w' := by
  go_enter Try.func6, Try.ntmps6
  go_wp2_with fail
  refine (H9.out _).mono ?_
  rintro _ w1 ⟨v1, rfl, ho1, hb1⟩
  obtain ⟨a1, cap, rfl, hc⟩ := ownT_form ho1
  replace hb1 := Lib.hid hb1
  clear hc ho1 H9
  go_wp2_with fail
  refine (H0.out _).mono ?_
  rintro e w5 ⟨rfl, hb5⟩
  have hb6 := Lib.hid (below_step (below_step hb1.out (below_alloc _ _)) hb5)
  go_wp2
  go_ret
  exact ⟨rfl, hb6.out⟩

/-- The next token, and where it stands. -/
theorem loc_next {s : ByteArray} {p i : Nat} {L : List Tok} (h : Loc s.data.toList p (L.drop i)) : ∃ (t : Tok) (o : Nat), L[i]? = some t ∧ i < L.length ∧ p ≤ o ∧ o ≤ s.size ∧ plc 1 1 (s.data.toList.take o) = (t.line, t.col) ∧
    ((o = s.size ∧ t.kind = 8 ∧ i + 1 = L.length) ∨ (o < s.size ∧ t.kind ≠ 8 ∧ i + 1 < L.length ∧ (one (s.data.toList.drop o)).err = 0 ∧ (one (s.data.toList.drop o)).kind = t.kind ∧ (one (s.data.toList.drop o)).num = t.num ∧ (one (s.data.toList.drop o)).text = t.text ∧ Loc s.data.toList (o + 1) (L.drop (i + 1)))) := by
  have hget : ∀ t ts, L.drop i = t :: ts → L[i]? = some t ∧ i < L.length ∧ ts = L.drop (i + 1) := by
    intro t ts hd
    have hlt : i < L.length := by
      have := congrArg List.length hd
      simp at this; omega
    rw [List.drop_eq_getElem_cons hlt] at hd
    injection hd with h1 h2
    exact ⟨by rw [List.getElem?_eq_getElem hlt, h1], hlt, h2.symm⟩
  generalize hd : L.drop i = D at h
  cases h with
  | @fin _ t hp h hk =>
    obtain ⟨h1, h2, h3⟩ := hget _ _ hd
    rw [size_list] at hp
    refine ⟨t, s.size, h1, h2, hp, Nat.le_refl _, by rw [List.take_of_length_le (by rw [size_list]; exact Nat.le_refl _)]; exact h, .inl ⟨rfl, hk, ?_⟩⟩
    have := congrArg List.length h3
    simp at this; omega
  | @tok _ o t ts hp ho h he h1 h2 h3 hk r =>
    obtain ⟨g1, g2, g3⟩ := hget _ _ hd
    rw [size_list] at ho
    refine ⟨t, o, g1, g2, hp, by omega, h, .inr ⟨ho, hk, ?_, he, h1, h2, h3, g3 ▸ r⟩⟩
    cases r with
    | fin => have := congrArg List.length g3; simp at this; omega
    | tok => have := congrArg List.length g3; simp at this; omega

set_option maxHeartbeats 8000000 in
set_option maxRecDepth 100000 in
theorem places_core (s : ByteArray) (w : World) (h : ¬ (2000 : Int) < s.size) (L : List Tok) (n : Nat) (hn : n ≤ 100000000) (hL : Hid (L.length = n)) (hloc : Hid (Loc s.data.toList 0 L)) (H0 : Hid AwakeC)
    (H9 : Hid (∀ w, Calls Try.prog 9 #[.string s] w (RetP w L 0 0 0))) : Calls Try.prog 6 #[.string s] w fun e w' => e = .returned (.bool true) ∧ Below w.heap.size w w' := by
  have hn0 : 0 < n := by
    obtain ⟨t, o, h1, h2, _⟩ := loc_next (i := 0) (L := L) (p := 0) hloc.out
    have := hL.out; omega
  go_enter Try.func6, Try.ntmps6
  go_wp2_with fail
  refine (H9.out _).mono ?_
  rintro _ w1 ⟨v1, rfl, ho1, hb1⟩
  obtain ⟨a1, cap, rfl, hc⟩ := ownT_form ho1
  obtain ⟨g, rfl, hg⟩ := hc (by rw [hL.out]; exact hn0)
  rw [hL.out]
  have hn00 : ((n : Int) == 0) = false := by rw [beq_eq_false_iff_ne]; omega
  obtain ⟨W, hW⟩ : ∃ W, W = w1.alloc (FauO 0 0 0) := ⟨_, rfl⟩
  have hgW := Lib.hid (show ∀ j u, (rowT L)[j]? = some u → W.cell? ⟨g, j, none⟩ = some u from fun j u hj => by rw [hW]; exact cell_alloc (hg j u hj) _)
  have hbW := Lib.hid (show Below w.heap.size w W by rw [hW]; exact below_step hb1 (below_alloc _ _))
  have hf0 : W.cell? ⟨w1.heap.size, 0, none⟩ = some (.int .i64 0) := by rw [hW]; simp [go_sem]
  clear ho1 hb1 hc hg H9
  go_wp2
  rw [← hW]
  clear hW
  go_loopw [5, 6, 7, 8] (fun a b c d wr => ∃ (p x y i : Nat), a = .int .i64 (p : Nat) ∧ b = .int .i64 (x : Nat) ∧ c = .int .i64 (y : Nat) ∧ d = .int .i64 (i : Nat) ∧ p ≤ s.size ∧ plc 1 1 (s.data.toList.take p) = (x, y) ∧ Loc s.data.toList p (L.drop i) ∧ Below W.heap.size W wr) (fun _ _ _ d _ => n - (intOf d).toNat)
  case atStart => exact ⟨0, 1, 1, 0, rfl, rfl, rfl, rfl, Nat.zero_le _, rfl, hloc.out, Below.refl _ _⟩
  case round =>
    clear hloc hf0
    obtain ⟨p0, x0, y0, i, rfl, rfl, rfl, rfl, hp0, hpl0, hl, hbr⟩ := hrel
    obtain ⟨t, o, ht, hi, hpo, hos, hplo, hcase⟩ := loc_next hl
    rw [hL.out] at hi hcase
    obtain ⟨k0, k1, k2, k3, k4⟩ := tok_cells (fun j u hj => cell_carry hbr (hgW.out j u hj)) ht
    obtain ⟨kd, ln, cl, nm, tx⟩ := t
    simp only at k0 k1 k2 k3 k4 hplo hcase
    have hin : (i : Int) < n := by omega
    have hbo := plc_bnd s.data.toList o (by rw [size_list]; exact hos) hplo
    have hb2 := Lib.hid (below_step hbW.out hbr)
    replace hbr := Lib.hid hbr
    have hst := Lib.hid (show ∃ (p x y : Nat), p ≤ o ∧ plc 1 1 (s.data.toList.take p) = (x, y) ∧ p = p0 ∧ x = x0 ∧ y = y0 from ⟨p0, x0, y0, hpo, hpl0, rfl, rfl, rfl⟩)
    clear hl ht hpl0 hpo
    replace hplo := Lib.hid hplo
    replace hcase := Lib.hid hcase
    go_wp2_with fail
    go_loop [5, 6, 7] (fun a b c => ∃ (p x y : Nat), a = .int .i64 (p : Nat) ∧ b = .int .i64 (x : Nat) ∧ c = .int .i64 (y : Nat) ∧ p ≤ o ∧ plc 1 1 (s.data.toList.take p) = (x, y)) (fun a _ _ => o - (intOf a).toNat)
    case atStart =>
      obtain ⟨p, x, y, h1, h2, rfl, rfl, rfl⟩ := hst.out
      exact ⟨p, x, y, rfl, rfl, rfl, h1, h2⟩
    case round =>
      clear hst
      obtain ⟨p, x, y, rfl, rfl, rfl, hpo, hpl⟩ := hrel
      by_cases hlt : p < o
      · have hps : p < s.size := by omega
        have hps2 : (p : Int) < s.size := by omega
        have hlx := plc_lt s.data.toList p o hlt (by rw [size_list]; exact hos) hpl hplo.out
        have hbp := plc_bnd s.data.toList p (by rw [size_list]; omega) hpl
        have hnx := plc_next s.data.toList p (by rw [size_list]; exact hps) hpl
        have hsp : s.data.toList[p]'(by rw [size_list]; exact hps) = s[p] := rfl
        rw [hsp] at hnx
        obtain ⟨hx1, hy1⟩ := hbp
        clear hpl hsp
        rcases hlx with hlx | ⟨rfl, hlx⟩
        · have hx2 : (x : Int) < ln := by omega
          by_cases h10 : s[p] = 10
          · rw [if_pos h10] at hnx
            have e10 : ((s[p].toNat : Int) == 10) = true := by rw [h10]; rfl
            replace hnx := Lib.hid hnx
            clear h10
            go_wp2
            go_round
            case rel => exact ⟨p + 1, x + 1, 1, by go_num, by go_num, rfl, hlt, hnx.out⟩
            case measure => simp [intOf]; omega
          · rw [if_neg h10] at hnx
            have e10 : ((s[p].toNat : Int) == 10) = false := byte_ne (n := 10) (by decide) h10
            replace hnx := Lib.hid hnx
            clear h10
            go_wp2
            go_round
            case rel => exact ⟨p + 1, x, y + 1, by go_num, rfl, by go_num, hlt, hnx.out⟩
            case measure => simp [intOf]; omega
        · have hx2 : ¬ (x : Int) < x := by omega
          have hx3 : ((x : Int) == x) = true := by simp
          have hy2 : (y : Int) < cl := by omega
          by_cases h10 : s[p] = 10
          · rw [if_pos h10] at hnx
            have e10 : ((s[p].toNat : Int) == 10) = true := by rw [h10]; rfl
            replace hnx := Lib.hid hnx
            clear h10
            go_wp2
            go_round
            case rel => exact ⟨p + 1, x + 1, 1, by go_num, by go_num, rfl, hlt, hnx.out⟩
            case measure => simp [intOf]; omega
          · rw [if_neg h10] at hnx
            have e10 : ((s[p].toNat : Int) == 10) = false := byte_ne (n := 10) (by decide) h10
            replace hnx := Lib.hid hnx
            clear h10
            go_wp2
            go_round
            case rel => exact ⟨p + 1, x, y + 1, by go_num, rfl, by go_num, hlt, hnx.out⟩
            case measure => simp [intOf]; omega
      · obtain rfl : p = o := by omega
        have hxy := hpl
        rw [hplo.out, Prod.mk.injEq] at hxy
        obtain ⟨rfl, rfl⟩ := hxy
        have hx2 : ¬ (ln : Int) < ln := by omega
        have hx3 : ((ln : Int) == ln) = true := by simp
        have hx4 : ((ln : Int) != ln) = false := by simp
        have hy2 : ¬ (cl : Int) < cl := by omega
        have hy4 : ((cl : Int) != cl) = false := by simp
        clear hlt hpo
        rcases hcase.out with ⟨c1, c2, c3⟩ | ⟨c1, c2, c3, c4, c5, c6, c7, c8⟩
        · have hps : ¬ (p : Int) < s.size := by omega
          have hps2 : ((p : Int) == (s.size : Int)) = true := by rw [beq_iff_eq]; omega
          have hie : ((i : Int) == (n : Int) - 1) = true := by rw [beq_iff_eq]; omega
          subst c2
          clear hcase hplo hpl
          go_wp2_with fail
          refine (H0.out _).mono ?_
          rintro e w5 ⟨rfl, hb5⟩
          have hb6 := Lib.hid (below_step hb2.out hb5)
          go_wp2
          go_ret
          exact ⟨rfl, hb6.out⟩
        · have hps : (p : Int) < s.size := by omega
          have hie : ((i : Int) == (n : Int) - 1) = false := by rw [beq_eq_false_iff_ne]; omega
          have hk8 : ((kd : Int) == 8) = false := by rw [beq_eq_false_iff_ne]; omega
          have HO := Lib.hid (fun w => rone_ok s (by omega) p c1 _ rfl c4 w)
          rw [c5, c6, c7] at HO
          obtain ⟨en, hen⟩ : ∃ en, p + (one (s.data.toList.drop p)).size = en := ⟨_, rfl⟩
          rw [hen] at HO
          replace c8 := Lib.hid (c8.weak (Nat.le_succ p))
          replace hpl := Lib.hid hpl
          have e1 : ((kd : Int) != kd) = false := by simp
          have e2 : (nm != nm) = false := by simp
          have e3 : ((bs tx).toList != (bs tx).toList) = false := by simp
          clear hcase hplo c2 c4 c5 c6 c7 hen
          go_wp2_with fail
          refine (HO.out _).mono ?_
          rintro _ w5 ⟨rfl, hb5⟩
          have q0 := fun O => cell_alloc (cell_carry hb5 k0) O
          have q3 := fun O => cell_alloc (cell_carry hb5 k3) O
          have q4 := fun O => cell_alloc (cell_carry hb5 k4) O
          have hb6 := Lib.hid (below_step hbr.out hb5)
          clear HO hb5 k0 k1 k2 k3 k4
          generalize bs tx = X at q4 e3 ⊢
          go_wp2_with fail
          go_quiet (fail)
          have hb7 := Lib.hid (fun O => below_step (below_step hb6.out (below_alloc w5 O)) (below_drewN (w5.alloc O) nq))
          go_wp2
          go_roundw
          case rel => exact ⟨p, ln, cl, i + 1, rfl, rfl, rfl, by go_num, by omega, hpl.out, c8.out, hb7.out _⟩
          case measure => simp [intOf]; omega

theorem toks_code : ∀ n (l : List UInt8), l.length ≤ n → ∀ a b f, toks l a b = .error f → f.1 ≠ 0 := by
  intro n
  induction n with
  | zero =>
    intro l hl a b f h
    obtain rfl : l = [] := List.eq_nil_of_length_eq_zero (by omega)
    rw [toks_nil] at h; simp at h
  | succ n ih =>
    intro l hl a b f h
    cases l with
    | nil => rw [toks_nil] at h; simp at h
    | cons c t =>
      simp only [List.length_cons] at hl
      by_cases hg : isGap c
      · rcases hg with rfl | rfl | rfl | rfl | rfl
        · rw [toks_lf] at h; exact ih t (by omega) _ _ _ h
        · rw [toks_blank _ _ _ _ (.inl rfl)] at h; exact ih t (by omega) _ _ _ h
        · rw [toks_blank _ _ _ _ (.inr (.inl rfl))] at h; exact ih t (by omega) _ _ _ h
        · rw [toks_blank _ _ _ _ (.inr (.inr rfl))] at h; exact ih t (by omega) _ _ _ h
        · rw [toks_note] at h
          exact ih _ (by simp; omega) _ _ _ h
      · by_cases he : (one (c :: t)).err = 0
        · have hk := one_ok (c :: t) (by simp) he
          rw [toks_tok _ _ _ _ hg he] at h
          cases hx : toks ((c :: t).drop (one (c :: t)).size) a (b + (one (c :: t)).size) with
          | ok l => rw [hx] at h; simp [Except.map] at h
          | error g =>
            rw [hx] at h
            simp [Except.map] at h
            subst h
            exact ih _ (by simp at hk ⊢; omega) _ _ _ hx
        · rw [toks_bad _ _ _ _ hg he] at h
          simp at h
          rw [← h]; exact he

theorem toks_len : ∀ n (l : List UInt8), l.length ≤ n → ∀ a b, (tokR (toks l a b)).length ≤ l.length + 1 := by
  intro n
  induction n with
  | zero =>
    intro l hl a b
    obtain rfl : l = [] := List.eq_nil_of_length_eq_zero (by omega)
    rw [toks_nil]; simp [tokR]
  | succ n ih =>
    intro l hl a b
    cases l with
    | nil => rw [toks_nil]; simp [tokR]
    | cons c t =>
      simp only [List.length_cons] at hl ⊢
      by_cases hg : isGap c
      · rcases hg with rfl | rfl | rfl | rfl | rfl
        · rw [toks_lf]; have := ih t (by omega) (a + 1) 1; omega
        · rw [toks_blank _ _ _ _ (.inl rfl)]; have := ih t (by omega) a (b + 1); omega
        · rw [toks_blank _ _ _ _ (.inr (.inl rfl))]; have := ih t (by omega) a (b + 1); omega
        · rw [toks_blank _ _ _ _ (.inr (.inr rfl))]; have := ih t (by omega) a (b + 1); omega
        · rw [toks_note]
          have := ih (t.drop (runL nlf t)) (by simp; omega) a (b + (runL nlf t + 1))
          rw [List.length_drop] at this; omega
      · by_cases he : (one (c :: t)).err = 0
        · have hk := one_ok (c :: t) (by simp) he
          rw [toks_tok _ _ _ _ hg he]
          have := ih ((c :: t).drop (one (c :: t)).size) (by simp at hk ⊢; omega) a (b + (one (c :: t)).size)
          rw [List.length_drop] at this
          simp only [List.length_cons] at this hk
          cases hx : toks ((c :: t).drop (one (c :: t)).size) a (b + (one (c :: t)).size) with
          | ok l => rw [hx] at this; simp [tokR, Except.map] at this ⊢; omega
          | error f => simp [tokR, Except.map]
        · rw [toks_bad _ _ _ _ hg he]; simp [tokR]

theorem lexPlaces_walk (s : ByteArray) (w : World) : Calls Try.prog 6 #[.string s] w fun e w' => e = .returned (.bool true) ∧ Below w.heap.size w w' := by
  by_cases h1 : 2000 < s.size
  · exact places_long s w (by omega) (Lib.hid awake_any)
  have hlen := toks_len _ s.data.toList (Nat.le_refl _) 1 1
  rw [size_list] at hlen
  have HT := fun w => tokens_core s w (by omega) _ (Lib.hid rfl)
  cases hR : toks s.data.toList 1 1 with
  | error f =>
    rw [hR] at HT
    exact places_bad s w (by omega) _ _ _ (by simpa using toks_code _ _ (Nat.le_refl _) _ _ _ hR) (Lib.hid awake_any) (Lib.hid fun w => (HT w).mono fun _ _ h => retP_bad h)
  | ok L =>
    rw [hR] at HT hlen
    exact places_core s w (by omega) L L.length (by simp [tokR] at hlen; omega) (Lib.hid rfl) (Lib.hid (toks_loc s.data.toList _ 0 (Nat.le_refl _) (Nat.zero_le _) 1 1 L rfl (by simpa using hR))) (Lib.hid awake_any)
      (Lib.hid fun w => (HT w).mono fun _ _ h => retP_ok h)

end Go.Proofs.Ytddeiidkmihkkaa
