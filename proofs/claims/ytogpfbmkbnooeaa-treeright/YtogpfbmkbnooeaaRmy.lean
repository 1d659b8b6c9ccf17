/-
  Contracts of the document's family for every kind, of its May. Conditions: rows of at most 1000000 nodes; May: texts of at most 100000 bytes.
-/
import Derived.Test.YtogpfbmkbnooeaaFamB
import Derived.Test.YtogpfbmkbnooeaaFamC
import Derived.Test.YtogpfbmkbnooeaaFamD
import Derived.Test.YtogpfbmkbnooeaaFamE
import Derived.Test.YtogpfbmkbnooeaaFld
import Derived.Test.YtogpfbmkbnooeaaEqv
namespace Go.Proofs.Ytogpfbmkbnooeaa
open Go.RowKit Go.Sort
set_option linter.unusedVariables false

theorem family_any (b o n cap : Nat) (l : List Nd) (w : World) (hn : Hid (l.length = n)) (hl : n ≤ 1000000) (hr : Hid (RowB w b o l)) (hR : Right (sz l) n) (k : Nat) (hk : k < n) (q : Bool) (hq : famOk l k = q) :
    Calls Try.prog 34 #[.slice (some ⟨b, o, none⟩) n cap, .int .i64 (k : Nat)] w fun e w' => e = .returned (.bool q) ∧ Below w.heap.size w w' := by
  have ok := hR.ok k hk
  have hxl := kids_len ok
  have hxn := fun x hx => (hR.kid_lt (y := x) hk hx).2
  have hnum : i64In (nd l k).num := (hr.out k (by rw [hn.out]; exact hk)).2.num
  unfold famOk at hq
  obtain ⟨kk, hkk⟩ : ∃ kk, kindAt l k = kk := ⟨_, rfl⟩
  rw [hkk] at hq
  by_cases h1 : kk = 1
  · subst h1
    exact fam_1 b o n cap l w hn hl hr k hk (Lib.hid ok) _ (Lib.hid rfl) (Lib.hid hxn) (by omega) _ hnum (Lib.hid hkk) (Lib.hid rfl) q (Lib.hid hq)
  by_cases h2 : kk = 2
  · subst h2
    exact fam_2 b o n cap l w hn hl hr k hk (Lib.hid ok) _ (Lib.hid rfl) (Lib.hid hxn) (by omega) _ hnum (Lib.hid hkk) (Lib.hid rfl) q (Lib.hid hq)
  by_cases h3 : kk = 3
  · subst h3
    exact fam_3 b o n cap l w hn hl hr k hk (Lib.hid ok) _ (Lib.hid rfl) (Lib.hid hxn) (by omega) _ hnum (Lib.hid hkk) (Lib.hid rfl) q (Lib.hid hq)
  by_cases h5 : kk = 5
  · subst h5
    exact fam_5 b o n cap l w hn hl hr k hk (Lib.hid ok) _ (Lib.hid rfl) (Lib.hid hxn) (by omega) _ hnum (Lib.hid hkk) (Lib.hid rfl) q (Lib.hid hq)
  by_cases h20 : kk = 20
  · subst h20
    exact fam_20 b o n cap l w hn hl hr k hk (Lib.hid ok) _ (Lib.hid rfl) (Lib.hid hxn) (by omega) _ hnum (Lib.hid hkk) (Lib.hid rfl) q (Lib.hid hq)
  by_cases h4 : kk = 4
  · subst h4
    exact fam_4 b o n cap l w hn hl hr k hk (Lib.hid ok) _ (Lib.hid rfl) (Lib.hid hxn) (by omega) _ hnum (Lib.hid hkk) (Lib.hid rfl) q (Lib.hid hq)
  by_cases h6 : kk = 6
  · subst h6
    exact fam_6 b o n cap l w hn hl hr k hk (Lib.hid ok) _ (Lib.hid rfl) (Lib.hid hxn) (by omega) _ hnum (Lib.hid hkk) (Lib.hid rfl) q (Lib.hid hq)
  by_cases h7 : kk = 7
  · subst h7
    exact fam_7 b o n cap l w hn hl hr k hk (Lib.hid ok) _ (Lib.hid rfl) (Lib.hid hxn) (by omega) _ hnum (Lib.hid hkk) (Lib.hid rfl) q (Lib.hid hq)
  by_cases h8 : kk = 8
  · subst h8
    exact fam_8 b o n cap l w hn hl hr k hk (Lib.hid ok) _ (Lib.hid rfl) (Lib.hid hxn) (by omega) _ hnum (Lib.hid hkk) (Lib.hid rfl) q (Lib.hid hq)
  by_cases h9 : kk = 9
  · subst h9
    exact fam_9 b o n cap l w hn hl hr k hk (Lib.hid ok) _ (Lib.hid rfl) (Lib.hid hxn) (by omega) _ hnum (Lib.hid hkk) (Lib.hid rfl) q (Lib.hid hq)
  by_cases h10 : kk = 10
  · subst h10
    exact fam_10 b o n cap l w hn hl hr k hk (Lib.hid ok) _ (Lib.hid rfl) (Lib.hid hxn) (by omega) _ hnum (Lib.hid hkk) (Lib.hid rfl) q (Lib.hid hq)
  by_cases h11 : kk = 11
  · subst h11
    exact fam_11 b o n cap l w hn hl hr k hk (Lib.hid ok) _ (Lib.hid rfl) (Lib.hid hxn) (by omega) _ hnum (Lib.hid hkk) (Lib.hid rfl) q (Lib.hid hq)
  by_cases h12 : kk = 12
  · subst h12
    exact fam_12 b o n cap l w hn hl hr k hk (Lib.hid ok) _ (Lib.hid rfl) (Lib.hid hxn) (by omega) _ hnum (Lib.hid hkk) (Lib.hid rfl) q (Lib.hid hq)
  by_cases h29 : kk = 29
  · subst h29
    exact fam_29 b o n cap l w hn hl hr k hk (Lib.hid ok) _ (Lib.hid rfl) (Lib.hid hxn) (by omega) _ hnum (Lib.hid hkk) (Lib.hid rfl) q (Lib.hid hq)
  by_cases h30 : kk = 30
  · subst h30
    exact fam_30 b o n cap l w hn hl hr k hk (Lib.hid ok) _ (Lib.hid rfl) (Lib.hid hxn) (by omega) _ hnum (Lib.hid hkk) (Lib.hid rfl) q (Lib.hid hq)
  by_cases h13 : kk = 13
  · subst h13
    exact fam_13 b o n cap l w hn hl hr k hk (Lib.hid ok) _ (Lib.hid rfl) (Lib.hid hxn) (by omega) _ hnum (Lib.hid hkk) (Lib.hid rfl) q (Lib.hid hq)
  by_cases h27 : kk = 27
  · subst h27
    exact fam_27 b o n cap l w hn hl hr k hk (Lib.hid ok) _ (Lib.hid rfl) (Lib.hid hxn) (by omega) _ hnum (Lib.hid hkk) (Lib.hid rfl) q (Lib.hid hq)
  by_cases h28 : kk = 28
  · subst h28
    exact fam_28 b o n cap l w hn hl hr k hk (Lib.hid ok) _ (Lib.hid rfl) (Lib.hid hxn) (by omega) _ hnum (Lib.hid hkk) (Lib.hid rfl) q (Lib.hid hq)
  by_cases h31 : kk = 31
  · subst h31
    exact fam_31 b o n cap l w hn hl hr k hk (Lib.hid ok) _ (Lib.hid rfl) (Lib.hid hxn) (by omega) _ hnum (Lib.hid hkk) (Lib.hid rfl) q (Lib.hid hq)
  by_cases h32 : kk = 32
  · subst h32
    exact fam_32 b o n cap l w hn hl hr k hk (Lib.hid ok) _ (Lib.hid rfl) (Lib.hid hxn) (by omega) _ hnum (Lib.hid hkk) (Lib.hid rfl) q (Lib.hid hq)
  exact fam_else kk (Lib.hid ⟨h1, h2, h3, h5, h20, h4, h6, h7, h8, h9, h10, h11, h12, h29, h30, h13, h27, h28, h31, h32⟩) b o n cap l w hn hl hr k hk (Lib.hid ok) _ (Lib.hid rfl) (Lib.hid hxn) (by omega) _ hnum (Lib.hid hkk) (Lib.hid rfl) q (Lib.hid hq)

set_option maxHeartbeats 2000000 in
theorem rmay_in (b o n cap : Nat) (l : List Nd) (w : World) (hn : Hid (l.length = n)) (hl : n ≤ 1000000) (hr : Hid (RowB w b o l)) (htx : Hid (∀ i, i < n → (nd l i).text.size ≤ 100000)) (hpos : 0 < n) (hR : Hid (Right (sz l) n)) (h1 : Hid (kindAt l 0 = 1)) (p : Bool) (hp : Hid (((List.range n).all fun j => fieldOk l j && famOk l j) = p)) :
    Calls Try.prog 13 #[.slice (some ⟨b, o, none⟩) n cap] w fun e w' => e = .returned (.bool p) ∧ Below w.heap.size w w' := by
  have HRi := Lib.hid (rright_row b o n cap l w hn hl hr hpos true (rightB_true hR.out))
  have c0 : w.cell? ⟨b, o, none⟩ = some (.int .u8 1) := by
    have := (hr.out 0 (by rw [hn.out]; exact hpos)).1.c0
    rw [Nat.zero_mul, Nat.add_zero, show (nd l 0).kind = 1 from h1.out] at this
    exact this
  go_enter Try.func13, Try.ntmps13
  go_wp2_with (go_at_call 11; refine HRi.out.mono ?_; rintro e w1 ⟨rfl, rfl⟩)
  clear HRi c0
  go_loopw [16] (fun j wr => ∃ k : Nat, k ≤ n ∧ j = .int .i64 k ∧ (∀ j, j < k → (fieldOk l j && famOk l j) = true) ∧ Below w.heap.size w wr) (fun j _ => n - (intOf j).toNat)
  case atStart => exact ⟨0, Nat.zero_le _, rfl, fun j hj => absurd hj (by omega), Below.refl _ _⟩
  case round =>
    obtain ⟨k, hk, rfl, hok, hbel⟩ := hrel
    replace hok := Lib.hid hok
    by_cases hlt : k < n
    · obtain ⟨hat, hwf⟩ := (hr.out.carry hbel) k (by rw [hn.out]; exact hlt)
      obtain ⟨c0, c1, c2, c3, c4, c5⟩ := hat
      have ht := htx.out k hlt
      obtain ⟨kd, ln, cl, s, num, tx, hN⟩ : ∃ kd ln cl s num tx, nd l k = ⟨kd, ln, cl, s, num, tx⟩ := ⟨_, _, _, _, _, _, rfl⟩
      rw [hN] at c0 c1 c2 c3 c4 c5 hwf ht
      simp only at c0 c1 c2 c3 c4 c5 ht
      have hF : fieldOk l k = (textB kd tx.data.toList && numB kd num) := by rw [fieldOk, kindAt, hN]
      have HFI := Lib.hid (fun w q (h : fieldOk l k = q) => field_any ⟨kd, ln, cl, s, num, tx⟩ hwf ht w q (by rw [← h, hF]))
      have HFA := Lib.hid (fun w1 (h : Below w.heap.size w w1) q (hq : famOk l k = q) => family_any b o n cap l w1 hn hl (Lib.hid (hr.out.carry h)) hR.out k hlt q hq)
      have hbad : Hid ((fieldOk l k && famOk l k) = false → p = false) := Lib.hid fun h => by
        rw [← hp.out, List.all_eq_false]
        exact ⟨k, List.mem_range.2 hlt, by rw [h]; simp⟩
      replace hbel := Lib.hid hbel
      clear hN hF hwf ht
      cases h1 : fieldOk l k with
      | false =>
        have hp' : p = false := hbad.out (by rw [h1]; rfl)
        subst hp'
        replace h1 := Lib.hid h1
        go_wp2_with fail
        refine (HFI.out _ false h1.out).mono ?_
        rintro e w2 ⟨rfl, hb2⟩
        replace hb2 := Lib.hid (below_step hbel.out hb2)
        go_wp2_with fail
        go_ret
        exact ⟨rfl, hb2.out⟩
      | true =>
        cases h2 : famOk l k with
        | false =>
          have hp' : p = false := hbad.out (by rw [h1, h2]; rfl)
          subst hp'
          replace h1 := Lib.hid h1
          replace h2 := Lib.hid h2
          go_wp2_with fail
          refine (HFI.out _ true h1.out).mono ?_
          rintro e w2 ⟨rfl, hb2⟩
          replace hb2 := Lib.hid (below_step hbel.out hb2)
          go_wp2_with fail
          refine (HFA.out _ hb2.out false h2.out).mono ?_
          rintro e w3 ⟨rfl, hb3⟩
          replace hb3 := Lib.hid (below_step hb2.out hb3)
          go_wp2_with fail
          go_ret
          exact ⟨rfl, hb3.out⟩
        | true =>
          have HO := Lib.hid (show ∀ j, j < k + 1 → (fieldOk l j && famOk l j) = true from fun j hj => by
            by_cases e : j = k
            · subst e; rw [h1, h2]; rfl
            · exact hok.out j (by omega))
          replace h1 := Lib.hid h1
          replace h2 := Lib.hid h2
          go_wp2_with fail
          refine (HFI.out _ true h1.out).mono ?_
          rintro e w2 ⟨rfl, hb2⟩
          replace hb2 := Lib.hid (below_step hbel.out hb2)
          go_wp2_with fail
          refine (HFA.out _ hb2.out true h2.out).mono ?_
          rintro e w3 ⟨rfl, hb3⟩
          replace hb3 := Lib.hid (below_step hb2.out hb3)
          go_wp2_with fail
          go_roundw
          case rel => exact ⟨k + 1, hlt, by go_num, HO.out, hb3.out⟩
          case measure => simp [intOf]; omega
    · have hp' : p = true := by
        rw [← hp.out, List.all_eq_true]
        intro j hj
        exact hok.out j (by have := List.mem_range.1 hj; omega)
      subst hp'
      replace hbel := Lib.hid hbel
      go_wp2_with fail
      go_ret
      exact ⟨rfl, hbel.out⟩

theorem rmay_bad (a : Option Addr) (n cap : Nat) (l : List Nd) (w : World) (hn : l.length = n) (hl : n ≤ 1000000) (hr : Row w a l) (hp : rightB (sz l) n = false) :
    Calls Try.prog 13 #[.slice a n cap] w fun e w' => e = .returned (.bool false) ∧ Below w.heap.size w w' := by
  have H := Lib.hid (rright_any a n cap l w hn hl hr false hp)
  clear hn hr hp
  go_enter Try.func13, Try.ntmps13
  go_wp2_with (go_at_call 11; refine H.out.mono ?_; rintro e w1 ⟨rfl, rfl⟩)
  go_ret
  exact ⟨rfl, Below.refl _ _⟩

theorem rmay_root (b o n cap : Nat) (l : List Nd) (w : World) (hn : Hid (l.length = n)) (hl : n ≤ 1000000) (hr : Hid (RowB w b o l)) (hpos : 0 < n) (hR : Hid (Right (sz l) n)) (h1 : kindAt l 0 ≠ 1) :
    Calls Try.prog 13 #[.slice (some ⟨b, o, none⟩) n cap] w fun e w' => e = .returned (.bool false) ∧ Below w.heap.size w w' := by
  have HRi := Lib.hid (rright_row b o n cap l w hn hl hr hpos true (rightB_true hR.out))
  obtain ⟨kd, hkd⟩ : ∃ kd, kindAt l 0 = kd := ⟨_, rfl⟩
  have c0 : w.cell? ⟨b, o, none⟩ = some (.int .u8 (kd : Nat)) := by
    have := (hr.out 0 (by rw [hn.out]; exact hpos)).1.c0
    rw [Nat.zero_mul, Nat.add_zero, show (nd l 0).kind = kd from hkd] at this
    exact this
  have e1 : ((kd : Int) != 1) = true := by rw [bne_iff_ne]; omega
  clear h1 hkd
  go_enter Try.func13, Try.ntmps13
  go_wp2_with (go_at_call 11; refine HRi.out.mono ?_; rintro e w1 ⟨rfl, rfl⟩)
  go_ret
  exact ⟨rfl, Below.refl _ _⟩

theorem rmay_any (a : Option Addr) (n cap : Nat) (l : List Nd) (w : World) (hn : l.length = n) (hl : n ≤ 1000000) (hr : Row w a l) (htx : ∀ i, i < n → (nd l i).text.size ≤ 100000) (p : Bool) (hp : mayB l = p) :
    Calls Try.prog 13 #[.slice a n cap] w fun e w' => e = .returned (.bool p) ∧ Below w.heap.size w w' := by
  unfold mayB at hp
  cases h1 : rightB (sz l) l.length with
  | false =>
    rw [h1, Bool.false_and, Bool.false_and] at hp
    subst hp
    exact rmay_bad a n cap l w hn hl hr (by rw [← hn]; exact h1)
  | true =>
    have hR := rightB_iff.1 h1
    have hpos := hR.pos
    obtain ⟨b, o, rfl, hb⟩ := hr.block (by intro h; rw [h] at hpos; simp at hpos)
    by_cases h2 : kindAt l 0 = 1
    · rw [h1, decide_eq_true h2, Bool.true_and, Bool.true_and, ← may_same l hR h2] at hp
      rw [hn] at hp hR hpos
      exact rmay_in b o n cap l w (Lib.hid hn) hl (Lib.hid hb) (Lib.hid htx) hpos (Lib.hid hR) (Lib.hid h2) p (Lib.hid hp)
    · rw [h1, decide_eq_false h2] at hp
      have hp' : p = false := by rw [← hp]; rfl
      subst hp'
      rw [hn] at hR hpos
      exact rmay_root b o n cap l w (Lib.hid hn) hl (Lib.hid hb) hpos (Lib.hid hR) h2

end Go.Proofs.Ytogpfbmkbnooeaa
