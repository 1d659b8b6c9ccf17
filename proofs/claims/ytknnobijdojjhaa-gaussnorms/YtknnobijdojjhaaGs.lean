/-
  What gauss.Parse answers, for every text of at most 100 bytes. Conditions: that bound.
-/
import Derived.Test.YtknnobijdojjhaaSpl
import Derived.Test.YtknnobijdojjhaaGp
import Derived.Test.YtknnobijdojjhaaParseF
namespace Go.Proofs.Ytknnobijdojjhaa
open Go.RowKit

/-- What two parts' texts are read as. -/
def comb (a b : List UInt8) : Int × Int × Int :=
  if parseE a = 2 ∨ parseE b = 2 then (0, 0, 2)
  else if parseE a ≠ 0 ∨ parseE b ≠ 0 ∨ parseN a ≠ r24 (parseN a) ∨ parseN b ≠ r24 (parseN b) then (0, 0, 14)
  else (parseN a, parseN b, 0)
/-- What a text is read as. -/
def Spec (l : List UInt8) (v : Int × Int × Int) : Prop :=
  (∃ a b, Split l a b ∧ good a = true ∧ good b = true ∧ v = comb a b) ∨ ((∀ a b, Split l a b → good a = true → good b = true → False) ∧ v = (0, 0, 2))

theorem spec_uniq {l : List UInt8} {v v' : Int × Int × Int} (h : Spec l v) (h' : Spec l v') : v = v' := by
  rcases h with ⟨a, b, h1, h2, h3, rfl⟩ | ⟨h1, rfl⟩
  · rcases h' with ⟨a', b', k1, k2, _, rfl⟩ | ⟨k1, rfl⟩
    · obtain ⟨rfl, rfl⟩ := split_uniq h1 k1 h2 k2; rfl
    · exact (k1 a b h1 h2 h3).elim
  · rcases h' with ⟨a', b', k1, k2, k3, rfl⟩ | ⟨k1, rfl⟩
    · exact (h1 a' b' k1 k2 k3).elim
    · rfl

theorem parseE_bad {l : List UInt8} (h : parseE l = 2) : good l = false := by
  unfold parseE at h
  cases hg : good l
  · rfl
  · rw [hg] at h
    simp only [if_true] at h
    split at h <;> exact absurd h (by decide)
theorem parseE_good {l : List UInt8} (h : ¬ parseE l = 2) : good l = true := by
  cases hg : good l
  · exact (h (by unfold parseE; rw [hg]; rfl)).elim
  · rfl
theorem parseE_three (l : List UInt8) : parseE l = 2 ∨ parseE l = 14 ∨ parseE l = 0 := by
  unfold parseE
  split
  · split
    · exact .inr (.inl rfl)
    · exact .inr (.inr rfl)
  · exact .inl rfl

abbrev GAns (f : FuncId) (s : ByteArray) (v : Int × Int × Int) : Prop := ∀ w, Calls Try.prog f #[.string s] w fun e w' => e = .returned (pr v.1 v.2.1 v.2.2) ∧ Below w.heap.size w w'

theorem below_of {P : Program} {f : FuncId} {args : Array Value} {v : Value} {w : World} (h : Calls P f args w fun e w' => e = .returned v ∧ w = w') :
    Calls P f args w fun e w' => e = .returned v ∧ Below w.heap.size w w' := h.mono fun _ _ ⟨h1, h2⟩ => ⟨h1, by subst h2; exact Below.refl _ _⟩

theorem last_no (s : ByteArray) (m : Nat) (hm : m + 1 = s.size) (h : m < s.size) (hi : s[m] ≠ 105) (a b : List UInt8) (hs : Split s.data.toList a b) : False := by
  obtain ⟨r, hr⟩ := split_last hs
  have hg := get_list s m h
  have hrl : r.length = m := by have := size_list s; rw [hr] at this; simp at this; omega
  rw [hr, List.getElem?_append_right (by omega), hrl, Nat.sub_self] at hg
  exact hi (by simpa using hg.symm)

theorem may_of (n1 n2 : Int) (t : Bool) (h : ((n1 == r24 n1) && (n2 == r24 n2)) = t) (w : World) : Calls Try.prog 24 #[cv n1 n2] w fun e w' => e = .returned (.bool t) ∧ Below w.heap.size w w' := h ▸ may_any n1 n2 w

theorem gparse_any (s : ByteArray) (hs : s.size ≤ 100) : ∃ v, GAns 26 s v ∧ Spec s.data.toList v := by
  by_cases h0 : 0 < s.size
  · obtain ⟨m, hm⟩ : ∃ m, m + 1 = s.size := ⟨s.size - 1, by omega⟩
    have hms : m < s.size := by omega
    have hm2 : (s.size : Int) - 1 = m := by omega
    by_cases hi : s[m] = 105
    · have hi' : ((s[m].toNat : Int) != 105) = false := by rw [hi]; rfl
      obtain ⟨R, hR⟩ : ∃ R, cutFrom s m hms 1 = R := ⟨_, rfl⟩
      have HC := Lib.hid (fun w => cut_good s m w R hs hms hm2 hi' (Lib.hid hR))
      obtain ⟨A, B, t⟩ := R
      cases t with
      | false =>
        refine ⟨(0, 0, 2), fun w => gp_none s A B w HC, .inr ⟨fun a b h1 h2 _ => ?_, rfl⟩⟩
        rw [cut_good_split s m hms hm a b h1 h2] at hR
        simp at hR
      | true =>
        have hsp := cutFrom_split s m hm hms hi A B _ 1 rfl hR
        have hlen := split_len hsp
        have hlb : B.size ≤ 100 := by
          rw [size_list] at hlen
          rcases hsp with ⟨x, hb, hx⟩ | ⟨_, hx⟩
          · have h3 := size_list s; have h4 := size_list B; rw [hx] at h3; rw [hb] at h4; simp at h3 h4; omega
          · have h3 := size_list s; rw [hx] at h3; simp at h3; omega
        have hla : A.size ≤ 100 := by rw [size_list, size_list] at hlen; omega
        have uniq : ∀ a b, Split s.data.toList a b → good a = true → a = A.data.toList ∧ b = B.data.toList := fun a b h1 h2 => by
          rw [cut_good_split s m hms hm a b h1 h2] at hR
          simp only [Prod.mk.injEq] at hR
          exact ⟨by rw [← hR.1, bs_list], by rw [← hR.2.1, bs_list]⟩
        have HA := fun w => parse_any A w hla
        have HB := fun w => parse_any B w hlb
        by_cases h1 : parseE A.data.toList = 2
        · rw [h1] at HA
          refine ⟨(0, 0, 2), fun w => gp_form1 s A B _ _ _ w HC (Lib.hid HA) (Lib.hid HB), .inr ⟨fun a b k1 k2 k3 => ?_, rfl⟩⟩
          obtain ⟨rfl, rfl⟩ := uniq a b k1 k2
          rw [parseE_bad h1] at k2; cases k2
        · by_cases h2 : parseE B.data.toList = 2
          · rw [h2] at HB
            refine ⟨(0, 0, 2), fun w => gp_form2 s A B _ _ _ w (by simpa using h1) HC (Lib.hid HA) (Lib.hid HB), .inr ⟨fun a b k1 k2 k3 => ?_, rfl⟩⟩
            obtain ⟨rfl, rfl⟩ := uniq a b k1 k2
            rw [parseE_bad h2] at k3; cases k3
          · refine ⟨comb A.data.toList B.data.toList, ?_, .inl ⟨_, _, hsp, parseE_good h1, parseE_good h2, rfl⟩⟩
            unfold comb
            rw [if_neg (by rintro (h | h); exact h1 h; exact h2 h)]
            rcases parseE_three A.data.toList with e1 | e1 | e1
            · exact (h1 e1).elim
            · rw [if_pos (by left; rw [e1]; decide)]
              rw [e1] at HA
              exact fun w => gp_over1 s A B _ _ _ w (by simpa using h2) HC (Lib.hid HA) (Lib.hid HB)
            · rcases parseE_three B.data.toList with e2 | e2 | e2
              · exact (h2 e2).elim
              · rw [if_pos (by right; left; rw [e2]; decide)]
                rw [e1] at HA
                rw [e2] at HB
                exact fun w => gp_over2 s A B _ _ w HC (Lib.hid HA) (Lib.hid HB)
              · rw [e1] at HA
                rw [e2] at HB
                by_cases g : parseN A.data.toList = r24 (parseN A.data.toList) ∧ parseN B.data.toList = r24 (parseN B.data.toList)
                · rw [if_neg (by rintro (h | h | h | h); exact h e1; exact h e2; exact h g.1; exact h g.2)]
                  exact fun w => gp_mayt s A B _ _ w HC (Lib.hid HA) (Lib.hid HB) (Lib.hid (may_of _ _ true (by rw [Bool.and_eq_true, beq_iff_eq, beq_iff_eq]; exact g)))
                · rw [if_pos (by
                    by_cases g1 : parseN A.data.toList = r24 (parseN A.data.toList)
                    · exact .inr (.inr (.inr fun g2 => g ⟨g1, g2⟩))
                    · exact .inr (.inr (.inl g1)))]
                  exact fun w => gp_mayf s A B _ _ w HC (Lib.hid HA) (Lib.hid HB) (Lib.hid (may_of _ _ false (by
                    rw [Bool.eq_false_iff]; intro h; rw [Bool.and_eq_true, beq_iff_eq, beq_iff_eq] at h; exact g h)))
    · have hi' : ((s[m].toNat : Int) != 105) = true := by
        rw [bne_iff_ne]; intro e; exact hi (byte_eq (n := 105) (by omega) (by rw [e]; rfl))
      exact ⟨(0, 0, 2), fun w => gp_none s nob nob w (Lib.hid (fun w => below_of (cut_bad s m w hs hms hm2 hi'))), .inr ⟨fun a b k1 _ _ => last_no s m hm hms hi a b k1, rfl⟩⟩
  · have e := empty_of s h0
    subst e
    refine ⟨(0, 0, 2), fun w => gp_none nob nob nob w (Lib.hid (fun w => below_of (cut_empty w))), .inr ⟨fun a b k1 _ _ => ?_, rfl⟩⟩
    have := split_len k1
    simp at this

end Go.Proofs.Ytknnobijdojjhaa
