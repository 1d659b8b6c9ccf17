/-
 The document's atom answers as said, if what it calls does. Conditions: those calls' contracts.
-/
import Derived.Test.YtbknflaooemigaaGreatDm
import Derived.Test.YtbknflaooemigaaGreatDn
import Derived.Test.YtbknflaooemigaaGreatDo
import Derived.Test.YtbknflaooemigaaGreatDr
namespace Go.Proofs.YtbknflaooemigaaGreat
open Go.RowKit Go.Sort
set_option linter.unusedVariables false

theorem kind_all {T : List Tok} (hE : Ends T) (N : Nat) : Dos T N 93 #[] (kindS T N) := by
 induction N with
 | zero => intro w tb to n tc s h hf; have := hf.2.1; omega
 | succ N ih => exact kind_w (Lib.hid hE) (Lib.hid ih)
theorem atom_w {T : List Tok} {N : Nat} {E : S → Rs} (hE : Ends T) (hB : Bd T N E) (hPo : Pos T N E) (hX : Dos T N 14 #[.int .i64 1] E) : Dos T (N + 1) 70 #[] (atomS T E (N + 1)) := by
 intro w tb to n tc s h hf
 obtain ⟨⟨kd, ln, cl, nm, tx⟩, ht⟩ : ∃ t, nowS T s = t := ⟨_, rfl⟩
 have hn1 := h.ln
 have hn2 := h.en.tn
 have f : ∀ {x : Bool}, ¬ x = true → x = false := fun h => by simpa using h
 show Calls Tryz.prog 70 #[pV tb to n tc s] w (RetP w tb to n tc (atomS T E (N + 1) s))
 unfold atomS
 rw [ht]
 by_cases hc' : s.c ≠ 0
 ·rw [if_pos hc']; exact atom_bad h ht hc'
 rw [if_neg hc']
 have hc : s.c = 0 := by simpa using hc'
 have kn : nowS T s = hd (T.drop s.I) := rfl
 by_cases k3 : kd = 3
 ·rw [if_pos k3]; exact atom_num h ht hc k3
 rw [if_neg k3]
 by_cases k4 : kd = 4
 ·rw [if_pos k4]; exact atom_ref h ht hc k4
 rw [if_neg k4]
 by_cases k5 : kd = 5
 ·rw [if_pos k5]; exact atom_str h ht hc k5
 rw [if_neg k5]
 by_cases a1 : isS T s wTrue = true
 ·rw [if_pos a1]; exact atom_true h ht hc ⟨k3, k4, k5⟩ a1
 rw [if_neg a1]
 by_cases a2 : isS T s wFalse = true
 ·rw [if_pos a2]; exact atom_false h ht hc ⟨k3, k4, k5⟩ (f a1) a2
 rw [if_neg a2]
 by_cases a3 : isS T s wNil = true
 ·rw [if_pos a3]; exact atom_nil h ht hc ⟨k3, k4, k5⟩ (f a1) (f a2) a3
 rw [if_neg a3]
 obtain ⟨o1, o2, o3, o4⟩ := one_f (T := T) hf.1
 by_cases k1 : kd = 1
 ·have hl : s.I + 1 < T.length := last_end hE hf.1 (by rw [← kn, ht]; show kd ≠ 8; omega)
  by_cases b1 : isS T (oneS T s) [40] = true
  ·rw [if_neg (fun hh => by rw [b1] at hh; simp at hh), if_pos k1]
   obtain ⟨p1, p2, p3, p4⟩ := opens_f hE o1 [40]
   have hfo : Fit T N (opensS T (oneS T s) [40]) := fit_of hf hl hc p1 (fun _ => by have := o3 hl; omega)
   obtain ⟨r1, r2, r3, r4⟩ := bnd_args hE hB (N + 1) hfo o1
   exact atom_call h ht hc k1 (f a1) (f a2) (f a3) b1 (by omega) (Lib.hid (fun w' hb => args_w (Lib.hid hE) (Lib.hid hB) (Lib.hid hPo) (Lib.hid hX) ((h.at (by omega)).carry hb) hfo))
  ·rw [if_pos ⟨k1, f b1⟩]; exact atom_name h ht hc k1 (f a1) (f a2) (f a3) (f b1)
 rw [if_neg (fun hh => k1 hh.1), if_neg k1]
 by_cases a4 : isS T s [40] = true
 ·rw [if_pos a4]
  have hfo := fit_opens hE hf a4
  exact atom_paren h ht hc ⟨k3, k4, k5, k1⟩ (f a1) (f a2) (f a3) a4 (by have := (hB _ hfo).2.1; omega) (Lib.hid (fun w' hb => hX ((h.at (by have := hfo.1; omega)).carry hb) hfo))
 rw [if_neg a4]
 by_cases a5 : isS T s wMake = true
 ·have hl : s.I + 1 < T.length := last_end hE hf.1 (sees_ne (is_c a5).2)
  have o5 := o3 hl
  have hf1 : Fit T (N + 1) (oneS T s) := fit_up hf o1 o2 (fun _ => hc)
  by_cases b1 : isS T (oneS T s) [91] = true
  ·rw [if_pos ⟨a5, b1⟩]
   obtain ⟨⟨r1, r2, r3, r4, r5⟩, r6⟩ := bnd_kind hE (N + 1) _ hf1
   obtain ⟨p1, p2, p3, p4⟩ := opens_f hE r2 [40]
   have hfo : Fit T N (opensS T (kindS T (N + 1) (oneS T s)).2 [40]) := fit_of hf hl hc p1 (fun _ => by omega)
   obtain ⟨q1, q2, q3, q4, q5⟩ := hB _ hfo
   exact atom_make h ht hc ⟨k3, k4, k5, k1⟩ (f a1) (f a2) (f a3) (f a4) a5 b1 (by omega) (by omega) (Lib.hid (fun w' hb => kind_all hE (N + 1) ((h.at (by omega)).carry hb) hf1)) (by omega) (by omega) (Lib.hid (fun w' hb => hX ((h.at (by omega)).carry hb) hfo))
  ·rw [if_neg (fun hh => b1 hh.2), if_pos a5]
   obtain ⟨⟨kd2, ln2, cl2, nm2, tx2⟩, ht2⟩ : ∃ t, nowS T (oneS T s) = t := ⟨_, rfl⟩
   obtain ⟨w1, w2, w3, w4, w5⟩ := word_f hE o1 2 (by decide)
   obtain ⟨p1, p2, p3, p4⟩ := opens_f hE w1 [40]
   rw [ht2]
   exact atom_mkname h ht hc ⟨k3, k4, k5, k1⟩ (f a1) (f a2) (f a3) (f a4) a5 (f b1) ht2 rfl rfl rfl (by omega) (by omega)
 rw [if_neg (fun hh => a5 hh.1), if_neg a5]
 exact atom_none h ht hc ⟨k3, k4, k5, k1⟩ (f a1) (f a2) (f a3) (f a4) (f a5)

end Go.Proofs.YtbknflaooemigaaGreat
