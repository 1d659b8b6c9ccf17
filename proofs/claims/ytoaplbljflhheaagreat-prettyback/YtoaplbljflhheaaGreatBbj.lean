/-
 Contracts and plain facts on the way to PrettyBack. Conditions: as each says.
-/
import Derived.Test.YtoaplbljflhheaaGreatBbd
import Derived.Test.YtoaplbljflhheaaGreatBbg
set_option maxHeartbeats 40000000
set_option maxRecDepth 100000
set_option linter.unusedVariables false
set_option linter.unusedSimpArgs false
namespace Go.Proofs.YtoaplbljflhheaaGreat
open _root_.Go.Proofs.Tryz
section
open Go.RowKit Go.Sort
theorem On (l : List Pc) (i c : Nat) (hc : c < 4) : (Cm l)[i * 4 + c]? = (l[i]?).bind fun p => (Ev p)[c]? := by
 induction l generalizing i with
 | nil => simp [Cm]
 | cons x l ih =>
  have e : Cm (x :: l) = Ev x ++ Cm l := by simp [Cm]
  have hx : (Ev x).length = 4 := rfl
  cases i with
  | zero =>
   rw [e, Nat.zero_mul, Nat.zero_add, List.getElem?_append_left (by omega)]
   rfl
  | succ i =>
   rw [e, List.getElem?_append_right (by omega), hx, show (i + 1) * 4 + c - 4 = i * 4 + c by omega, ih];rfl
theorem b0k {cur : Array Value} {l : List Pc} (h : cur.toList.take (l.length * 4) = Cm l) {i : Nat} (hi : i < l.length) : IsP cur (i * 4) := by
 have G : ∀ c, c < 4 -> cur[i * 4 + c]? = (Ev l[i])[c]? := fun c hc => by
  have : (cur.toList.take (l.length * 4))[i * 4 + c]? = cur[i * 4 + c]? := by
   rw [List.getElem?_take_of_lt (by omega), Array.getElem?_toList]
  rw [<- this, h, On l i c hc, List.getElem?_eq_getElem hi];rfl
 exact ⟨bs l[i].text, l[i].plc, l[i].ask, l[i].tabs, G 0 (by omega), G 1 (by omega), G 2 (by omega), G 3 (by omega)⟩
theorem Xt {cur cs : Array Value} {X Q : List Pc} {k : Nat} (h : cur.toList.take ((X ++ Q).length * 4) = Cm (X ++ Q)) (hz : cs.size = cur.size) (hsz : (X ++ Q).length * 4 <= cur.size) (h1 : Q.length <= 2 * k + 1) (h2 : 2 * k <= Q.length)
  (hcs : ∀ p, cs[p]? = Gk cur (X.length * 4) Q.length k p) : cs.toList.take ((X ++ Q.reverse).length * 4) = Cm (X ++ Q.reverse) := by
 have hlen : (X ++ Q.reverse).length = (X ++ Q).length := by simp
 rw [hlen];have hl : (X ++ Q).length = X.length + Q.length := List.length_append
 have C : ∀ i c, i < (X ++ Q).length -> c < 4 -> cur[i * 4 + c]? = ((X ++ Q)[i]?).bind fun p => (Ev p)[c]? := fun i c hi hc => by
  have : (cur.toList.take ((X ++ Q).length * 4))[i * 4 + c]? = cur[i * 4 + c]? := by
   rw [List.getElem?_take_of_lt (by omega), Array.getElem?_toList]
  rw [<- this, h, On _ i c hc]
 refine List.ext_getElem? fun q => ?_
 by_cases hq : q < (X ++ Q).length * 4
 ·rw [List.getElem?_take_of_lt hq, Array.getElem?_toList, hcs];obtain ⟨i, c, hc, rfl⟩ : ∃ i c, c < 4 ∧ q = i * 4 + c := ⟨q / 4, q % 4, by omega, by omega⟩;have hi : i < X.length + Q.length := by omega
  rw [On _ i c hc];by_cases hx : i < X.length
  ·unfold Gk;rw [if_neg (by omega), C i c (by omega) hc, List.getElem?_append_left hx, List.getElem?_append_left hx]
  ·obtain ⟨j, rfl⟩ : ∃ j, i = X.length + j := ⟨i - X.length, by omega⟩;have hj : j < Q.length := by omega
   have e : (X.length + j) * 4 + c = X.length * 4 + j * 4 + c := by omega
   have hs : sgm Q.length k j = Q.length - 1 - j := by
    unfold sgm;split <;> omega
   rw [e, Ii hj hc, hs, show X.length * 4 + (Q.length - 1 - j) * 4 + c = (X.length + (Q.length - 1 - j)) * 4 + c by omega, C _ c (by omega) hc, List.getElem?_append_right (by omega), List.getElem?_append_right (by omega)];rw [show X.length + (Q.length - 1 - j) - X.length = Q.length - 1 - j by omega, show X.length + j - X.length = j by omega, List.getElem?_reverse hj]
 ·rw [List.getElem?_eq_none (by rw [List.length_take]; omega), List.getElem?_eq_none (by rw [Gz, hlen]; omega)]
theorem b10 {V : World} {b : Nat} {E : Env} {X Q : List Pc} {t : Int} {out : List UInt8} {g cap : Nat} (h : Wr V b E (X ++ Q) t out) (hc2 : V.cell? ⟨b, 2, none⟩ = some (.slice (some ⟨g, 0, none⟩) (X ++ Q).length cap)) (hX : (X ++ Q).length <= 100000000) (cap' : Nat) :
  Calls prog 85 #[.slice (some ⟨g, X.length * 4, none⟩) Q.length cap'] V fun e w' => e = .returned (.tuple #[]) ∧ Wr w' b E (X ++ Q.reverse) t out ∧ Fw b V w' := by
 have hbl := h.lt;obtain ⟨he, v, p, u, hb, hv, hu, hp⟩ := h
 obtain rfl : v = .slice (some ⟨g, 0, none⟩) (X ++ Q).length cap := by
  have : V.cell? ⟨b, 2, none⟩ = some v := by simp [World.cell?, hb]
  rw [hc2] at this;exact (Option.some.inj this).symm
 obtain ⟨cur, hbg, hg, hnc, hcm, hcs, htake⟩ : ∃ cur, b + 1 <= g ∧ V.heap[g]? = some (.cells cur 71 (0, 0)) ∧ (X ++ Q).length <= cap ∧ cap <= maxLen ∧ cur.size = cap * 4 ∧ cur.toList.take ((X ++ Q).length * 4) = Cm (X ++ Q) := by
  rcases hv.2 with ⟨hv, _⟩ | ⟨g', cap', cur, hv, r⟩
  ·cases hv
  ·cases hv; exact ⟨cur, r⟩
 have hl : (X ++ Q).length = X.length + Q.length := List.length_append;refine (b36 (w := V) (g := g) (o := X.length * 4) (n := Q.length) (cap := cap') (cur := cur) (zz hg) (zz (by rw [hcs]; omega)) (by omega) (zz fun i hi => ?_)).mono ?_
 ·have := b0k htake (i := X.length + i) (by omega)
  rwa [show (X.length + i) * 4 = X.length * 4 + i * 4 by omega] at this
 ·rintro e w' ⟨rfl, ho, cs, k, hh, hz, h1, h2, hcs2⟩;have hG : ∀ k, k < V.heap.size -> k ≠ g -> w'.heap[k]? = V.heap[k]? := ho.block;refine ⟨rfl, ⟨he.of fun k hk => hG k (by omega) (by omega), _, p, u, (hG b hbl (by omega)).trans hb, ?_, ?_, hp⟩, ?_⟩
  ·refine ⟨by rw [Gz], .inr ⟨g, cap, cs, by simp, hbg, hh, by simp at hnc ⊢; omega, hcm, by rw [hz, hcs], Xt htake hz (by rw [hcs]; omega) h1 h2 hcs2⟩⟩
  ·refine World.ownsRow.kept hu (row := some g) ⟨ho.os, ho.tape, ho.output, ho.size, fun k hk hn => hG k hk (fun e => hn (by rw [e]))⟩ ?_
   cases hx : u.ownBlock with
   | none => exact .inl rfl
   | some k =>
    refine .inr fun e => ?_
    obtain ⟨_, cs', h2⟩ := Iq hu hx;cases e;rw [hg] at h2;cases h2
  ·refine ⟨ho.os, ho.tape, ho.output, ho.size, fun i hi => hG i (by omega) (by omega), fun i cs e fz h1 h2 h3 h4 => (hG i (Ay h1) fun e => ?_).trans h1⟩;subst e;rw [hg] at h1;cases h1;exact h3 rfl
theorem Of {V : World} {a : Option Addr} {c : Nat} : Calls prog 85 #[.slice a 0 c] V fun e w' => e = .returned (.tuple #[]) ∧ w' = V := by
 go_enter func85, ntmps85;go_wp2_with fail;refine wp_loop_rounds 1 ?_;rw [rounds_succ];go_wp2_with fail;refine bodyPost_end (v := .tuple #[]) (by simp [results, results85, go_sem]) rfl ⟨rfl, rfl⟩
end
end Go.Proofs.YtoaplbljflhheaaGreat
