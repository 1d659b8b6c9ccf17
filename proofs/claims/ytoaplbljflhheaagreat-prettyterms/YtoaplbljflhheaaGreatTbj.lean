/-
 Contracts and plain facts on the way to PrettyTerms. Conditions: as each says.
-/
import Derived.IntWalk
import Derived.Test.YtoaplbljflhheaaGreatTbh
import Derived.Test.YtoaplbljflhheaaGreatTal
set_option maxHeartbeats 40000000
set_option maxRecDepth 100000
set_option linter.unusedVariables false
set_option linter.unusedSimpArgs false
namespace Go.Proofs.YtoaplbljflhheaaGreat
section
open Go.RowKit Go.Sort
end
end Go.Proofs.YtoaplbljflhheaaGreat
namespace Go.Proofs.YtoaplbljflhheaaGreat
section
open Go.RowKit Go.Sort
def b4k (w : World) (g : Nat) (L : List (FuncId × Pt)) : Prop := w.heap[g]? = some (.cells (L.map fun q => Value.func (.func q.1) #[] #[]).toArray 82 (0, 0))
theorem b4k.cell {w : World} {g : Nat} {L : List (FuncId × Pt)} (h : b4k w g L) {i : Nat} {q : FuncId × Pt} (hi : L[i]? = some q) : w.cell? ⟨g, i, none⟩ = some (.func (.func q.1) #[] #[]) := by
 rw [cell_of_row w g i _ 82 (0, 0) h]
 simp [hi]
theorem b4k.fr {w w' : World} {b g : Nat} {L : List (FuncId × Pt)} (h : b4k w g L) (hb : Fr b w w') (hg : g ≠ b) : b4k w' g L := hb.cells _ _ _ _ h hg (by decide)
end
end Go.Proofs.YtoaplbljflhheaaGreat
namespace Go.Proofs.YtoaplbljflhheaaGreat
section
open Go.RowKit Go.Sort
end
end Go.Proofs.YtoaplbljflhheaaGreat
namespace Go.Proofs.YtoaplbljflhheaaGreat
section
open Go.RowKit Go.Sort
def Wl (w : World) (a : Option Addr) (l : List Nd) : Prop := ∀ i, i < l.length → ∃ g o, a = some ⟨g, o, none⟩ ∧ At w g (o + i * 6) (nd l i)
theorem Wl.carry {w w' : World} {a : Option Addr} {l : List Nd} (h : Wl w a l) (hb : Below w.heap.size w w') : Wl w' a l := fun i hi => by
 obtain ⟨g, o, h1, h2⟩ := h i hi
 exact ⟨g, o, h1, h2.carry hb⟩
theorem a6b {w : World} {B g cap n : Nat} {D : List Nd} (h : Lg w B (.slice (some ⟨g, 0, none⟩) n cap) D) {i : Nat} {t : Nd} (hi : D[i]? = some t) : At w g (i * 6) t := by
 have hlt : i < D.length := (List.getElem?_eq_some_iff.1 hi).1
 have hc : ∀ j u, j < 6 → (Bs t)[j]? = some u → w.cell? ⟨g, i * 6 + j, none⟩ = some u := fun j u hj hu => by
  have := World.ownsRow.cells h (g := g) rfl (i * 6 + j) u (by
   have hD : D = D.take i ++ t :: D.drop (i + 1) := by
    rw [List.getElem?_eq_getElem hlt] at hi
    rw [← Option.some.inj hi]
    simp
   rw [hD, Fy, List.getElem?_append_right (by rw [Dc, List.length_take]; omega), Dc, List.length_take, show i * 6 + j - min i D.length * 6 = j by rw [Nat.min_eq_left (by omega)]; omega]
   unfold Cu
   rw [List.flatMap_cons, List.getElem?_append_left (by simp [Bs]; omega)]
   exact hu)
  rwa [Dj] at this
 exact ⟨by simpa using hc 0 _ (by decide) rfl, hc 1 _ (by decide) rfl, hc 2 _ (by decide) rfl, hc 3 _ (by decide) rfl, hc 4 _ (by decide) rfl, hc 5 _ (by decide) rfl⟩
theorem Tryz.elem23 : Tryz.prog.elem 22 = 37 := by kernel_rfl
theorem Tryz.size32 (w : World) : (sizeOf 37).run Tryz.prog w = .ok 6 w := by kernel_rfl
theorem a9y {w : World} {b tb to tc : Nat} {T : List Tok} {at_ : Nat} {d : Int} {v : Value} {D : List Nd} {F : Fo} (h : Rd w b tb to tc T at_ d v (D ++ F.post)) (dn : Nat) (hdn : D.length = dn) :
  ∃ a m cap a' cap', v = .slice a m cap ∧ (∀ w, (Instr.slice 22 (.slice a m cap) (some (.int .i64 dn)) none none).run Tryz.prog w = .ok (.slice a' F.cnt cap') w) ∧ Wl w a' F.post ∧ (dn : Int) ≤ m := by
 have ho := h.own
 have hlen : (D ++ F.post).length = dn + F.cnt := by rw [List.length_append, Au, hdn]
 rcases ho.2 with ⟨hv, h0⟩ | ⟨g, cap, cur, hv, hg, hh, hc1, hc2, hr⟩
 ·refine ⟨none, 0, 0, none, 0, hv, fun w => ?_, fun i hi => ?_, by omega⟩
  ·rw [run_slice_l w 22 none 0 0 Tryz.underlying22 .i64 dn (by omega) (by omega), Tryz.elem23, Tryz.size32]
   have : F.cnt = 0 := by omega
   simp [sliced, Result.andThen, this]
  ·rw [Au] at hi; omega
 ·rw [hlen] at hv hc1
  refine ⟨some ⟨g, 0, none⟩, dn + F.cnt, cap, if cap = dn then some ⟨g, 0, none⟩ else some ⟨g, dn * 6, none⟩, cap - dn, hv, fun w => ?_, fun i hi => ?_, by omega⟩
  ·rw [run_slice_l w 22 _ _ cap Tryz.underlying22 .i64 dn (by omega) (by omega), Tryz.elem23, Tryz.size32]
   simp only [Result.andThen, sliced]
   by_cases hcd : cap = dn
   ·simp [hcd]
   ·simp [hcd, Addr.add]
    try omega
  ·rw [Au] at hi
   have hcd : ¬ cap = dn := by omega
   refine ⟨g, dn * 6, by rw [if_neg hcd], ?_⟩
   rw [hv] at ho
   have := a6b ho (i := dn + i) (t := nd F.post i) (by
    rw [List.getElem?_append_right (by omega), hdn, show dn + i - dn = i by omega]
    unfold nd
    simp [List.getD, Au, hi])
   rwa [Nat.add_mul] at this
end
end Go.Proofs.YtoaplbljflhheaaGreat
namespace Go.Proofs.YtoaplbljflhheaaGreat
section
open Go.RowKit Go.Sort
end
end Go.Proofs.YtoaplbljflhheaaGreat
namespace Go.Proofs.YtoaplbljflhheaaGreat
section
open Go.RowKit Go.Sort
theorem a9s {w : World} {b tb to tc : Nat} {T : List Tok} {at_ d : Nat} {v : Value} {D : List Nd} {n : Nat} {ts : List Tok} (h : Sit w b tb to tc T at_ d v D n ts) (hk : (hd ts).kind = 8) : Calls Tryz.prog 63 #[pR b] w fun e w' => e = .returned (.bool true) ∧ Below w.heap.size w w' := by
 obtain ⟨⟨kd, ln, cl, nm, tx⟩, ht⟩ : ∃ t, hd ts = t := ⟨_, rfl⟩
 have H := zz (h.next_at ht w (Below.refl _ _))
 have hF := Un kd ln cl nm (bs tx)
 have k8 : ((kd : Int) == 8) = true := by rw [ht] at hk; simp at hk; rw [hk]; rfl
 clear h hk ht
 go_enter Tryz.func63, Tryz.ntmps63
 go_wp2_with fail
 refine H.out.mono ?_
 rintro e w1 ⟨rfl, hb⟩
 replace hb := zz hb
 go_wp2_with fail
 go_ret
 exact ⟨rfl, hb.out⟩
theorem b3r {w : World} {b tb to tc : Nat} {T : List Tok} {at_ d : Nat} {v : Value} {D : List Nd} {n : Nat} {ts : List Tok} (h : Sit w b tb to tc T at_ d v D n ts) (hk : ¬ (hd ts).kind = 8) : Calls Tryz.prog 63 #[pR b] w (b5r b w 5 (hd ts).line (hd ts).col) := by
 obtain ⟨⟨kd, ln, cl, nm, tx⟩, ht⟩ : ∃ t, hd ts = t := ⟨_, rfl⟩
 have H := zz (h.next_at ht w (Below.refl _ _))
 have HN := zz (fun (w' : World) (hb : Below w.heap.size w w') => K7 (h.rd.carry hb) h.next 5)
 have hF := Un kd ln cl nm (bs tx)
 have k8 : ((kd : Int) == 8) = false := by rw [ht] at hk; simp at hk; rw [beq_eq_false_iff_ne]; omega
 clear h hk ht
 go_enter Tryz.func63, Tryz.ntmps63
 go_wp2_with fail
 refine H.out.mono ?_
 rintro e w1 ⟨rfl, hb⟩
 replace hb := zz hb
 go_wp2_with fail
 refine (HN.out _ hb.out).mono ?_
 rintro e w2 ⟨rfl, h1, h2⟩
 replace h1 := zz h1
 replace h2 := zz h2
 go_wp2_with fail
 go_ret
 exact ⟨rfl, h1.out, (Onl.below hb.out).trans h2.out⟩
end
end Go.Proofs.YtoaplbljflhheaaGreat
