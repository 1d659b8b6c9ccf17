/-
  Arguments opened: rows of values, values, operations, rows of operations, rows of objects. Conditions: none.
-/
import Derived.Test.YtfeeikajekemlaaOc
import Derived.Deep.Slices
namespace Go.Proofs.Ytfeeikajekemlaa
open Go.RowKit Go.Deep Go.ChangeShapes Go.WideShapes
set_option linter.unusedVariables false
set_option linter.unusedSimpArgs false

section
variable {H : Type} {enc : TypeId × Value → H} {w : World} {base : Nat} {spare : Nat → Bool} {held : Bool}

theorem u8_wf {z : Int} (h : (Lit.int .u8 z).wf = true) : 0 ≤ z ∧ z < 256 := by
  have : 0 ≤ z ∧ z ≤ 255 := by simpa [Lit.wf, IntKind.min, IntKind.max, IntKind.signed, IntKind.bits] using h
  omega

theorem open_val {fuel : Nat} {cs : List Value} {x : DataW H × List MemPlace} (hl : cs.length = 4) (h : DataW.trod enc Try.prog w base spare held fuel 35 cs = some x) : ∃ v : Vl, cs = vlCells v := by
  obtain ⟨xs, m, _, _, _, hx, hf⟩ := DataW.trod_struct Try.underlying35 h
  match cs, hl, xs, hx with
  | [c0, c1, c2, c3], _, [y0, y1, y2, y3], _ =>
    have e5 : Try.prog.cellsOf 5 = 1 := by kernel_rfl
    have e2 : Try.prog.cellsOf 2 = 1 := by kernel_rfl
    have f0 : DataW.trod enc Try.prog w base spare held m 5 (([c0, c1, c2, c3].drop 0).take (Try.prog.cellsOf 5)) = some y0 := hf 0 { name := "Kind", type := 5, offset := 0, embedded := false, tag := "", pkgPath := "", byteOffset := 0 } rfl
    have f1 : DataW.trod enc Try.prog w base spare held m 2 (([c0, c1, c2, c3].drop 1).take (Try.prog.cellsOf 2)) = some y1 := hf 1 { name := "N", type := 2, offset := 1, embedded := false, tag := "", pkgPath := "", byteOffset := 8 } rfl
    have f2 : DataW.trod enc Try.prog w base spare held m 2 (([c0, c1, c2, c3].drop 2).take (Try.prog.cellsOf 2)) = some y2 := hf 2 { name := "Re", type := 2, offset := 2, embedded := false, tag := "", pkgPath := "", byteOffset := 16 } rfl
    have f3 : DataW.trod enc Try.prog w base spare held m 2 (([c0, c1, c2, c3].drop 3).take (Try.prog.cellsOf 2)) = some y3 := hf 3 { name := "Im", type := 2, offset := 3, embedded := false, tag := "", pkgPath := "", byteOffset := 24 } rfl
    rw [e5] at f0
    rw [e2] at f1 f2 f3
    obtain ⟨z0, a0, _, b0⟩ := DataW.trod_int Try.underlying5 f0
    obtain ⟨z1, a1, _, _⟩ := DataW.trod_int Try.underlying2 f1
    obtain ⟨z2, a2, _, _⟩ := DataW.trod_int Try.underlying2 f2
    obtain ⟨z3, a3, _, _⟩ := DataW.trod_int Try.underlying2 f3
    simp at a0 a1 a2 a3
    subst a0 a1 a2 a3
    have := u8_wf b0
    refine ⟨⟨z0.toNat, z1, z2, z3⟩, ?_⟩
    unfold vlCells
    simp only
    rw [show ((z0.toNat : Nat) : Int) = z0 by omega]

theorem at_add {b o : Nat} {k j : Nat} : ((⟨b, o, none⟩ : Addr).add k).add j = ⟨b, o + k + j, none⟩ := by
  unfold Addr.add
  split <;> split <;> simp_all

theorem open_vals {fuel : Nat} {a : Option Addr} {len cap : Nat} {x : DataW H × List MemPlace} (h : DataW.trod enc Try.prog w base spare held fuel 36 [.slice a len cap] = some x) : ∃ l : List Vl, l.length = len ∧ (a = none → len = 0 ∧ cap = 0) ∧ RV (fun _ => True) w a l := by
  rcases open_slice Try.underlying36 h with ⟨h0, _⟩ | ⟨a', len', cap', m, n, D, Pl, hcs, hb, hl, hm, hmm, _, hi⟩
  · simp at h0
    obtain ⟨rfl, rfl, rfl⟩ := h0
    exact ⟨[], rfl, fun _ => ⟨rfl, rfl⟩, rv_nil⟩
  · simp at hcs
    obtain ⟨rfl, rfl, rfl⟩ := hcs
    have hlm : len ≤ m := by rw [hmm]; split <;> omega
    have e35 : Try.prog.cellsOf 35 = 4 := by kernel_rfl
    rw [e35] at hi
    have hex : ∀ i, i < len → ∃ nn : Vl, ∀ j, j < 4 → w.cell? ((a'.add (i * 4)).add j) = (vlCells nn)[j]? := by
      intro i hil
      obtain ⟨cs', hc, ht⟩ := hi i (by omega)
      obtain ⟨_, hcl, hat⟩ := World.cells?_some hc
      obtain ⟨nn, rfl⟩ := open_val hcl ht
      exact ⟨nn, hat⟩
    haveI : Inhabited Vl := ⟨v0⟩
    obtain ⟨F, hF⟩ := choose_lt hex
    refine ⟨(List.range len).map F, by simp, (fun e => by cases e), fun i hil => ?_⟩
    have hil' : i < len := by simpa using hil
    have hnd : vl ((List.range len).map F) i = F i := by simp [vl, List.getD, hil']
    have hc := hF i hil'
    have hspot : a'.spot = none := by
      have h0 := hF 0 (by omega)
      have := h0 0 (by omega)
      rw [show (vlCells (F 0))[0]? = some (.int .u8 ((F 0).kind : Nat)) from rfl] at this
      have := World.cell?_spot this
      simpa [Addr.add] using this
    obtain ⟨b, o, sp⟩ := a'
    simp only at hspot
    subst hspot
    simp only [at_add] at hc
    refine ⟨b, o, rfl, trivial, ?_⟩
    rw [hnd]
    exact ⟨hc 0 (by omega), hc 1 (by omega), hc 2 (by omega), hc 3 (by omega)⟩

/-- One operation out of its thirteen cells. -/
theorem open_op {fuel : Nat} {cs : List Value} {x : DataW H × List MemPlace} (hl : cs.length = 13) (h : DataW.trod enc Try.prog w base spare held fuel 38 cs = some x) :
    ∃ (o : Op) (a : Option Addr) (n c : Nat), cs = opCells o a n c ∧ o.vals.length = n ∧ (a = none → n = 0 ∧ c = 0) ∧ RV (fun _ => True) w a o.vals := by
  obtain ⟨xs, m, _, _, _, hx, hf⟩ := DataW.trod_struct Try.underlying38 h
  match cs, hl, xs, hx with
  | [c0, c1, c2, c3, c4, c5, c6, c7, c8, c9, c10, c11, c12], _, [y0, y1, y2, y3, y4, y5, y6], _ =>
    have e3 : Try.prog.cellsOf 3 = 1 := by kernel_rfl
    have e2 : Try.prog.cellsOf 2 = 1 := by kernel_rfl
    have e9 : Try.prog.cellsOf 9 = 1 := by kernel_rfl
    have e35 : Try.prog.cellsOf 35 = 4 := by kernel_rfl
    have e36 : Try.prog.cellsOf 36 = 1 := by kernel_rfl
    have f0 : DataW.trod enc Try.prog w base spare held m 3 (([c0, c1, c2, c3, c4, c5, c6, c7, c8, c9, c10, c11, c12].drop 0).take (Try.prog.cellsOf 3)) = some y0 := hf 0 { name := "Kind", type := 3, offset := 0, embedded := false, tag := "", pkgPath := "", byteOffset := 0 } rfl
    have f1 : DataW.trod enc Try.prog w base spare held m 3 (([c0, c1, c2, c3, c4, c5, c6, c7, c8, c9, c10, c11, c12].drop 1).take (Try.prog.cellsOf 3)) = some y1 := hf 1 { name := "Of", type := 3, offset := 1, embedded := false, tag := "", pkgPath := "", byteOffset := 8 } rfl
    have f2 : DataW.trod enc Try.prog w base spare held m 2 (([c0, c1, c2, c3, c4, c5, c6, c7, c8, c9, c10, c11, c12].drop 2).take (Try.prog.cellsOf 2)) = some y2 := hf 2 { name := "N", type := 2, offset := 2, embedded := false, tag := "", pkgPath := "", byteOffset := 16 } rfl
    have f3 : DataW.trod enc Try.prog w base spare held m 9 (([c0, c1, c2, c3, c4, c5, c6, c7, c8, c9, c10, c11, c12].drop 3).take (Try.prog.cellsOf 9)) = some y3 := hf 3 { name := "Text", type := 9, offset := 3, embedded := false, tag := "", pkgPath := "", byteOffset := 24 } rfl
    have f4 : DataW.trod enc Try.prog w base spare held m 35 (([c0, c1, c2, c3, c4, c5, c6, c7, c8, c9, c10, c11, c12].drop 4).take (Try.prog.cellsOf 35)) = some y4 := hf 4 { name := "V", type := 35, offset := 4, embedded := false, tag := "", pkgPath := "", byteOffset := 40 } rfl
    have f5 : DataW.trod enc Try.prog w base spare held m 35 (([c0, c1, c2, c3, c4, c5, c6, c7, c8, c9, c10, c11, c12].drop 8).take (Try.prog.cellsOf 35)) = some y5 := hf 5 { name := "X", type := 35, offset := 8, embedded := false, tag := "", pkgPath := "", byteOffset := 72 } rfl
    have f6 : DataW.trod enc Try.prog w base spare held m 36 (([c0, c1, c2, c3, c4, c5, c6, c7, c8, c9, c10, c11, c12].drop 12).take (Try.prog.cellsOf 36)) = some y6 := hf 6 { name := "Vals", type := 36, offset := 12, embedded := false, tag := "", pkgPath := "", byteOffset := 104 } rfl
    rw [e3] at f0 f1
    rw [e2] at f2
    rw [e9] at f3
    rw [e35] at f4 f5
    rw [e36] at f6
    obtain ⟨z0, a0, _, _⟩ := DataW.trod_int Try.underlying3 f0
    obtain ⟨z1, a1, _, _⟩ := DataW.trod_int Try.underlying3 f1
    obtain ⟨z2, a2, _, _⟩ := DataW.trod_int Try.underlying2 f2
    obtain ⟨s, a3, _, _⟩ := DataW.trod_string Try.underlying9 f3
    obtain ⟨v, a4⟩ := open_val (by simp) f4
    obtain ⟨u, a5⟩ := open_val (by simp) f5
    simp [vlCells] at a0 a1 a2 a3 a4 a5
    obtain ⟨rfl, rfl, rfl, rfl⟩ := a4
    obtain ⟨rfl, rfl, rfl, rfl⟩ := a5
    subst a0 a1 a2 a3
    have f6' : DataW.trod enc Try.prog w base spare held m 36 [c12] = some y6 := by simpa using f6
    have hsl : ∃ a n c, c12 = .slice a n c := by
      rcases open_slice Try.underlying36 f6' with ⟨h0, _⟩ | ⟨a', len', cap', m, n, D, Pl, hcs, _⟩
      · simp at h0; exact ⟨none, 0, 0, h0⟩
      · simp at hcs; exact ⟨some a', len', cap', hcs⟩
    obtain ⟨a, n, c, rfl⟩ := hsl
    obtain ⟨l, hl, hz, hr⟩ := open_vals f6'
    exact ⟨⟨z0, z1, z2, s, v, u, l⟩, a, n, c, rfl, hl, hz, hr⟩

def op0 : Op := ⟨0, 0, 0, { data := #[] }, v0, v0, []⟩
theorem opCells_get (o : Op) (a : Option Addr) (n c j : Nat) (hj : j < 13) : (opCells o a n c)[j]? = some (opF o a n c j) := by
  have hlen : (opCells o a n c).length = 13 := rfl
  unfold opF
  rw [List.getD_eq_getElem?_getD, List.getElem?_eq_getElem (by omega)]
  rfl
theorem open_ops {fuel : Nat} {a : Option Addr} {len cap : Nat} {x : DataW H × List MemPlace} (h : DataW.trod enc Try.prog w base spare held fuel 22 [.slice a len cap] = some x) : ∃ l : List Op, l.length = len ∧ RP w a l op0 := by
  rcases open_slice Try.underlying22 h with ⟨h0, _⟩ | ⟨a', len', cap', m, n, D, Pl, hcs, hb, hl, hm, hmm, _, hi⟩
  · simp at h0
    obtain ⟨rfl, rfl, rfl⟩ := h0
    exact ⟨[], rfl, fun i hi => by simp at hi⟩
  · simp at hcs
    obtain ⟨rfl, rfl, rfl⟩ := hcs
    have hlm : len ≤ m := by rw [hmm]; split <;> omega
    have e38 : Try.prog.cellsOf 38 = 13 := by kernel_rfl
    rw [e38] at hi
    have hex : ∀ i, i < len → ∃ nn : Op, ∃ ad n c, (∀ j, j < 13 → w.cell? ((a'.add (i * 13)).add j) = (opCells nn ad n c)[j]?) ∧ nn.vals.length = n ∧ (ad = none → n = 0 ∧ c = 0) ∧ RV (fun _ => True) w ad nn.vals := by
      intro i hil
      obtain ⟨cs', hc, ht⟩ := hi i (by omega)
      obtain ⟨_, hcl, hat⟩ := World.cells?_some hc
      obtain ⟨nn, ad, n, c, rfl, h1, h2, h3⟩ := open_op hcl ht
      exact ⟨nn, ad, n, c, hat, h1, h2, h3⟩
    haveI : Inhabited Op := ⟨op0⟩
    obtain ⟨F, hF⟩ := choose_lt hex
    refine ⟨(List.range len).map F, by simp, fun i hil => ?_⟩
    have hil' : i < len := by simpa using hil
    have hnd : ((List.range len).map F).getD i op0 = F i := by simp [List.getD, hil']
    obtain ⟨ad, n, c, hc, h1, h2, h3⟩ := hF i hil'
    have hspot : a'.spot = none := by
      obtain ⟨ad0, n0, c0, h0, _⟩ := hF 0 (by omega)
      have := h0 0 (by omega)
      rw [show (opCells (F 0) ad0 n0 c0)[0]? = some (.int .i64 (F 0).kind) from rfl] at this
      have := World.cell?_spot this
      simpa [Addr.add] using this
    obtain ⟨b, o, sp⟩ := a'
    simp only at hspot
    subst hspot
    simp only [at_add] at hc
    refine ⟨b, o, ad, n, c, rfl, ?_, ?_, h2, ?_⟩
    · rw [hnd]
      exact ⟨fun j hj => by rw [hc j hj, opCells_get _ _ _ _ _ hj]⟩
    · rw [hnd]; exact h1
    · rw [hnd]; exact h3
end

end Go.Proofs.Ytfeeikajekemlaa
