/-
 Contracts and plain facts on the way to PrettyBack. Conditions: as each says.
-/
import Derived.Deep.Slices
import Derived.Test.YtoaplbljflhheaaGreatBad
import Derived.Test.YtoaplbljflhheaaGreatBab
set_option maxHeartbeats 40000000
set_option maxRecDepth 100000
set_option linter.unusedVariables false
set_option linter.unusedSimpArgs false
namespace Go.Proofs.YtoaplbljflhheaaGreat
open _root_.Go.Proofs.Tryz
section
open Go.RowKit Go.Deep Go.ChangeShapes Go.WideShapes
theorem Zd {z : Int} (h : (Lit.int .i64 z).wf = true) : Bg z := by
 unfold Bg;simpa [Lit.wf, IntKind.min, IntKind.max, IntKind.signed, IntKind.bits] using h
theorem c1p {z : Int} (h : (Lit.int .u8 z).wf = true) : 0 <= z ∧ z < 256 := by
 have : 0 <= z ∧ z <= 255 := by simpa [Lit.wf, IntKind.min, IntKind.max, IntKind.signed, IntKind.bits] using h
 omega
section
variable {H : Type} {enc : TypeId × Value -> H} {w : World} {base : Nat} {spare : Nat -> Bool} {held : Bool}
theorem a38 {fuel : Nat} {cs : List Value} {x : DataW H × List MemPlace} (hl : cs.length = 6) (h : DataW.trod enc prog w base spare held fuel 37 cs = some x) : ∃ n : Nd, cs = Bn n ∧ n.wf := by
 obtain ⟨xs, m, _, _, _, hx, hf⟩ := DataW.trod_struct underlying37 h
 match cs, hl, xs, hx with
 | [c0, c1, c2, c3, c4, c5], _, [y0, y1, y2, y3, y4, y5], _ =>
  have e5 : prog.cellsOf 5 = 1 := by kernel_rfl
  have e3 : prog.cellsOf 3 = 1 := by kernel_rfl
  have e2 : prog.cellsOf 2 = 1 := by kernel_rfl
  have e9 : prog.cellsOf 9 = 1 := by kernel_rfl
  have f0 : DataW.trod enc prog w base spare held m 5 (([c0, c1, c2, c3, c4, c5].drop 0).take (prog.cellsOf 5)) = some y0 := hf 0 { name := "Kind", type := 5, offset := 0, embedded := false, tag := "", pkgPath := "", byteOffset := 0 } rfl;have f1 : DataW.trod enc prog w base spare held m 3 (([c0, c1, c2, c3, c4, c5].drop 1).take (prog.cellsOf 3)) = some y1 := hf 1 { name := "Line", type := 3, offset := 1, embedded := false, tag := "", pkgPath := "", byteOffset := 8 } rfl;have f2 : DataW.trod enc prog w base spare held m 3 (([c0, c1, c2, c3, c4, c5].drop 2).take (prog.cellsOf 3)) = some y2 := hf 2 { name := "Col", type := 3, offset := 2, embedded := false, tag := "", pkgPath := "", byteOffset := 16 } rfl;have f3 : DataW.trod enc prog w base spare held m 3 (([c0, c1, c2, c3, c4, c5].drop 3).take (prog.cellsOf 3)) = some y3 := hf 3 { name := "Size", type := 3, offset := 3, embedded := false, tag := "", pkgPath := "", byteOffset := 24 } rfl;have f4 : DataW.trod enc prog w base spare held m 2 (([c0, c1, c2, c3, c4, c5].drop 4).take (prog.cellsOf 2)) = some y4 := hf 4 { name := "Num", type := 2, offset := 4, embedded := false, tag := "", pkgPath := "", byteOffset := 32 } rfl;have f5 : DataW.trod enc prog w base spare held m 9 (([c0, c1, c2, c3, c4, c5].drop 5).take (prog.cellsOf 9)) = some y5 := hf 5 { name := "Text", type := 9, offset := 5, embedded := false, tag := "", pkgPath := "", byteOffset := 40 } rfl;rw [e5] at f0;rw [e3] at f1 f2 f3;rw [e2] at f4;rw [e9] at f5;obtain ⟨z0, a0, _, b0⟩ := DataW.trod_int underlying5 f0;obtain ⟨z1, a1, _, b1⟩ := DataW.trod_int underlying3 f1;obtain ⟨z2, a2, _, b2⟩ := DataW.trod_int underlying3 f2;obtain ⟨z3, a3, _, b3⟩ := DataW.trod_int underlying3 f3;obtain ⟨z4, a4, _, b4⟩ := DataW.trod_int underlying2 f4;obtain ⟨s, a5, _, b5⟩ := DataW.trod_string underlying9 f5;simp at a0 a1 a2 a3 a4 a5;subst a0 a1 a2 a3 a4 a5;have := c1p b0;refine ⟨⟨z0.toNat, z1, z2, z3, z4, s⟩, ?_, ⟨by show z0.toNat < 256; omega, Zd b1, Zd b2, Zd b3, Zd b4, b5⟩⟩;unfold Bn;simp only;rw [show ((z0.toNat : Nat) : Int) = z0 by omega]
theorem c03 {b o : Nat} {k j : Nat} : ((⟨b, o, none⟩ : Addr).add k).add j = ⟨b, o + k + j, none⟩ := by
 unfold Addr.add;split <;> split <;> simp_all
theorem a80 {fuel : Nat} {a : Option Addr} {len cap : Nat} {x : DataW H × List MemPlace} (h : DataW.trod enc prog w base spare held fuel 22 [.slice a len cap] = some x) : ∃ l : List Nd, l.length = len ∧ len <= maxLen ∧ Row w a l := by
 rcases open_slice underlying22 h with ⟨h0, _⟩ | ⟨a', len', cap', m, n, D, Pl, hcs, hb, hl, hm, hmm, _, hi⟩
 ·simp at h0;obtain ⟨rfl, rfl, rfl⟩ := h0;exact ⟨[], rfl, Nat.zero_le _, fun i hi => by simp at hi⟩
 ·simp at hcs;obtain ⟨rfl, rfl, rfl⟩ := hcs;have hlm : len <= m := by rw [hmm]; split <;> omega
  have e31 : prog.cellsOf 37 = 6 := by kernel_rfl
  rw [e31] at hi
  have hex : ∀ i, i < len -> ∃ nn : Nd, (∀ j, j < 6 -> w.cell? ((a'.add (i * 6)).add j) = (Bn nn)[j]?) ∧ nn.wf := by
   intro i hil;obtain ⟨cs', hc, ht⟩ := hi i (by omega);obtain ⟨_, hcl, hat⟩ := World.cells?_some hc;obtain ⟨nn, rfl, hw⟩ := a38 hcl ht;exact ⟨nn, hat, hw⟩
  haveI : Inhabited Nd := ⟨nd0⟩
  obtain ⟨F, hF⟩ := choose_lt hex;refine ⟨(List.range len).map F, by simp, by omega, fun i hil => ?_⟩;have hil' : i < len := by simpa using hil
  have hnd : nd ((List.range len).map F) i = F i := by simp [nd, List.getD, hil']
  obtain ⟨hc, hw⟩ := hF i hil'
  have hspot : a'.spot = none := by
   have h0 := hF 0 (by omega);have := h0.1 0 (by omega);rw [show (Bn (F 0))[0]? = some (.int .u8 ((F 0).kind : Nat)) from rfl] at this;have := World.cell?_spot this;simpa [Addr.add] using this
  obtain ⟨b, o, sp⟩ := a';simp only at hspot;subst hspot;simp only [c03] at hc;refine ⟨b, o, rfl, ?_, by rw [hnd]; exact hw⟩;rw [hnd];exact ⟨hc 0 (by omega), hc 1 (by omega), hc 2 (by omega), hc 3 (by omega), hc 4 (by omega), hc 5 (by omega)⟩
end
end
end Go.Proofs.YtoaplbljflhheaaGreat
