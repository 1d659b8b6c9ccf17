/-
 Contracts and plain facts on the way to PrettyBack. Conditions: as each says.
-/
import Derived.Test.YtoaplbljflhheaaGreatBbc
set_option maxHeartbeats 40000000
set_option maxRecDepth 100000
set_option linter.unusedVariables false
set_option linter.unusedSimpArgs false
namespace Go.Proofs.YtoaplbljflhheaaGreat
open _root_.Go.Proofs.Tryz
section
section
open Go.RowKit Go.Sort
def N5 (n : Nat) : List Nd := [⟨1, 0, 0, (n : Int) + 4, 0, { data := #[] }⟩, ⟨4, 0, 0, (n : Int) + 3, 0, { data := #[102] }⟩, ⟨14, 0, 0, 0, 0, { data := #[] }⟩, ⟨6, 0, 0, (n : Int) + 1, 0, { data := #[] }⟩, ⟨12, 0, 0, n, 0, { data := #[] }⟩]
theorem Nr {w : World} {g : Nat} {l : List Nd} (hwf : ∀ i, i < l.length -> (nd l i).wf) (h : ∀ j u, (Da l)[j]? = some u -> w.cell? ⟨g, j, none⟩ = some u) : Row w (some ⟨g, 0, none⟩) l := fun i hi => by
 have hD : l = l.take i ++ nd l i :: l.drop (i + 1) := by
  have : nd l i = l[i] := by simp [nd, List.getD_eq_getElem?_getD, List.getElem?_eq_getElem hi]
  rw [this];simp
 have e : ∀ j, j < 6 -> (Da l)[i * 6 + j]? = (Bn (nd l i))[j]? := fun j hj => by
  conv => lhs; rw [hD]
  rw [G0, List.getElem?_append_right (by rw [Dd, List.length_take]; omega), Dd, List.length_take, show i * 6 + j - min i l.length * 6 = j by rw [Nat.min_eq_left (by omega)]; omega];unfold Da;rw [List.flatMap_cons, List.getElem?_append_left (by simp [Bn]; omega)]
 have c := fun j (hj : j < 6) u (hu : (Bn (nd l i))[j]? = some u) => h (i * 6 + j) u (by rw [e j hj]; exact hu)
 exact ⟨g, 0, rfl, ⟨by rw [Nat.zero_add]; exact c 0 (by decide) _ rfl, by rw [Nat.zero_add]; exact c 1 (by decide) _ rfl, by rw [Nat.zero_add]; exact c 2 (by decide) _ rfl, by rw [Nat.zero_add]; exact c 3 (by decide) _ rfl, by rw [Nat.zero_add]; exact c 4 (by decide) _ rfl, by rw [Nat.zero_add]; exact c 5 (by decide) _ rfl⟩, hwf i hi⟩
theorem b32 {w : World} {B : Nat} {v : Value} {l : List Nd} (h : Ov w B v l) (hl : 0 < l.length) (hwf : ∀ i, i < l.length -> (nd l i).wf) : ∃ g cap, v = .slice (some ⟨g, 0, none⟩) l.length cap ∧ Row w (some ⟨g, 0, none⟩) l ∧ B <= g ∧ g < w.heap.size := by
 have hh := h.2;rcases hh with ⟨_, h0⟩ | ⟨g, cap, cur, hv, h2⟩
 ·omega
 ·have hlt := World.ownsRow.lt h g (by rw [hv]; rfl);refine ⟨g, cap, hv, Nr hwf fun j u hu => ?_, hlt⟩;have := World.ownsRow.cells h (g := g) (by rw [hv]; rfl) j u hu
  rwa [D7] at this
theorem a28 {w : World} {news : Array Value} {l : List Nd} (e : news.toList = Da l) (hwf : ∀ i, i < l.length -> (nd l i).wf) : Row (w.alloc (.cells news 37)) (some ⟨w.heap.size, 0, none⟩) l :=
 Nr hwf fun j u hu => by
  rw [<- e] at hu
  have hj : j < news.size := by
   have := (List.getElem?_eq_some_iff.1 hu).1;simpa using this
  simp at hu;simp [go_sem, hj] at hu ⊢;exact hu
theorem a11 {l : List Nd} (h : ∀ x ∈ l, x.wf) : ∀ i, i < l.length -> (nd l i).wf := fun i hi => by
 have : nd l i = l[i] := by simp [nd, List.getD_eq_getElem?_getD, List.getElem?_eq_getElem hi]
 rw [this];exact h _ (List.getElem_mem hi)
theorem a33 {w : World} {B B' : Nat} {v : Value} {l : List Nd} (h : Ov w B v l) (hb : B' <= B) : Ov w B' v l := ⟨h.1, h.2.imp id fun ⟨g, cap, cur, a, b, c⟩ => ⟨g, cap, cur, a, Nat.le_trans hb b, c⟩⟩
theorem c1n {k : Nat} {s : Int} {x : ByteArray} (hk : k < 256) (h1 : 0 <= s) (h2 : s <= 1000000) (hx : x.size <= 100) : Nd.wf ⟨k, 0, 0, s, 0, x⟩ :=
 ⟨hk, by show Bg 0; unfold Bg; omega, by show Bg 0; unfold Bg; omega, by show Bg s; unfold Bg; omega, by show Bg 0; unfold Bg; omega, by show x.size <= maxLen; unfold maxLen; omega⟩
theorem Yb {n : Nat} (hn : n <= 400000) : ∀ x ∈ N5 n, x.wf := fun x hx => by
 simp only [N5, List.mem_cons, List.not_mem_nil, or_false] at hx;rcases hx with rfl | rfl | rfl | rfl | rfl <;> exact c1n (by decide) (by omega) (by omega) (by decide)
theorem a1p {w : World} {a : Option Addr} {n cap : Nat} {l : List Nd} (hz : a = none -> n = 0 ∧ cap = 0) (hlen : l.length = n) (hn : n <= 400000) (hrow : Row w a l) :
  Calls prog 30 #[.slice a n cap] w (c20 w (N5 n ++ l)) := by
 have HZ := zz hz;have HL := zz hlen;have HR := zz hrow;have HB := zz (Aa w (.cells #[.int .u8 1, .int .i64 0, .int .i64 0, .int .i64 ((n : Int) + 4), .int .i64 0, .string { data := #[] }, .int .u8 4, .int .i64 0, .int .i64 0, .int .i64 ((n : Int) + 3), .int .i64 0, .string { data := #[102] }, .int .u8 14, .int .i64 0, .int .i64 0, .int .i64 0, .int .i64 0, .string { data := #[] }, .int .u8 6, .int .i64 0, .int .i64 0, .int .i64 ((n : Int) + 1), .int .i64 0, .string { data := #[] }, .int .u8 12, .int .i64 0, .int .i64 0, .int .i64 n, .int .i64 0, .string { data := #[] }] 37));have H1 := zz (a28 (w := w) (news := #[.int .u8 1, .int .i64 0, .int .i64 0, .int .i64 ((n : Int) + 4), .int .i64 0, .string { data := #[] }, .int .u8 4, .int .i64 0, .int .i64 0, .int .i64 ((n : Int) + 3), .int .i64 0, .string { data := #[102] }, .int .u8 14, .int .i64 0, .int .i64 0, .int .i64 0, .int .i64 0, .string { data := #[] }, .int .u8 6, .int .i64 0, .int .i64 0, .int .i64 ((n : Int) + 1), .int .i64 0, .string { data := #[] }, .int .u8 12, .int .i64 0, .int .i64 0, .int .i64 n, .int .i64 0, .string { data := #[] }]) (l := N5 n) rfl (a11 (Yb hn)));clear hz hlen hrow;go_enter func30, ntmps30;go_wp2_with fail;refine (a1k (b := w.heap.size + 1) (A1 := some ⟨w.heap.size, 0, none⟩) (n1 := 5) (c1 := 5) (A2 := a) (n2 := n) (c2 := cap) (l1 := N5 n) (l2 := l) (by simp [go_sem]) (by simp [go_sem]) (zz (fun e => by cases e)) (zz HZ.out) (zz rfl) (zz HL.out) (by decide) (by decide) (by omega) (zz (H1.out.carry (Aa _ _))) (zz ((HR.out.carry HB.out).carry (Aa _ _)))).mono ?_;rintro e w1 ⟨v, rfl, ho, hb⟩;have hb2 := Ab (Ab HB.out (Aa _ _)) hb;have ho2 : Ov w1 w.heap.size v (N5 n ++ l) := a33 ho (by simp; omega);clear hb ho;replace hb2 := zz hb2;replace ho2 := zz ho2;go_wp2_with fail;exact bodyPost_ret (by simp [results, results30, go_sem]) rfl ⟨_, rfl, ho2.out, hb2.out⟩
end
end
end Go.Proofs.YtoaplbljflhheaaGreat
