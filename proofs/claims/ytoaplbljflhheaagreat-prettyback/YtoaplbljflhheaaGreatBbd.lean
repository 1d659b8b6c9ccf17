/-
 Contracts and plain facts on the way to PrettyBack. Conditions: as each says.
-/
import Derived.MapKept
import Derived.Test.YtoaplbljflhheaaGreatBaz
set_option maxHeartbeats 40000000
set_option maxRecDepth 100000
set_option linter.unusedVariables false
set_option linter.unusedSimpArgs false
namespace Go.Proofs.YtoaplbljflhheaaGreat
open _root_.Go.Proofs.Tryz
section
open Go.RowKit Go.Sort
def sgT (k : Nat) : Array MapEntry := (sgM.toList.take k).toArray
theorem a40 (n : Int) : MapKept.IsKey (.int .i64) (.int .i64 n) := by simp [MapKept.IsKey]
theorem a21 (w : World) : (Instr.makeMap 61 none).run prog w = .ok (.map (some w.heap.size)) (w.alloc (.map (sgT 0) 0)) := rfl
theorem a2r (w : World) (o o' : Obj) : ({ w.alloc o with heap := (w.alloc o).heap.setIfInBounds w.heap.size o' } : World) = w.alloc o' := by
 have h : (w.heap.push o).setIfInBounds w.heap.size o' = w.heap.push o' := by
  apply Array.ext';simp
 show ({ w with heap := (w.heap.push o).setIfInBounds w.heap.size o' } : World) = { w with heap := w.heap.push o' };rw [h]
theorem C7 (w : World) (k : Nat) (n : Int) (V : Value) (hf : Instr.findNow (.int .i64) (.int .i64 n) (sgT k).toList 0 = some none) (hp : (sgT k).push { key := .int .i64 n, val := V, born := k } = sgT (k + 1)) :
  (Instr.mapUpdate 61 (.map (some w.heap.size)) (.int .i64 n) V).run prog (w.alloc (.map (sgT k) k)) = .ok () (w.alloc (.map (sgT (k + 1)) (k + 1))) := by
 have hb : (w.alloc (.map (sgT k) k)).heap[w.heap.size]? = some (.map (sgT k) k) := (MapKept.heap_alloc w _).1;simp [Instr.mapUpdate, run_underlying underlying61, MapKept.run_getObj_map hb, MapKept.run_checkKey underlying2 (a40 n), MapKept.run_findKey underlying2 hf, MapKept.run_setObj_map _ hb, Result.andThen, hp];exact a2r w _ _
theorem a2p (w : World) : Calls prog 46 #[] w fun e w' => e = .returned (.map (some w.heap.size)) ∧ w' = w.alloc (.map sgM 15) := by
 have h0 := a21 w;have h1 := C7 w 0 15 (.agg #[.string { data := #[124, 124] }, .int .i64 1]) (by rfl) (by rfl);have h2 := C7 w 1 14 (.agg #[.string { data := #[38, 38] }, .int .i64 2]) (by rfl) (by rfl);have h3 := C7 w 2 6 (.agg #[.string { data := #[61, 61] }, .int .i64 3]) (by rfl) (by rfl);have h4 := C7 w 3 7 (.agg #[.string { data := #[33, 61] }, .int .i64 3]) (by rfl) (by rfl);have h5 := C7 w 4 8 (.agg #[.string { data := #[60] }, .int .i64 4]) (by rfl) (by rfl);have h6 := C7 w 5 9 (.agg #[.string { data := #[60, 61] }, .int .i64 4]) (by rfl) (by rfl);have h7 := C7 w 6 10 (.agg #[.string { data := #[62] }, .int .i64 4]) (by rfl) (by rfl);have h8 := C7 w 7 11 (.agg #[.string { data := #[62, 61] }, .int .i64 4]) (by rfl) (by rfl);have h9 := C7 w 8 1 (.agg #[.string { data := #[43] }, .int .i64 5]) (by rfl) (by rfl);have h10 := C7 w 9 2 (.agg #[.string { data := #[45] }, .int .i64 5]) (by rfl) (by rfl);have h11 := C7 w 10 3 (.agg #[.string { data := #[42] }, .int .i64 6]) (by rfl) (by rfl);have h12 := C7 w 11 4 (.agg #[.string { data := #[47] }, .int .i64 6]) (by rfl) (by rfl);have h13 := C7 w 12 5 (.agg #[.string { data := #[37] }, .int .i64 6]) (by rfl) (by rfl);have h14 := C7 w 13 12 (.agg #[.string { data := #[45] }, .int .i64 7]) (by rfl) (by rfl);have h15 := C7 w 14 13 (.agg #[.string { data := #[33] }, .int .i64 7]) (by rfl) (by rfl);go_enter func46, ntmps46;go_wp2;go_ret;exact ⟨rfl, rfl⟩
theorem a5o {n : Int} (h : n ∈ sgE.map (·.1)) : ∃ j, Instr.findNow (.int .i64) (.int .i64 n) sgM.toList 0 = some (some (j, sgV n)) := by
 simp only [sgE, List.map_cons, List.map_nil, List.mem_cons, List.not_mem_nil, or_false] at h;rcases h with rfl | rfl | rfl | rfl | rfl | rfl | rfl | rfl | rfl | rfl | rfl | rfl | rfl | rfl | rfl <;> exact ⟨_, rfl⟩
theorem Pu {w : World} {mb : Nat} {n : Int} (hb : w.heap[mb]? = some (.map sgM 15)) (h : n ∈ sgE.map (·.1)) : (Instr.lookup 61 (.map (some mb)) (.int .i64 n) false).run prog w = .ok (sgV n) w := by
 obtain ⟨j, hj⟩ := a5o h;simp [Instr.lookup, run_underlying underlying61, MapKept.run_getObj_map hb, MapKept.run_checkKey underlying2 (a40 n), MapKept.run_findKey underlying2 hj, Result.andThen]
end
section
open Go.RowKit Go.Sort
def sgm (n i e : Nat) : Nat := if e < i ∨ n <= e + i then n - 1 - e else e
def Gk (cur : Array Value) (o n i p : Nat) : Option Value := if o <= p ∧ p < o + n * 4 then cur[o + sgm n i ((p - o) / 4) * 4 + (p - o) % 4]? else cur[p]?
theorem Wb (cur : Array Value) (o n p : Nat) : Gk cur o n 0 p = cur[p]? := by
 unfold Gk sgm;split
 ·rename_i h;rw [if_neg (by omega)];congr 1; omega
 ·rfl
theorem Ii {cur : Array Value} {o n i e c : Nat} (he : e < n) (hc : c < 4) : Gk cur o n i (o + e * 4 + c) = cur[o + sgm n i e * 4 + c]? := by
 unfold Gk;rw [if_pos (by omega), show (o + e * 4 + c - o) / 4 = e by omega, show (o + e * 4 + c - o) % 4 = c by omega]
theorem Tt {cur : Array Value} {o n i j p : Nat} (hj : j + i + 1 = n) (hi : i < j) (h1 : ¬ (o + i * 4 <= p ∧ p < o + i * 4 + 4)) (h2 : ¬ (o + j * 4 <= p ∧ p < o + j * 4 + 4)) : Gk cur o n (i + 1) p = Gk cur o n i p := by
 unfold Gk;by_cases h : o <= p ∧ p < o + n * 4
 ·rw [if_pos h, if_pos h];congr 2;unfold sgm;have e1 : (p - o) / 4 ≠ i := by omega
  have e2 : (p - o) / 4 ≠ j := by omega
  by_cases h3 : (p - o) / 4 < i ∨ n <= (p - o) / 4 + i
  ·rw [if_pos h3, if_pos (by omega)]
  ·rw [if_neg h3, if_neg (by omega)]
 ·rw [if_neg h, if_neg h]
def a66 (cs : Array Value) (p : Nat) (v0 v1 v2 v3 : Value) : Array Value := (((cs.setIfInBounds p v0).setIfInBounds (p + 1) v1).setIfInBounds (p + 2) v2).setIfInBounds (p + 3) v3
theorem O7 (cs : Array Value) (p : Nat) (v0 v1 v2 v3 : Value) : (a66 cs p v0 v1 v2 v3).size = cs.size := by simp [a66]
theorem Yk {cs : Array Value} {p : Nat} {v0 v1 v2 v3 : Value} (h : p + 3 < cs.size) (q : Nat) : (a66 cs p v0 v1 v2 v3)[q]? = if q = p then some v0 else if q = p + 1 then some v1 else if q = p + 2 then some v2 else if q = p + 3 then some v3 else cs[q]? := by
 unfold a66;simp only [Array.getElem?_setIfInBounds, Array.size_setIfInBounds];by_cases e0 : q = p
 ·subst e0;rw [if_pos rfl, if_neg (by omega), if_neg (by omega), if_neg (by omega), if_pos rfl, if_pos (by omega)]
 ·by_cases e1 : q = p + 1
  ·subst e1;rw [if_neg e0, if_pos rfl, if_neg (by omega), if_neg (by omega), if_pos rfl, if_pos (by omega)]
  ·by_cases e2 : q = p + 2
   ·subst e2;rw [if_neg e0, if_neg e1, if_pos rfl, if_neg (by omega), if_pos rfl, if_pos (by omega)]
   ·by_cases e3 : q = p + 3
    ·subst e3;rw [if_neg e0, if_neg e1, if_neg e2, if_pos rfl, if_pos rfl, if_pos (by omega)]
    ·rw [if_neg e0, if_neg e1, if_neg e2, if_neg e3, if_neg (by omega), if_neg (by omega), if_neg (by omega), if_neg (by omega)]
theorem Wc {cur cs : Array Value} {o n i j : Nat} (hj : j + i + 1 = n) (hi : i < j) (hs : o + n * 4 <= cs.size) (h : ∀ p, cs[p]? = Gk cur o n i p) {a0 a1 a2 a3 b0 b1 b2 b3 : Value}
  (ha0 : cs[o + i * 4]? = some a0) (ha1 : cs[o + i * 4 + 1]? = some a1) (ha2 : cs[o + i * 4 + 2]? = some a2) (ha3 : cs[o + i * 4 + 3]? = some a3)
  (hb0 : cs[o + j * 4]? = some b0) (hb1 : cs[o + j * 4 + 1]? = some b1) (hb2 : cs[o + j * 4 + 2]? = some b2) (hb3 : cs[o + j * 4 + 3]? = some b3) (p : Nat) :
  (a66 (a66 cs (o + i * 4) b0 b1 b2 b3) (o + j * 4) a0 a1 a2 a3)[p]? = Gk cur o n (i + 1) p := by
 rw [Yk (by rw [O7]; omega), Yk (by omega)];have si : sgm n (i + 1) i = j := by unfold sgm; rw [if_pos (by omega)]; omega
 have sj : sgm n (i + 1) j = i := by unfold sgm; rw [if_pos (by omega)]; omega
 have ti : sgm n i i = i := by unfold sgm; rw [if_neg (by omega)]
 have tj : sgm n i j = j := by unfold sgm; rw [if_neg (by omega)]
 have A : ∀ c, c < 4 -> Gk cur o n (i + 1) (o + i * 4 + c) = cs[o + j * 4 + c]? := fun c hc => by rw [Ii (by omega) hc, si, h, Ii (by omega) hc, tj]
 have B : ∀ c, c < 4 -> Gk cur o n (i + 1) (o + j * 4 + c) = cs[o + i * 4 + c]? := fun c hc => by rw [Ii (by omega) hc, sj, h, Ii (by omega) hc, ti]
 by_cases e1 : o + j * 4 <= p ∧ p < o + j * 4 + 4
 ·have : p = o + j * 4 ∨ p = o + j * 4 + 1 ∨ p = o + j * 4 + 2 ∨ p = o + j * 4 + 3 := by omega
  rcases this with rfl | rfl | rfl | rfl
  ·rw [if_pos rfl, <- ha0]; exact (B 0 (by omega)).symm
  ·rw [if_neg (by omega), if_pos rfl, <- ha1]; exact (B 1 (by omega)).symm
  ·rw [if_neg (by omega), if_neg (by omega), if_pos rfl, <- ha2]; exact (B 2 (by omega)).symm
  ·rw [if_neg (by omega), if_neg (by omega), if_neg (by omega), if_pos rfl, <- ha3]; exact (B 3 (by omega)).symm
 ·rw [if_neg (by omega), if_neg (by omega), if_neg (by omega), if_neg (by omega)];by_cases e2 : o + i * 4 <= p ∧ p < o + i * 4 + 4
  ·have : p = o + i * 4 ∨ p = o + i * 4 + 1 ∨ p = o + i * 4 + 2 ∨ p = o + i * 4 + 3 := by omega
   rcases this with rfl | rfl | rfl | rfl
   ·rw [if_pos rfl, <- hb0]; exact (A 0 (by omega)).symm
   ·rw [if_neg (by omega), if_pos rfl, <- hb1]; exact (A 1 (by omega)).symm
   ·rw [if_neg (by omega), if_neg (by omega), if_pos rfl, <- hb2]; exact (A 2 (by omega)).symm
   ·rw [if_neg (by omega), if_neg (by omega), if_neg (by omega), if_pos rfl, <- hb3]; exact (A 3 (by omega)).symm
  ·rw [if_neg (by omega), if_neg (by omega), if_neg (by omega), if_neg (by omega), h, Tt hj hi e2 e1]
def c2y (w : World) (g o n : Nat) (cur : Array Value) (i j : Value) (wr : World) : Prop :=
 ∃ k : Nat, 2 * k <= n ∧ i = .int .i64 k ∧ j = .int .i64 ((n : Int) - 1 - k) ∧ Onl g w wr ∧ ∃ cs, wr.heap[g]? = some (.cells cs 71 (0, 0)) ∧ cs.size = cur.size ∧ ∀ p, cs[p]? = Gk cur o n k p
theorem T8 {w : World} {g p : Nat} {cs : Array Value} {v0 v1 v2 v3 : Value} (h : w.heap[g]? = some (.cells cs 71 (0, 0))) :
  ((((w.setCell ⟨g, p, none⟩ v0).setCell ⟨g, p + 1, none⟩ v1).setCell ⟨g, p + 2, none⟩ v2).setCell ⟨g, p + 3, none⟩ v3).heap[g]? = some (.cells (a66 cs p v0 v1 v2 v3) 71 (0, 0)) := by
 simp [World.setCell, Array.getElem?_modify, h, a66]
theorem a1h (w : World) : w.drew.heap = w.heap := rfl
theorem Onl.put {b : Nat} {w x : World} (h : Onl b w x) (o : Nat) (u : Value) : Onl b w (x.setCell ⟨b, o, none⟩ u) := h.trans (Onl.set b x o u)
theorem a83 {b : Nat} {w x : World} (h : Onl b w x) : Onl b w x.drew := ⟨h.os, h.tape, h.output, h.size, h.block⟩
def IsP (cur : Array Value) (q : Nat) : Prop := ∃ s a k t, cur[q]? = some (.string s) ∧ cur[q + 1]? = some (.int .i64 a) ∧ cur[q + 2]? = some (.int .i64 k) ∧ cur[q + 3]? = some (.int .i64 t)
theorem b36 {w : World} {g o n cap : Nat} {cur : Array Value} (hg : Hid (w.heap[g]? = some (.cells cur 71 (0, 0)))) (hsz : Hid (o + n * 4 <= cur.size)) (hn : n <= 100000000) (hp : Hid (∀ i, i < n -> IsP cur (o + i * 4))) :
  Calls prog 85 #[.slice (some ⟨g, o, none⟩) n cap] w fun e w' => e = .returned (.tuple #[]) ∧ Onl g w w' ∧ ∃ cs k, w'.heap[g]? = some (.cells cs 71 (0, 0)) ∧ cs.size = cur.size ∧ n <= 2 * k + 1 ∧ 2 * k <= n ∧ ∀ p, cs[p]? = Gk cur o n k p := by
 have hw0 : IntKind.i64.wrap ((n : Int) - 1) = (n : Int) - 1 := by rw [IntKind.wrap_i64]; omega
 go_enter func85, ntmps85;go_wp2_with fail
 go_loopw [2, 3] (fun i j wr => c2y w g o n cur i j wr) (fun i _ _ => n - 2 * (intOf i).toNat)
 case atStart => exact ⟨0, by omega, rfl, by simp, Onl.refl _ _, cur, hg.out, rfl, fun p => (Wb cur o n p).symm⟩
 case round =>
  obtain ⟨k, hk, rfl, rfl, honl, cs, hh, hsz2, hcs⟩ := hrel;by_cases hlt : 2 * k + 1 < n
  ·obtain ⟨j, hj⟩ : ∃ j : Nat, (n : Int) - 1 - k = j := ⟨n - 1 - k, by omega⟩;have hjn : j + k + 1 = n := by omega
   have hkj : k < j := by omega
   have hkj' : (k : Int) < j := by omega
   have hS : o + n * 4 <= cs.size := by rw [hsz2]; exact hsz.out
   have gt : ∀ e, e < n -> sgm n k e = e -> IsP cs (o + e * 4) := fun e he hse => by
    obtain ⟨s, a, kk, t, h0, h1, h2, h3⟩ := hp.out e he;have T : ∀ c, c < 4 -> cs[o + e * 4 + c]? = cur[o + e * 4 + c]? := fun c hc => by rw [hcs, Ii he hc, hse]
    exact ⟨s, a, kk, t, (T 0 (by omega)).trans h0, (T 1 (by omega)).trans h1, (T 2 (by omega)).trans h2, (T 3 (by omega)).trans h3⟩
   obtain ⟨sa, aa, ka, ta, ha0, ha1, ha2, ha3⟩ := gt k (by omega) (by unfold sgm; rw [if_neg (by omega)]);obtain ⟨sb, ab, kb, tb, hb0, hb1, hb2, hb3⟩ := gt j (by omega) (by unfold sgm; rw [if_neg (by omega)]);have HT := zz (Wc hjn hkj hS hcs ha0 ha1 ha2 ha3 hb0 hb1 hb2 hb3);have c0 : wr.cell? ⟨g, o + k * 4, none⟩ = some (.string sa) := by simp [World.cell?, hh, ha0]
   have c1 : wr.cell? ⟨g, o + k * 4 + 1, none⟩ = some (.int .i64 aa) := by simp [World.cell?, hh, ha1]
   have c2 : wr.cell? ⟨g, o + k * 4 + 2, none⟩ = some (.int .i64 ka) := by simp [World.cell?, hh, ha2]
   have c3 : wr.cell? ⟨g, o + k * 4 + 3, none⟩ = some (.int .i64 ta) := by simp [World.cell?, hh, ha3]
   have d0 : wr.cell? ⟨g, o + j * 4, none⟩ = some (.string sb) := by simp [World.cell?, hh, hb0]
   have d1 : wr.cell? ⟨g, o + j * 4 + 1, none⟩ = some (.int .i64 ab) := by simp [World.cell?, hh, hb1]
   have d2 : wr.cell? ⟨g, o + j * 4 + 2, none⟩ = some (.int .i64 kb) := by simp [World.cell?, hh, hb2]
   have d3 : wr.cell? ⟨g, o + j * 4 + 3, none⟩ = some (.int .i64 tb) := by simp [World.cell?, hh, hb3]
   have fz : ∀ q, wr.frozen? ⟨g, q, none⟩ = false := fun q => by simp [World.frozen?, hh]
   have hkn : (k : Int) < n := by omega
   have hjn' : (j : Int) < n := by omega
   have HJ := zz hjn;have HO := zz honl;have HH := zz hh;have HS := zz hsz2;have hlt' := zz hlt;rw [hj];have hw1 : IntKind.i64.wrap ((j : Int) - 1) = (j : Int) - 1 := by rw [IntKind.wrap_i64]; omega
   have hw2 : IntKind.i64.wrap ((k : Int) + 1) = ((k + 1 : Nat) : Int) := by rw [IntKind.wrap_i64]; omega
   have n1 : ((o : Int) + ↑(k * 4)).toNat = o + k * 4 := by omega
   clear hcs hS ha0 ha1 ha2 ha3 hb0 hb1 hb2 hb3 gt honl hh hsz2 hj hjn hkj hlt;go_wp2_with fail;go_region;rename_i hK;refine hK _ _ ?_;clear hK;obtain ⟨W, hW⟩ : ∃ W, W = ((((((((wr.setCell ⟨g, o + k * 4, none⟩ (.string sb)).setCell ⟨g, o + k * 4 + 1, none⟩ (.int .i64 ab)).setCell ⟨g, o + k * 4 + 2, none⟩ (.int .i64 kb)).setCell ⟨g, o + k * 4 + 3, none⟩ (.int .i64 tb)).setCell ⟨g, o + j * 4, none⟩ (.string sa)).setCell ⟨g, o + j * 4 + 1, none⟩ (.int .i64 aa)).setCell ⟨g, o + j * 4 + 2, none⟩ (.int .i64 ka)).setCell ⟨g, o + j * 4 + 3, none⟩ (.int .i64 ta)).drew := ⟨_, rfl⟩
   have HW : Hid (Onl g w W ∧ W.heap[g]? = some (.cells (a66 (a66 cs (o + k * 4) (.string sb) (.int .i64 ab) (.int .i64 kb) (.int .i64 tb)) (o + j * 4) (.string sa) (.int .i64 aa) (.int .i64 ka) (.int .i64 ta)) 71 (0, 0))) := by
    refine zz ⟨?_, ?_⟩
    ·rw [hW];exact a83 ((((((((HO.out.put _ _).put _ _).put _ _).put _ _).put _ _).put _ _).put _ _).put _ _)
    ·rw [hW, a1h];exact T8 (T8 HH.out)
   rw [<- hW];clear hW c0 c1 c2 c3 d0 d1 d2 d3 fz;go_wp2_with fail
   go_roundw
   case rel =>
    refine ⟨k + 1, ?_, rfl, ?_, HW.out.1, _, HW.out.2, ?_, HT.out⟩
    ·have := hlt'.out; omega
    ·have := HJ.out;congr 1; omega
    ·rw [O7, O7]; exact HS.out
   case measure =>
    have := hlt'.out;simp [intOf];omega
  ·have hlt' : ¬ ((k : Int) < (n : Int) - 1 - k) := by omega
   have HP : Hid (n <= 2 * k + 1 ∧ 2 * k <= n ∧ ∀ p, cs[p]? = Gk cur o n k p) := zz ⟨by omega, hk, hcs⟩;have HO := zz honl;have HH := zz hh;have HS := zz hsz2;clear hcs honl hh hsz2 hk hlt;go_wp2_with fail;refine bodyPost_end (v := .tuple #[]) (by simp [results, results85, go_sem]) rfl ⟨rfl, HO.out, cs, HH.out, HS.out, k, HP.out⟩
end
end Go.Proofs.YtoaplbljflhheaaGreat
