/-
 Contracts and plain facts on the way to PrettyBack. Conditions: as each says.
-/
import Derived.Test.YtoaplbljflhheaaGreatBbj
import Derived.Test.YtoaplbljflhheaaGreatBbs
set_option maxHeartbeats 40000000
set_option maxRecDepth 100000
set_option linter.unusedVariables false
set_option linter.unusedSimpArgs false
namespace Go.Proofs.YtoaplbljflhheaaGreat
open _root_.Go.Proofs.Tryz
section
open Go.RowKit Go.Sort
theorem Wr.left {w : World} {b : Nat} {E : Env} {X : List Pc} {t : Int} {out : List UInt8} (h : Wr w b E X t out) : ∃ a cap, w.cell? ⟨b, 2, none⟩ = some (.slice a X.length cap) ∧ (a = none ∧ cap = 0 ∧ X = [] ∨ ∃ g, a = some ⟨g, 0, none⟩ ∧ X.length <= cap) := by
 obtain ⟨he, v, p, u, hb, hv, hu, hp⟩ := h;have c : w.cell? ⟨b, 2, none⟩ = some v := by simp [World.cell?, hb]
 rcases hv.2 with ⟨rfl, h0⟩ | ⟨g, cap, cur, rfl, _, _, h1, _⟩
 ·obtain rfl := List.eq_nil_of_length_eq_zero h0;exact ⟨none, 0, c, .inl ⟨rfl, rfl, rfl⟩⟩
 ·exact ⟨_, cap, c, .inr ⟨g, rfl, h1⟩⟩
theorem Z5 {w : World} {b : Nat} {E : Env} {X : List Pc} {t : Int} {out : List UInt8} (h : Wr w b E X t out) (hX : X.length <= 80000000) {p : Nat} (hp : p < E.n) (s : ByteArray) (k q : Nat) (d : Int) (hq : b4v (nd E.l p).kind (nd E.l p).num = q)
  (hs : (nd E.l p).kind = 30 ∨ (nd E.l p).kind = 31 -> (nd E.l p).num ∈ sgE.map (·.1)) (hlt : q < k) {Q : List Pc} (hQ : Q = [tP [40], nP p, tP [41]]) :
  Calls prog 47 #[pR b, pcV s p k d] w fun e w' => e = .returned (.tuple #[]) ∧ Wr w' b E (X ++ Q.reverse) t out ∧ Fw b w w' := by
 have hbl := h.lt;have hlen := hX;have h1 := h.carry (Aa w (.cells #[.string s, .int .i64 p, .int .i64 k, .int .i64 d] 71));obtain ⟨a, cap, c2, -⟩ := h1.left;have hx : (w.alloc (.cells #[.string s, .int .i64 p, .int .i64 k, .int .i64 d] 71)).heap[w.heap.size]? = some (.cells #[.string s, .int .i64 p, .int .i64 k, .int .i64 d] 71 (0, 0)) := heap_alloc_new w _;have HW1 := zz h1;have HX := zz hx;have HF1 : Hid (Fw b w (w.alloc (.cells #[.string s, .int .i64 p, .int .i64 k, .int .i64 d] 71))) := zz (Fw.below (Aa w _) (by omega));clear h h1 hx;go_enter func47, ntmps47;go_wp2_with fail;generalize (w.alloc (.cells #[.string s, .int .i64 p, .int .i64 k, .int .i64 d] 71)) = W at *;have y1 := fun D os => cell_regrown (w := W) (a := ⟨w.heap.size, 1, none⟩) (v := .int .i64 p) (by rw [Lib.cell_of_heap HX.out]; rfl) D os
 have y2 := fun D os => cell_regrown (w := W) (a := ⟨w.heap.size, 2, none⟩) (v := .int .i64 k) (by rw [Lib.cell_of_heap HX.out]; rfl) D os
 have TL : ∀ D os, Calls prog 81 #[pR b, .int .i64 p] (grow (redrawn W D) os) fun e w'' => e = .returned (.int .i64 q) ∧ ∃ p : Regrown, w'' = grow (redrawn W p.d) p.os := fun D os => Calls.regrown_of (U9 (HW1.out.carry (below_regrown _ _ _)) hp q hq hs)
 clear c2;refine Ce 6 (by kernel_rfl) (by kernel_rfl) ?_;simp only [List.take_succ_cons, List.take_zero, List.drop_succ_cons, List.drop_zero]
 repeat (quiet_step (first | with_reducible exact TL _ _))
 refine wpQuiet_nil ?_;rintro _ ⟨⟨dq, osq⟩, rfl⟩;have hb := below_regrown W dq osq;generalize grow (redrawn W dq) osq = w1 at *;have HW2 := zz (HW1.out.carry hb);have HF2 : Hid (Fw b w w1) := zz (HF1.out.trans (Fw.below hb (Nat.le_of_lt HW1.out.lt)));have HX2 : Hid (w1.heap[w.heap.size]? = some (.cells #[.string s, .int .i64 p, .int .i64 k, .int .i64 d] 71 (0, 0))) := zz ((hb.block _ (Ay HX.out)).trans HX.out);clear HW1 HF1 HX y1 y2 TL hb;clear W;have hlt' : (q : Int) < k := by omega
 go_wp2_with fail;have y1 := fun D os => cell_regrown (w := w1) (a := ⟨w.heap.size, 1, none⟩) (v := .int .i64 p) (by rw [Lib.cell_of_heap HX2.out]; rfl) D os
 refine A5 6 3 [18, 21, 22] [pcV { data := #[40] } 0 0 0, pcV { data := #[] } p 0 0, pcV { data := #[41] } 0 0 0] #[.string { data := #[40] }, .int .i64 0, .int .i64 0, .int .i64 0, .string { data := #[] }, .int .i64 p, .int .i64 0, .int .i64 0, .string { data := #[41] }, .int .i64 0, .int .i64 0, .int .i64 0] [tP [40], nP p, tP [41]] _ (by rfl) (by kernel_rfl) (by kernel_rfl) (by rfl) ?al ?go
 case al =>
  intro a w K hA h;refine Bw rfl rfl ?_;simp [Ca, go_sem] at hA;go_simp;exact h
 case go =>
 simp only [List.take_succ_cons, List.take_zero, List.drop_succ_cons, List.drop_zero]
 repeat (refine Be (fun K hK => ?_); go_simp; first | (refine hK _ ?_; clear hK K) | (apply Exists.intro; refine ⟨fun _ => ?_, hK _ ?_⟩; (first | with_reducible exact Dn _ _ | with_reducible exact Dp _ _); clear hK K))
 refine B8 ⟨by simp [Ca, go_sem], ?_⟩;intro g W hbW hl;replace hbW := zz hbW;clear y1;go_wp2_with fail;refine (Ar (HW2.out.carry hbW.out) (P := [tP [40], nP p, tP [41]]) (k := 3) rfl hl (by omega)).mono ?_;rintro e V2 ⟨rfl, hw2, hf2⟩;replace hw2 := zz hw2;replace hf2 := zz ((HF2.out.trans (Fw.below hbW.out (Nat.le_of_lt HW2.out.lt))).trans hf2);clear HW2 HF2 hl hbW HX2;have hQl : Q.length <= 1000000 := by rw [hQ]; simp
 rw [<- hQ] at hw2;clear hQ;have hlen2 : (X ++ Q).length = X.length + Q.length := List.length_append;obtain ⟨a2, cap2, c2, ha2⟩ := hw2.out.left;have f2 := hw2.out.cells.2.2.2;rcases ha2 with ⟨rfl, rfl, hnil⟩ | ⟨g2, rfl, hcap2⟩
 ·have hX0 : X = [] := (List.append_eq_nil_iff.1 hnil).1;have hQ0 : Q = [] := (List.append_eq_nil_iff.1 hnil).2;subst hX0;subst hQ0;simp only [List.append_nil, List.length_nil] at c2;go_wp2_with (go_at_call 85; refine (Of (V := V2) (a := none) (c := 0)).mono ?_; rintro e w3 ⟨rfl, rfl⟩);refine bodyPost_end (v := .tuple #[]) (by simp [results, results47]) rfl ⟨rfl, ?_, hf2.out⟩;simpa using hw2.out
 ·have hi1 : (X.length : Int) <= (X ++ Q).length := by omega
  have hi2 : ((X ++ Q).length : Int) <= cap2 := by omega
  have hi3 : ((X.length : Nat) : Int).toNat = X.length := by omega
  have hsub : (X ++ Q).length - X.length = Q.length := by omega
  have hcc := c2;replace hcc := zz hcc;have hQn : cap2 = X.length -> Q = [] := fun e => List.eq_nil_of_length_eq_zero (by omega)
  go_wp2_with fail
  ·have he : cap2 = X.length := by assumption
   obtain rfl := hQn he;refine (Of (V := V2) (a := some ⟨g2, 0, none⟩) (c := 0)).mono ?_;rintro e w3 ⟨rfl, rfl⟩;go_wp2_with fail;refine bodyPost_end (v := .tuple #[]) (by simp [results, results47]) rfl ⟨rfl, ?_, hf2.out⟩;simpa using hw2.out
  ·refine (b10 hw2.out hcc.out (by omega) (cap2 - X.length)).mono ?_;rintro e w3 ⟨rfl, hw3, hf3⟩;go_wp2_with fail;exact bodyPost_end (v := .tuple #[]) (by simp [results, results47]) rfl ⟨rfl, hw3, hf2.out.trans hf3⟩
theorem Z4 {w : World} {b : Nat} {E : Env} {X : List Pc} {t : Int} {out : List UInt8} (h : Wr w b E X t out) (hX : X.length <= 80000000) {p : Nat} (hp : p < E.n) (s : ByteArray) (k q : Nat) (d : Int) (hq : b4v (nd E.l p).kind (nd E.l p).num = q)
  (hs : (nd E.l p).kind = 30 ∨ (nd E.l p).kind = 31 -> (nd E.l p).num ∈ sgE.map (·.1)) (hlt : ¬ q < k) {Q : List Pc} (hQl : Q.length <= 10000000) (HC : Hid (∀ V, Wr V b E X t out -> Calls prog 84 #[pR b, .int .i64 p] V (Put b E X t out Q V))) :
  Calls prog 47 #[pR b, pcV s p k d] w fun e w' => e = .returned (.tuple #[]) ∧ Wr w' b E (X ++ Q.reverse) t out ∧ Fw b w w' := by
 have hbl := h.lt;have hlen := hX;have h1 := h.carry (Aa w (.cells #[.string s, .int .i64 p, .int .i64 k, .int .i64 d] 71));obtain ⟨a, cap, c2, -⟩ := h1.left;have hx : (w.alloc (.cells #[.string s, .int .i64 p, .int .i64 k, .int .i64 d] 71)).heap[w.heap.size]? = some (.cells #[.string s, .int .i64 p, .int .i64 k, .int .i64 d] 71 (0, 0)) := heap_alloc_new w _;have HW1 := zz h1;have HX := zz hx;have HF1 : Hid (Fw b w (w.alloc (.cells #[.string s, .int .i64 p, .int .i64 k, .int .i64 d] 71))) := zz (Fw.below (Aa w _) (by omega));clear h h1 hx;go_enter func47, ntmps47;go_wp2_with fail;generalize (w.alloc (.cells #[.string s, .int .i64 p, .int .i64 k, .int .i64 d] 71)) = W at *;have y1 := fun D os => cell_regrown (w := W) (a := ⟨w.heap.size, 1, none⟩) (v := .int .i64 p) (by rw [Lib.cell_of_heap HX.out]; rfl) D os
 have y2 := fun D os => cell_regrown (w := W) (a := ⟨w.heap.size, 2, none⟩) (v := .int .i64 k) (by rw [Lib.cell_of_heap HX.out]; rfl) D os
 have TL : ∀ D os, Calls prog 81 #[pR b, .int .i64 p] (grow (redrawn W D) os) fun e w'' => e = .returned (.int .i64 q) ∧ ∃ p : Regrown, w'' = grow (redrawn W p.d) p.os := fun D os => Calls.regrown_of (U9 (HW1.out.carry (below_regrown _ _ _)) hp q hq hs)
 clear c2;refine Ce 6 (by kernel_rfl) (by kernel_rfl) ?_;simp only [List.take_succ_cons, List.take_zero, List.drop_succ_cons, List.drop_zero]
 repeat (quiet_step (first | with_reducible exact TL _ _))
 refine wpQuiet_nil ?_;rintro _ ⟨⟨dq, osq⟩, rfl⟩;have hb := below_regrown W dq osq;generalize grow (redrawn W dq) osq = w1 at *;have HW2 := zz (HW1.out.carry hb);have HF2 : Hid (Fw b w w1) := zz (HF1.out.trans (Fw.below hb (Nat.le_of_lt HW1.out.lt)));have HX2 : Hid (w1.heap[w.heap.size]? = some (.cells #[.string s, .int .i64 p, .int .i64 k, .int .i64 d] 71 (0, 0))) := zz ((hb.block _ (Ay HX.out)).trans HX.out);clear HW1 HF1 HX y1 y2 TL hb;clear W;have hlt' : ¬ (q : Int) < k := by omega
 have y1 : w1.cell? ⟨w.heap.size, 1, none⟩ = some (.int .i64 p) := by rw [Lib.cell_of_heap HX2.out]; rfl
 go_wp2_with fail;refine (HC.out _ HW2.out).mono ?_;rintro e V2 ⟨rfl, hw2, hf2⟩;replace hw2 := zz hw2;replace hf2 := zz (HF2.out.trans hf2);clear HW2 HF2 HX2 y1;have hlen2 : (X ++ Q).length = X.length + Q.length := List.length_append;obtain ⟨a2, cap2, c2, ha2⟩ := hw2.out.left;have f2 := hw2.out.cells.2.2.2;rcases ha2 with ⟨rfl, rfl, hnil⟩ | ⟨g2, rfl, hcap2⟩
 ·have hX0 : X = [] := (List.append_eq_nil_iff.1 hnil).1;have hQ0 : Q = [] := (List.append_eq_nil_iff.1 hnil).2;subst hX0;subst hQ0;simp only [List.append_nil, List.length_nil] at c2;go_wp2_with (go_at_call 85; refine (Of (V := V2) (a := none) (c := 0)).mono ?_; rintro e w3 ⟨rfl, rfl⟩);refine bodyPost_end (v := .tuple #[]) (by simp [results, results47]) rfl ⟨rfl, ?_, hf2.out⟩;simpa using hw2.out
 ·have hi1 : (X.length : Int) <= (X ++ Q).length := by omega
  have hi2 : ((X ++ Q).length : Int) <= cap2 := by omega
  have hi3 : ((X.length : Nat) : Int).toNat = X.length := by omega
  have hsub : (X ++ Q).length - X.length = Q.length := by omega
  have hcc := c2;replace hcc := zz hcc;have hQn : cap2 = X.length -> Q = [] := fun e => List.eq_nil_of_length_eq_zero (by omega)
  go_wp2_with fail
  ·have he : cap2 = X.length := by assumption
   obtain rfl := hQn he;refine (Of (V := V2) (a := some ⟨g2, 0, none⟩) (c := 0)).mono ?_;rintro e w3 ⟨rfl, rfl⟩;go_wp2_with fail;refine bodyPost_end (v := .tuple #[]) (by simp [results, results47]) rfl ⟨rfl, ?_, hf2.out⟩;simpa using hw2.out
  ·refine (b10 hw2.out hcc.out (by omega) (cap2 - X.length)).mono ?_;rintro e w3 ⟨rfl, hw3, hf3⟩;go_wp2_with fail;exact bodyPost_end (v := .tuple #[]) (by simp [results, results47]) rfl ⟨rfl, hw3, hf2.out.trans hf3⟩
end
end Go.Proofs.YtoaplbljflhheaaGreat
