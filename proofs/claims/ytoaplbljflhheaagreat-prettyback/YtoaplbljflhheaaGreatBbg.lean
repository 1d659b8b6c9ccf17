/-
 Contracts and plain facts on the way to PrettyBack. Conditions: as each says.
-/
import Derived.Shelf.Strings.BuilderF
import Derived.Test.YtoaplbljflhheaaGreatBaz
set_option maxHeartbeats 40000000
set_option maxRecDepth 100000
set_option linter.unusedVariables false
set_option linter.unusedSimpArgs false
namespace Go.Proofs.YtoaplbljflhheaaGreat
open _root_.Go.Proofs.Tryz
section
open Go.RowKit Go.Sort
abbrev bR (b : Nat) : Value := .pointer (some ⟨b, 4, none⟩)
theorem Tryz.info66 : (Tryz.prog.info? 66).map (fun i => i.size) = some 2 := by kernel_rfl
theorem b9w : liesAt prog prog.depth 68 (6 / prog.cellsOf 68) 4 66 1 = true := by kernel_rfl
theorem a1m {w : World} {b : Nat} (h0 : w.cell? ⟨b, 4, none⟩ = some (bR b)) : Calls prog 120 #[bR b] w fun e w' => e = .returned (.tuple #[]) ∧ w' = w := by
 obtain ⟨j, hj, hjs⟩ := Option.map_eq_some_iff.1 Tryz.info66;have e1 : (binOp .neq 64 (bR b) (bR b)).run prog w = .ok (.bool false) w := Lib.run_neq_ptr_same w _ underlying64 hj;go_enter func120, ntmps120;go_wp2;refine bodyPost_end (v := .tuple #[]) (by simp [results, results120]) rfl ⟨rfl, rfl⟩
theorem X3 {w : World} {b : Nat} (h0 : w.cell? ⟨b, 4, none⟩ = some (.pointer none)) (hsh : w.shape? b = some (68, 6)) (hfz : w.frozen? ⟨b, 4, none⟩ = false) :
  Calls prog 120 #[bR b] w fun e w' => e = .returned (.tuple #[]) ∧ w' = w.setCell ⟨b, 4, none⟩ (bR b) := by
 obtain ⟨j, hj, hjs⟩ := Option.map_eq_some_iff.1 Tryz.info66;go_enter func120, ntmps120;go_wp2;rw [Lib.run_to_unsafe w ⟨b, 4, none⟩ underlying64 underlying155 hj (by rw [hjs]; decide) hsh (show (4 : Nat) < 6 by decide)];simp only [Result.andThen];rw [Oper.upon_value];go_wp2;rw [run_callFunc_extern func158 (by kernel_rfl) (by kernel_rfl) (by kernel_rfl) (e := Extern.AbiNoEscape.same) (by kernel_rfl)];rw [Lib.run_noEscape];simp only [Result.andThen];rw [Oper.upon_value];go_wp2;rw [Lib.run_from_unsafe w ⟨b, 4, none⟩ underlying155 underlying64 hj hsh b9w];simp only [Result.andThen];rw [Oper.upon_value];go_wp2;refine bodyPost_end (v := .tuple #[]) (by simp [results, results120]) rfl ⟨rfl, rfl⟩
structure Fs (b : Nat) (w w' : World) : Prop where
 os : w'.os = w.os
 tape : w'.tape = w.tape
 output : w'.output = w.output
 size : w.heap.size <= w'.heap.size
 low : ∀ k, k < b -> w'.heap[k]? = w.heap[k]?
 cells : ∀ k cs e fz, w.heap[k]? = some (.cells cs e fz) -> k ≠ b -> e ≠ 5 -> w'.heap[k]? = some (.cells cs e fz)
theorem Fs.fw {b : Nat} {w w' : World} (h : Fs b w w') : Fw b w w' := ⟨h.os, h.tape, h.output, h.size, h.low, fun k cs e fz h1 h2 _ h4 => h.cells k cs e fz h1 h2 h4⟩
theorem Fs.refl (b : Nat) (w : World) : Fs b w w := ⟨rfl, rfl, rfl, Nat.le_refl _, fun _ _ => rfl, fun _ _ _ _ h _ _ => h⟩
theorem Fs.trans {b : Nat} {x y z : World} (h : Fs b x y) (k : Fs b y z) : Fs b x z :=
 ⟨k.os.trans h.os, k.tape.trans h.tape, k.output.trans h.output, Nat.le_trans h.size k.size, fun i hi => (k.low i hi).trans (h.low i hi), fun i cs e fz h1 h2 h3 => k.cells i cs e fz (h.cells i cs e fz h1 h2 h3) h2 h3⟩
theorem Fs.below {b : Nat} {x y : World} (h : Below x.heap.size x y) (hb : b <= x.heap.size) : Fs b x y :=
 ⟨h.os, h.tape, h.output, h.size, fun i hi => h.block i (by omega), fun i cs e fz h1 _ _ => (h.block i (Ay h1)).trans h1⟩
theorem Fs.set (b : Nat) (w : World) (o : Nat) (u : Value) : Fs b w (w.setCell ⟨b, o, none⟩ u) :=
 ⟨rfl, rfl, rfl, by simp, fun i hi => Below.heap_setCell _ _ _ _ (by simp; omega), fun i cs e fz h1 h2 _ => by rw [Below.heap_setCell _ _ _ _ (by simpa using h2)]; exact h1⟩
def WrU (w : World) (b : Nat) (E : Env) (X : List Pc) (t : Int) (out : List UInt8) : Prop :=
 E.ok w b ∧ ∃ v u, w.heap[b]? = some (.cells #[.slice E.a E.n E.cap, .map (some E.mb), v, .int .i64 t, bR b, u] 68 (0, 0)) ∧ X9 w (b + 1) v X ∧ Own w (b + 1) u out
theorem WrU.wr {w : World} {b : Nat} {E : Env} {X : List Pc} {t : Int} {out : List UInt8} (h : WrU w b E X t out) : Wr w b E X t out := by
 obtain ⟨he, v, u, hb, h1, h2⟩ := h;exact ⟨he, v, _, u, hb, h1, h2, .inr rfl⟩
theorem a56 {w : World} {b : Nat} {E : Env} {X : List Pc} {t : Int} {out : List UInt8} (h : Wr w b E X t out) : Calls prog 120 #[bR b] w fun e w' => e = .returned (.tuple #[]) ∧ WrU w' b E X t out ∧ Fs b w w' := by
 obtain ⟨he, v, p, u, hb, hv, hu, hp⟩ := h;rcases hp with rfl | rfl
 ·refine (X3 (w := w) (b := b) (by simp [World.cell?, hb]) (by simp [World.shape?, hb]) (by simp [World.frozen?, hb])).mono ?_;rintro e w' ⟨rfl, rfl⟩;refine ⟨rfl, ⟨he.of fun k hk => Below.heap_setCell _ _ _ _ (by simp; omega), v, u, by simp [World.setCell, Array.getElem?_modify, hb], ownsRow_setCell_below hv (by simp) _, ownsRow_setCell_below hu (by simp) _⟩, Fs.set b w 4 _⟩
 ·refine (a1m (w := w) (b := b) (by simp [World.cell?, hb])).mono ?_;rintro e w' ⟨rfl, rfl⟩;exact ⟨rfl, ⟨he, v, u, hb, hv, hu⟩, Fs.refl b _⟩
theorem V6 {ops : Array Oper} {rest : List Oper} {o : Oper} {a : Act} {Q : Exit -> Act -> World -> Prop} {w : World} (hgd : o.guard = none) (s x : Operand)
  (ho : o.op = .call { callee := .builtin .append, args := #[s, x], argTypes := #[58, 9] }) (B : Nat) (v : Value) (l : List UInt8) (m : ByteArray) (hs : a.eval s = v)
  (hx : a.eval x = .string m) (hown : Own w B v l) (hB : B <= w.heap.size) (hl : l.length + m.size <= 100000000)
  (h : ∀ v' w', Own w' B v' (l ++ m.data.toList) -> w.grownBy w' v.ownBlock -> wpList prog ops Q rest (a.put o.dst v') w') : wpList prog ops Q (o :: rest) a w := by
 obtain ⟨i0, hi0, hz0, hz1, hz2⟩ := info_parts Tryz.info5;have hown' : w.ownsRow B 5 1 v l.length (l.map byt) := hown;refine Lib.wpList_append_own_string _ hgd s x 58 9 ho B 5 i0 underlying58 underlying9 hi0 hz0 hz1 hz2 v l.length (l.map byt) hs hown' m hx ?_ ?_ hB ?_
 ·unfold maxLen; omega
 ·omega
 ·intro v' w' h1 h2 _;exact h v' w' (Yz (m := m.data.toList) h1 (by rw [Array.length_toList]; rfl) (by simp [Lib.strCells])) h2
theorem a8x {w : World} {B : Nat} {v : Value} {l : List UInt8} (h : Own w B v l) : ∃ a n cap, v = .slice a n cap := by
 rcases h.2 with ⟨rfl, h0⟩ | ⟨g, cap, cur, rfl, _⟩
 ·exact ⟨none, 0, 0, rfl⟩
 ·exact ⟨_, _, cap, rfl⟩
theorem b6v {w W : World} {b : Nat} {E : Env} {X : List Pc} {t : Int} {out P : List UInt8} {v p u u' : Value} (he : E.ok w b) (hb : w.heap[b]? = some (.cells #[.slice E.a E.n E.cap, .map (some E.mb), v, .int .i64 t, p, u] 68 (0, 0)))
  (hv : X9 w (b + 1) v X) (hu : Own w (b + 1) u out) (hp : p = .pointer none ∨ p = .pointer (some ⟨b, 4, none⟩)) (ho : Own W (b + 1) u' (out ++ P)) (hg : w.grownBy W u.ownBlock) :
  Wr (W.setCell ⟨b, 5, none⟩ u') b E X t (out ++ P) ∧ Fs b w (W.setCell ⟨b, 5, none⟩ u') := by
 have hbl := Ay hb;have hnb : ∀ k, k <= b -> some k ≠ u.ownBlock := fun k hk e => by have := (Iq hu e.symm).1; omega
 have hW : ∀ k, k < w.heap.size -> some k ≠ u.ownBlock -> W.heap[k]? = w.heap[k]? := fun k hk hn => hg.block k hk hn
 have hWb : W.heap[b]? = some (.cells #[.slice E.a E.n E.cap, .map (some E.mb), v, .int .i64 t, p, u] 68 (0, 0)) := (hW b hbl (hnb b (Nat.le_refl _))).trans hb
 have hvW : X9 W (b + 1) v X := World.ownsRow.kept hv (row := u.ownBlock) hg (by
  cases hx : v.ownBlock with
  | none => exact .inl rfl
  | some k =>
   refine .inr fun e => ?_
   obtain ⟨_, cs, h1⟩ := Iq hu e.symm;obtain ⟨_, cs', h2⟩ := Ke hv hx;rw [h1] at h2
   cases h2)
 refine ⟨⟨he.of fun k hk => ?_, v, p, u', ?_, ownsRow_setCell_below hvW (by simp) _, ownsRow_setCell_below ho (by simp) _, hp⟩, ?_⟩
 ·rw [Below.heap_setCell _ _ _ _ (by simp; omega)];exact hW k (by omega) (hnb k (by omega))
 ·simp [World.setCell, Array.getElem?_modify, hWb]
 ·refine ⟨hg.os, hg.tape, hg.output, by simpa using hg.size, fun i hi => ?_, fun i cs e fz h1 h2 h4 => ?_⟩
  ·rw [Below.heap_setCell _ _ _ _ (by simp; omega)];exact hW i (by omega) (hnb i (by omega))
  ·rw [Below.heap_setCell _ _ _ _ (by simpa using h2), <- h1];refine hW i (Ay h1) fun e2 => ?_
   obtain ⟨_, cs', h5⟩ := Iq hu e2.symm;rw [h1] at h5;cases h5;exact h4 rfl
theorem b1u {w : World} {b : Nat} {E : Env} {X : List Pc} {t : Int} {out : List UInt8} (h : Wr w b E X t out) (s : ByteArray) (hl : out.length + s.size <= 100000000) :
  Calls prog 86 #[bR b, .string s] w fun e w' => e = .returned (.tuple #[.int .i64 s.size, .nilIface]) ∧ Wr w' b E X t (out ++ s.data.toList) ∧ Fs b w w' := by
 have C := zz (a56 h);clear h;go_enter func86, ntmps86;go_wp2_with fail;refine C.out.mono ?_;rintro e w1 ⟨rfl, ⟨he, v, u, hb, hv, hu⟩, hf1⟩;have c5 : w1.cell? ⟨b, 5, none⟩ = some u := by simp [World.cell?, hb]
 have f5 : w1.frozen? ⟨b, 5, none⟩ = false := by simp [World.frozen?, hb]
 have hbl : b < w1.heap.size := Ay hb;have HE := zz he;have HB := zz hb;have HV := zz hv;have HU := zz hu;have HF := zz hf1;clear he hb hv hu hf1 C;go_wp2_with (at_builtin; refine V6 rfl _ _ rfl (b + 1) u out s rfl rfl HU.out (by omega) hl ?_; intro v' w2 ho2 hg2; have hnb : some b ≠ u.ownBlock := (fun e => by have := (Iq HU.out e.symm).1; omega); have j2 := hg2.cell c5 hnb; have j3 := (World.frozen?_of_block (a := ⟨b, 5, none⟩) (hg2.block b hbl hnb)).trans f5; obtain ⟨a2, n2, cp2, rfl⟩ := a8x ho2; replace ho2 := zz ho2; replace hg2 := zz hg2);have := b6v HE.out HB.out HV.out HU.out (.inr rfl) ho2.out hg2.out;refine bodyPost_ret (v := .tuple #[.int .i64 s.size, .nilIface]) (by simp [results, results86, go_sem]) rfl ⟨rfl, this.1, HF.out.trans this.2⟩
theorem c0w : prog.cellsOf 5 = 1 := by kernel_rfl
theorem a7x {w : World} {b g cap : Nat} {cur : Array Value} {A M v t p : Value} {l : List UInt8} (hb : w.heap[b]? = some (.cells #[A, M, v, t, p, .slice (some ⟨g, 0, none⟩) l.length cap] 68 (0, 0))) (hown : Own w (b + 1) (.slice (some ⟨g, 0, none⟩) l.length cap) l) (h0 : l ≠ []) :
  Calls prog 50 #[bR b] w fun e w' => e = .returned (.string (bs l)) ∧ Below (b + 1) w w' := by
 have hl0 : l.length ≠ 0 := by simpa using h0
 obtain ⟨cur, hbg, hg, hnc, hcm, hcs, htake⟩ : ∃ cur, b + 1 <= g ∧ w.heap[g]? = some (.cells cur 5 (0, 0)) ∧ l.length <= cap ∧ cap <= maxLen ∧ cur.size = cap * 1 ∧ cur.toList.take (l.length * 1) = l.map byt := by
  rcases hown.2 with ⟨hv, _⟩ | ⟨g', cap', cur, hv, r⟩
  ·cases hv
  ·cases hv; exact ⟨cur, r⟩
 have c1 : w.drew.cell? ⟨b, 5, none⟩ = some (.slice (some ⟨g, 0, none⟩) l.length cap) := by
  have : w.drew.heap[b]? = some (.cells #[A, M, v, t, p, .slice (some ⟨g, 0, none⟩) l.length cap] 68 (0, 0)) := hb;simp [World.cell?, this]
 have hSD : (Builtin.unsafeSliceData_ #[58] 114 #[.slice (some ⟨g, 0, none⟩) l.length cap]).run prog w.drew = .ok (.pointer (some ⟨g, 0, none⟩)) w.drew :=
  Lib.run_unsafeSliceData_row _ _ _ _ _ _ (by omega)
 have hUS : (Builtin.unsafeString_ #[114, 3] 9 #[.pointer (some ⟨g, 0, none⟩), .int .i64 l.length]).run prog w.drew = .ok (.string (bs l)) (w.drew.freeze ⟨g, 0, none⟩ l.length) := by
  refine Lib.run_unsafeString_row w.drew 114 3 9 5 underlying114 c0w g cur.size (by have hg' : w.drew.heap[g]? = some (.cells cur 5 (0, 0)) := hg; simp [World.shape?, hg']) l h0 (by omega) (by unfold maxLen at hcm; omega) ?_;intro j x hx;have hown' : w.ownsRow (b + 1) 5 1 (.slice (some ⟨g, 0, none⟩) l.length cap) l.length (l.map byt) := hown;have := hown'.cells (g := g) rfl j (.int .u8 x.toNat) (by simp [hx]);exact this
 clear hown hb;have mixed : prog.follows Departure.mixedOrders = true := by kernel_rfl
 go_enter func50, ntmps50;go_wp2_with fail
 go_region_o
 all_goals (go_wp2_with fail)
 all_goals (refine bodyPost_ret (v := .string (bs l)) (by simp [results, results50, go_sem]) rfl ⟨rfl, Lib.below_freeze (Below.drew (Below.refl (b + 1) w)) (p := ⟨g, 0, none⟩) hbg _⟩)
theorem b3k {w : World} {b : Nat} {A M v t p : Value} (hb : w.heap[b]? = some (.cells #[A, M, v, t, p, .slice none 0 0] 68 (0, 0))) :
  Calls prog 50 #[bR b] w fun e w' => e = .returned (.string (bs [])) ∧ Below (b + 1) w w' := by
 have hUS : ∀ W : World, (Builtin.unsafeString_ #[114, 3] 9 #[.pointer none, .int .i64 0]).run prog W = .ok (.string (bs [])) W := fun W => Lib.run_unsafeString_none W _ _ _ none
 have c1 : w.drew.cell? ⟨b, 5, none⟩ = some (.slice none 0 0) := by
  have : w.drew.heap[b]? = some (.cells #[A, M, v, t, p, .slice none 0 0] 68 (0, 0)) := hb;simp [World.cell?, this]
 have hSD : (Builtin.unsafeSliceData_ #[58] 114 #[.slice none 0 0]).run prog w.drew = .ok (.pointer none) w.drew := rfl;clear hb;have mixed : prog.follows Departure.mixedOrders = true := by kernel_rfl
 go_enter func50, ntmps50;go_wp2_with fail
 go_region_o
 all_goals (go_wp2_with fail)
 all_goals (refine bodyPost_ret (v := .string (bs [])) (by simp [results, results50, go_sem]) rfl ⟨rfl, Below.drew (Below.refl (b + 1) w)⟩)
theorem b3j {w : World} {b g cap : Nat} {A M v t p : Value} (hc : cap ≠ 0) (hb : w.heap[b]? = some (.cells #[A, M, v, t, p, .slice (some ⟨g, 0, none⟩) 0 cap] 68 (0, 0))) :
  Calls prog 50 #[bR b] w fun e w' => e = .returned (.string (bs [])) ∧ Below (b + 1) w w' := by
 have hUS : ∀ W : World, (Builtin.unsafeString_ #[114, 3] 9 #[.pointer (some ⟨g, 0, none⟩), .int .i64 0]).run prog W = .ok (.string (bs [])) W := fun W => Lib.run_unsafeString_none W _ _ _ _
 have c1 : w.drew.cell? ⟨b, 5, none⟩ = some (.slice (some ⟨g, 0, none⟩) 0 cap) := by
  have : w.drew.heap[b]? = some (.cells #[A, M, v, t, p, .slice (some ⟨g, 0, none⟩) 0 cap] 68 (0, 0)) := hb;simp [World.cell?, this]
 have hSD : (Builtin.unsafeSliceData_ #[58] 114 #[.slice (some ⟨g, 0, none⟩) 0 cap]).run prog w.drew = .ok (.pointer (some ⟨g, 0, none⟩)) w.drew :=
  Lib.run_unsafeSliceData_row _ _ _ _ _ _ (by omega)
 clear hb;have mixed : prog.follows Departure.mixedOrders = true := by kernel_rfl
 go_enter func50, ntmps50;go_wp2_with fail
 go_region_o
 all_goals (go_wp2_with fail)
 all_goals (refine bodyPost_ret (v := .string (bs [])) (by simp [results, results50, go_sem]) rfl ⟨rfl, Below.drew (Below.refl (b + 1) w)⟩)
theorem a7w {w : World} {b g : Nat} {A M v t p : Value} {cur : Array Value} (hg : w.heap[g]? = some (.cells cur 5 (0, 0))) (hb : w.heap[b]? = some (.cells #[A, M, v, t, p, .slice (some ⟨g, 0, none⟩) 0 0] 68 (0, 0))) :
  Calls prog 50 #[bR b] w fun e w' => e = .returned (.string (bs [])) ∧ Below (b + 1) w w' := by
 have hUS : ∀ W : World, (Builtin.unsafeString_ #[114, 3] 9 #[.pointer (some ⟨w.heap.size, 0, none⟩), .int .i64 0]).run prog W = .ok (.string (bs [])) W := fun W => Lib.run_unsafeString_none W _ _ _ _
 have hbd : w.drew.heap[b]? = some (.cells #[A, M, v, t, p, .slice (some ⟨g, 0, none⟩) 0 0] 68 (0, 0)) := hb;have c1 : w.drew.cell? ⟨b, 5, none⟩ = some (.slice (some ⟨g, 0, none⟩) 0 0) := by simp [World.cell?, hbd]
 have c2 : (w.drew.alloc (.view ⟨g, 0, none⟩ 5)).cell? ⟨b, 5, none⟩ = some (.slice (some ⟨g, 0, none⟩) 0 0) := Ae c1 _
 have hSD : (Builtin.unsafeSliceData_ #[58] 114 #[.slice (some ⟨g, 0, none⟩) 0 0]).run prog w.drew = .ok (.pointer (some ⟨w.drew.heap.size, 0, none⟩)) (w.drew.alloc (.view ⟨g, 0, none⟩ 5)) :=
  Lib.run_unsafeSliceData_zero w.drew _ _ _ underlying114 ⟨g, 0, none⟩ 0 (5, cur.size) (by have hg' : w.drew.heap[g]? = some (.cells cur 5 (0, 0)) := hg; simp [World.shape?, hg'])
 have hS : b + 1 <= w.heap.size := Ay hb;have c0 : w.cell? ⟨b, 5, none⟩ = some (.slice (some ⟨g, 0, none⟩) 0 0) := c1;have c3 : (w.alloc (.view ⟨g, 0, none⟩ 5)).cell? ⟨b, 5, none⟩ = some (.slice (some ⟨g, 0, none⟩) 0 0) := Ae c0 _;have HB : Hid (Below (b + 1) w (w.alloc (.view ⟨g, 0, none⟩ 5)).drew) := zz (Below.drew (by go_grown));clear hb hbd hg;have mixed : prog.follows Departure.mixedOrders = true := by kernel_rfl
 go_enter func50, ntmps50;go_wp2_with fail
 go_region_o
 all_goals (go_wp2_with fail)
 all_goals (refine bodyPost_ret (v := .string (bs [])) (by simp [results, results50, go_sem]) rfl ⟨rfl, HB.out⟩)
theorem b6t {w : World} {b : Nat} {E : Env} {X : List Pc} {t : Int} {out : List UInt8} (h : Wr w b E X t out) (t' : Int) : Wr (w.setCell ⟨b, 3, none⟩ (.int .i64 t')) b E X t' out ∧ Fs b w (w.setCell ⟨b, 3, none⟩ (.int .i64 t')) := by
 obtain ⟨he, v, p, u, hb, hv, hu, hp⟩ := h;exact ⟨⟨he.of fun k hk => Below.heap_setCell _ _ _ _ (by simp; omega), v, p, u, by simp [World.setCell, Array.getElem?_modify, hb], ownsRow_setCell_below hv (by simp) _, ownsRow_setCell_below hu (by simp) _, hp⟩, Fs.set b w 3 _⟩
theorem b3l {w : World} {b : Nat} {E : Env} {X : List Pc} {t : Int} {out : List UInt8} (h : Wr w b E X t out) :
  Calls prog 50 #[bR b] w fun e w' => e = .returned (.string (bs out)) ∧ Below (b + 1) w w' := by
 obtain ⟨he, v, p, u, hb, hv, hu, hp⟩ := h;rcases hu.2 with ⟨rfl, h0⟩ | ⟨g, cap, cur, rfl, hbg, hg, hr⟩
 ·obtain rfl := List.eq_nil_of_length_eq_zero h0;exact b3k hb
 ·by_cases h0 : out = []
  ·subst h0;by_cases hc : cap = 0
   ·subst hc;exact a7w hg hb
   ·exact b3j hc hb
  ·exact a7x (cur := cur) hb hu h0
end
end Go.Proofs.YtoaplbljflhheaaGreat
